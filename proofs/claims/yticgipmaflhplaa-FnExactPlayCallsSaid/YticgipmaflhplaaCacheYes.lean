/-
  The specification's GoodCache says true of a cache that is good in its world.
-/
import Derived.Test.YticgipmaflhplaaProg
import Derived.Test.YticgipmaflhplaaMagMath
import Derived.Test.YticgipmaflhplaaWorldMath
import Derived.Test.YticgipmaflhplaaCacheMath
import Derived.Test.YticgipmaflhplaaPlayMath
import Derived.Test.YticgipmaflhplaaInts
import Derived.Test.YticgipmaflhplaaDeep
import Derived.Test.YticgipmaflhplaaDeepRow
import Derived.Test.YticgipmaflhplaaDeepC
import Derived.Test.YticgipmaflhplaaWorldSpec
import Derived.Test.YticgipmaflhplaaCacheSpec
import Derived.WalkKit
import Derived.WalkSpells
import Derived.Below
import Derived.Handy
import Derived.Deep.DeepFit
import Derived.Deep.RegionHeld3
import Derived.Deep.DeepCutAuto
namespace Go.Proofs.Yticgipmaflhplaa.walks
open Go.RowKit Go.Proofs.Yticgipmaflhplaa.math Go.Proofs.Yticgipmaflhplaa.ints Go.Proofs.Yticgipmaflhplaa.deep
set_option linter.unusedVariables false
set_option maxRecDepth 100000

/-- One way of a cache. -/
theorem way_at {W wr : World} {a : Option Addr} {l i : Nat} {zs : List Int} (h : Ints W a zs) (hl : zs.length = l * 2) (hB : Below W.heap.size W wr) (hi : i < l) : ∃ b o, a = some ⟨b, o, none⟩ ∧ b < W.heap.size ∧ wr.cell? ⟨b, o + i * 2, none⟩ = some (.int .i64 (clZ zs i)) ∧ wr.cell? ⟨b, o + i * 2 + 1, none⟩ = some (.int .i64 (tgZ zs i)) := by
  obtain ⟨b, o, ha, h1⟩ := h.at (Below.refl _ _) (k := i * 2) (by omega)
  obtain ⟨b2, o2, ha2, h2⟩ := h.at (Below.refl _ _) (k := i * 2 + 1) (by omega)
  rw [ha] at ha2
  simp only [Option.some.injEq, Addr.mk.injEq, and_true] at ha2
  obtain ⟨rfl, rfl⟩ := ha2
  have hb : b < W.heap.size := World.block_lt_of_cell? W _ h1
  exact ⟨b, o, ha, hb, (hB.cell (p := ⟨b, o + i * 2, none⟩) hb).trans h1, (hB.cell (p := ⟨b, o + i * 2 + 1, none⟩) hb).trans (by rw [Nat.add_assoc]; exact h2)⟩
set_option maxHeartbeats 8000000 in
theorem spec_good_yes (pa : Option Addr) (n pcap : Nat) (cs : Nat → Dv) (st : Int) (m : Nat) (c : Cst) (a : Option Addr) (cap : Nat) (d : Bool) (W : World) (hf : Hid (Fits shClassS (.l n 2 cs))) (hs : Hid (szD (.l n 2 cs) ≤ 1048576)) (hh : Hid (Holds W d (.l n 2 cs) (.slice pa n pcap))) (hw : Hid (worldB cs n st = true)) (hm : m < 5)
    (g : Hid (GoodC cs n m c)) (h0 : 0 ≤ c.h) (h1 : c.h ≤ 1000) (k0 : 0 ≤ c.lk) (k1 : c.lk ≤ 1000) (hcap : c.l ≤ cap) (hc : Hid (Ints W a c.zs)) :
    Calls Try.prog 65 #[.agg #[.slice pa n pcap, .int .i64 st], .agg #[.int .i64 (m : Int), .int .i64 c.s, .slice a c.l cap, .int .i64 st, .int .i64 c.h, .int .i64 c.lk]] W fun e W' => e = .returned (.bool true) ∧ Below W.heap.size W W' := by
  obtain ⟨⟨hn0, hn1⟩, ⟨st0, st1⟩, hok⟩ := world_out hw.out
  have HOK : Hid (∀ k, k < n → ClassOk cs k) := hok
  clear hok
  obtain ⟨s, l, zs, h, lk⟩ := c
  have HLN : Hid (zs.length = l * 2) := g.out.len
  have HST := g.out.st
  have hl4 : l ≤ 4 := g.out.few
  have HWY : Hid (∀ i, i < l → (0 ≤ clZ zs i ∧ clZ zs i < (n : Int)) ∧ (1 ≤ tgZ zs i ∧ tgZ zs i ≤ 1000) ∧ findC cs (clZ zs i) m = tgZ zs i ∧ ∀ j, j < i → clZ zs j ≠ clZ zs i) := g.out.way
  have hc : Hid (Ints W a zs) := hc
  have HST : stateB s l = true := HST
  have hcap : l ≤ cap := hcap
  have h0 : 0 ≤ h := h0
  have h1 : h ≤ 1000 := h1
  have k0 : 0 ≤ lk := k0
  have k1 : lk ≤ 1000 := k1
  show Calls _ _ #[_, .agg #[.int .i64 (m : Int), .int .i64 s, .slice a l cap, .int .i64 st, .int .i64 h, .int .i64 lk]] _ _
  clear g
  have i0 : inR (m : Int) 0 4 = true := inR_mk (by omega) (by omega)
  have i1 : inR st 0 st = true := inR_mk st0 (Int.le_refl _)
  have i2 : inR h 0 1000000 = true := inR_mk h0 (by omega)
  have i3 : inR lk 0 1000000 = true := inR_mk k0 (by omega)
  obtain ⟨X, hX⟩ : ∃ X, Hid ((W.alloc (.cells #[.slice pa n pcap, .int .i64 st] 29)).alloc (.cells #[.int .i64 (m : Int), .int .i64 s, .slice a l cap, .int .i64 st, .int .i64 h, .int .i64 lk] 42) = X) := ⟨_, rfl⟩
  have HX : Hid (Below W.heap.size W X) := by show Below _ _ _; rw [← hX.out]; go_grown
  have HRX : Hid (X.rowIs W.heap.size 29 2 (rowF [.slice pa n pcap, .int .i64 st])) := by show World.rowIs _ _ _ _ _; rw [← hX.out]; exact (row_of W #[.slice pa n pcap, .int .i64 st] _).alloc _
  have HCX : Hid (X.rowIs (W.heap.size + 1) 42 6 (rowF [.int .i64 (m : Int), .int .i64 s, .slice a l cap, .int .i64 st, .int .i64 h, .int .i64 lk])) := by
    have q := row_of (W.alloc (.cells #[.slice pa n pcap, .int .i64 st] 29)) #[.int .i64 (m : Int), .int .i64 s, .slice a l cap, .int .i64 st, .int .i64 h, .int .i64 lk] 42
    rw [show (W.alloc (.cells #[.slice pa n pcap, .int .i64 st] 29)).heap.size = W.heap.size + 1 by simp] at q
    show World.rowIs _ _ _ _ _
    rw [← hX.out]; exact q
  have HSS : Hid (∀ w, Below X.heap.size X w → (w.cell? ⟨W.heap.size, 0, none⟩ = some (.slice pa n pcap) ∧ w.cell? ⟨W.heap.size, 1, none⟩ = some (.int .i64 st)) ∧ w.cell? ⟨W.heap.size + 1, 0, none⟩ = some (.int .i64 (m : Int)) ∧ w.cell? ⟨W.heap.size + 1, 1, none⟩ = some (.int .i64 s) ∧ w.cell? ⟨W.heap.size + 1, 2, none⟩ = some (.slice a l cap) ∧ w.cell? ⟨W.heap.size + 1, 3, none⟩ = some (.int .i64 st) ∧ w.cell? ⟨W.heap.size + 1, 4, none⟩ = some (.int .i64 h) ∧ w.cell? ⟨W.heap.size + 1, 5, none⟩ = some (.int .i64 lk)) := fun w q => by
    have r := HRX.out.of_block (q.block _ HRX.out.lt)
    have t := HCX.out.of_block (q.block _ HCX.out.lt)
    exact ⟨⟨r.cell (i := 0) (by decide), r.cell (i := 1) (by decide)⟩, t.cell (i := 0) (by decide), t.cell (i := 1) (by decide), t.cell (i := 2) (by decide), t.cell (i := 3) (by decide), t.cell (i := 4) (by decide), t.cell (i := 5) (by decide)⟩
  have hcw := spec_world pa n pcap cs st d X hf hs (hh.out.kept HX.out)
  rw [hw.out] at hcw
  go_enter Try.func65, Try.ntmps65
  go_wp2_with fail
  rw [hX.out]
  clear hX
  refine hcw.mono ?_
  rintro e w1 ⟨rfl, hB⟩
  have X1 : Hid (Below X.heap.size X w1) := hB
  clear hB hcw
  obtain ⟨⟨p0, p1⟩, q0, q1, q2, q3, q4, q5⟩ := HSS.out w1 X1.out
  go_wp2_with (first | (go_at_call 40; refine (name_quiet i0 _).mono ?_; rintro e w' ⟨rfl, hw'⟩; rw [hw']; clear hw' w') | (go_at_call 76; refine (state_quiet HST (by omega) _).mono ?_; rintro e w' ⟨rfl, hw'⟩; rw [hw']; clear hw' w') | (go_at_call 34; (first | go_fit (in_quiet i1 _) | go_fit (in_quiet i2 _) | go_fit (in_quiet i3 _)); rintro e w' ⟨rfl, hw'⟩; rw [hw']; clear hw' w'))
  clear p0 p1 q0 q1 q2 q3 q4 q5
  go_loopw [50] (fun vi wr => ∃ i : Nat, i ≤ l ∧ vi = .int .i64 i ∧ Hid (Below X.heap.size X wr)) (fun vi _ => l - (intOf vi).toNat)
  case atStart => exact ⟨0, Nat.zero_le _, rfl, X1⟩
  case round =>
    obtain ⟨i, hi, rfl, HB⟩ := hrel
    have HBW : Hid (Below W.heap.size W wr) := HX.out.trans (HB.out.mono HX.out.size)
    by_cases hlt : i < l
    rotate_left
    · go_wp2
      go_ret
      exact ⟨rfl, HBW.out⟩
    have hltI : (i : Int) < (l : Int) := by omega
    obtain ⟨b, o, ha, hbw, c0, c1⟩ := way_at hc.out HLN.out HBW.out hlt
    obtain ⟨⟨ck0, ck1⟩, ⟨ct0, ct1⟩, cf, cd⟩ := HWY.out i hlt
    have HCD : Hid (∀ j, j < i → clZ zs j ≠ clZ zs i) := cd
    have HCF : Hid (findC cs (clZ zs i) m = tgZ zs i) := cf
    clear cd cf
    obtain ⟨k, HK⟩ : ∃ k, Hid (clZ zs i = k) := ⟨_, rfl⟩
    obtain ⟨t, HT⟩ : ∃ t, Hid (tgZ zs i = t) := ⟨_, rfl⟩
    rw [HK.out] at c0 ck0 ck1 HCD HCF
    rw [HT.out] at c1 ct0 ct1 HCF
    subst ha
    have hbr : b < wr.heap.size := by have := HBW.out.size; omega
    obtain ⟨Y, hY⟩ : ∃ Y, Hid (wr.alloc (.cells #[.int .i64 k, .int .i64 t] 107) = Y) := ⟨_, rfl⟩
    have HYB : Hid (Below wr.heap.size wr Y) := by show Below _ _ _; rw [← hY.out]; repeat (first | exact Below.refl _ _ | refine Below.drew ?_ | refine Below.setCell ?_ (by simp; try omega) _ | refine Below.alloc ?_ (by simp; try omega) _)
    have HYX : Hid (Below X.heap.size X Y) := HB.out.trans (HYB.out.mono HB.out.size)
    have HYW : Hid (Below W.heap.size W Y) := HX.out.trans (HYX.out.mono HX.out.size)
    have y0 : Y.cell? ⟨wr.heap.size, 0, none⟩ = some (.int .i64 k) := by rw [← hY.out]; go_simp
    have y1 : Y.cell? ⟨wr.heap.size, 1, none⟩ = some (.int .i64 t) := by rw [← hY.out]; go_simp
    have lyr : wr.heap.size < Y.heap.size := by rw [← hY.out]; simp
    have j0 : inR k 0 ((n : Int) - 1) = true := inR_mk ck0 (by omega)
    have j1 : inR t 1 1000 = true := inR_mk ct0 ct1
    have HS2 : Hid (∀ w, Below Y.heap.size Y w → w.cell? ⟨W.heap.size, 0, none⟩ = some (.slice pa n pcap) ∧ w.cell? ⟨W.heap.size, 1, none⟩ = some (.int .i64 st) ∧ w.cell? ⟨W.heap.size + 1, 0, none⟩ = some (.int .i64 (m : Int)) ∧ w.cell? ⟨W.heap.size + 1, 3, none⟩ = some (.int .i64 st) ∧ w.cell? ⟨wr.heap.size, 0, none⟩ = some (.int .i64 k) ∧ w.cell? ⟨wr.heap.size, 1, none⟩ = some (.int .i64 t)) := fun w q => by
      obtain ⟨⟨p0, p1⟩, q0, _, _, q3, _, _⟩ := HSS.out w (HYX.out.trans (q.mono HYX.out.size))
      exact ⟨p0, p1, q0, q3, (q.cell (p := ⟨wr.heap.size, 0, none⟩) lyr).trans y0, (q.cell (p := ⟨wr.heap.size, 1, none⟩) lyr).trans y1⟩
    have qd := HS2.out Y.drew ((Below.refl _ _).drew)
    have hn : n ≤ 1048576 := by omega
    have d1 : (st == st) = true := by simp
    have d2 : (t != t) = false := by simp
    have d3 : decide (st = st) = true := by simp
    have HFC : Hid (∀ w, Below Y.heap.size Y w → Calls Try.prog 41 #[.agg #[.slice pa n pcap, .int .i64 st], .int .i64 k, .int .i64 (m : Int)] w fun e W' => e = .returned (.int .i64 t) ∧ Below w.heap.size w W') := fun w q => by
      have r := spec_find pa n pcap cs st k m d w hf hw (by omega) ck1 hm (hh.out.kept (HYW.out.trans (q.mono HYW.out.size)))
      rw [HCF.out] at r
      exact r
    go_upto_region 6 with fail
    rw [hY.out]
    go_cut [83] (fun v83 wx => v83 = .bool false ∧ Below Y.heap.size Y wx)
    case first =>
      go_region_held3 (fun w' => w'.cell? ⟨W.heap.size, 0, none⟩ = some (.slice pa n pcap) ∧ w'.cell? ⟨W.heap.size, 1, none⟩ = some (.int .i64 st) ∧ w'.cell? ⟨W.heap.size + 1, 0, none⟩ = some (.int .i64 (m : Int)) ∧ w'.cell? ⟨W.heap.size + 1, 3, none⟩ = some (.int .i64 st) ∧ w'.cell? ⟨wr.heap.size, 0, none⟩ = some (.int .i64 k) ∧ w'.cell? ⟨wr.heap.size, 1, none⟩ = some (.int .i64 t)) (first | assumption | exact qd | exact qs1 | exact qs2 | go_keep) (first
        | (go_at_call 39; refine (spec_class j0 hn _).mono ?_; rintro e w1 ⟨rfl, hB⟩; have Y1 := (show Hid (Below Y.heap.size Y w1) from ((Below.refl _ _).drew).trans hB); have qs1 := HS2.out w1 Y1.out; clear hB)
        | (go_at_call 34; refine (in_quiet j1 _).mono ?_; rintro e w' ⟨rfl, hw'⟩; rw [hw']; clear hw' w')
        | (go_at_call 41; refine (HFC.out _ Y1.out).mono ?_; rintro e w2 ⟨rfl, hB⟩; have Y2 := (show Hid (Below Y.heap.size Y w2) from Y1.out.trans (hB.mono Y1.out.size)); have qs2 := HS2.out w2 Y2.out; clear hB))
      all_goals
        go_wp2_with fail
        go_meet
        exact ⟨rfl, Y2.out⟩
    case rest =>
      obtain ⟨rfl, hYc⟩ := hcut
      have HYc : Hid (Below Y.heap.size Y wc) := hYc
      clear hYc qd
      obtain ⟨_, _, _, q2, _⟩ := (HSS.out wc (HYX.out.trans (HYc.out.mono HYX.out.size))).2
      have hcapI : (i : Int) ≤ (cap : Int) := by omega
      have hcapN : i ≤ cap := by omega
      clear y0 y1 c0 c1
      go_wp2
      clear q2
      obtain ⟨wo, hwo⟩ : ∃ wo, wo = wr := ⟨_, rfl⟩
      subst hwo
      go_loopw [89] (fun vj wz => ∃ j : Nat, j ≤ i ∧ vj = .int .i64 j ∧ Hid (Below Y.heap.size Y wz)) (fun vj _ => i - (intOf vj).toNat)
      case atStart => exact ⟨0, Nat.zero_le _, rfl, HYc⟩
      case round =>
        obtain ⟨j, hj, rfl, HZ⟩ := hrel
        have HZX : Hid (Below X.heap.size X wr) := HYX.out.trans (HZ.out.mono HYX.out.size)
        by_cases hjl : j < i
        rotate_left
        · go_wp2
          go_roundw
          case rel => exact ⟨i + 1, by omega, by go_num, HZX⟩
          case measure => simp [intOf]; omega
        have hjI : (j : Int) < (i : Int) := by omega
        obtain ⟨b2, o2, ha2, hbw2, e0, e1⟩ := way_at hc.out HLN.out (HYW.out.trans (HZ.out.mono HYW.out.size)) (show j < l by omega)
        simp only [Option.some.injEq, Addr.mk.injEq, and_true] at ha2
        obtain ⟨rfl, rfl⟩ := ha2
        have hne := HCD.out j hjl
        obtain ⟨kj, HKJ⟩ : ∃ kj, Hid (clZ zs j = kj) := ⟨_, rfl⟩
        obtain ⟨tj, HTJ⟩ : ∃ tj, Hid (tgZ zs j = tj) := ⟨_, rfl⟩
        rw [HKJ.out] at e0 hne
        rw [HTJ.out] at e1
        have f1 : (kj == k) = false := by simpa using hne
        have f2 : decide (kj = k) = false := decide_eq_false hne
        obtain ⟨V, hV⟩ : ∃ V, Hid (wr.alloc (.cells #[.int .i64 kj, .int .i64 tj] 107) = V) := ⟨_, rfl⟩
        have HVB : Hid (Below wr.heap.size wr V) := by show Below _ _ _; rw [← hV.out]; repeat (first | exact Below.refl _ _ | refine Below.drew ?_ | refine Below.setCell ?_ (by simp; try omega) _ | refine Below.alloc ?_ (by simp; try omega) _)
        have HVY : Hid (Below Y.heap.size Y V) := HZ.out.trans (HVB.out.mono HZ.out.size)
        obtain ⟨_, _, _, _, x0, _⟩ := HS2.out wr HZ.out
        have low : wo.heap.size < wr.heap.size := by have := HZ.out.size; omega
        have hbz : b < wr.heap.size := by have := HZ.out.size; omega
        clear hne
        go_wp2
        rw [hV.out]
        go_roundw
        case rel => exact ⟨j + 1, by omega, by go_num, HVY⟩
        case measure => simp [intOf]; omega
end Go.Proofs.Yticgipmaflhplaa.walks
