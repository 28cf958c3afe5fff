/-
  What the program's makeTable lays.
-/
import Derived.Test.YticgipmaflhplaaProg
import Derived.Test.YticgipmaflhplaaMagMath
import Derived.Test.YticgipmaflhplaaWorldMath
import Derived.Test.YticgipmaflhplaaLookMath
import Derived.Test.YticgipmaflhplaaInts
import Derived.Test.YticgipmaflhplaaDeep
import Derived.Test.YticgipmaflhplaaDeepRow
import Derived.Test.YticgipmaflhplaaDeepC
import Derived.Test.YticgipmaflhplaaWorldSpec
import Derived.WalkKit
import Derived.WalkSpells
import Derived.Below
import Derived.Handy
import Derived.Deep.DeepFit
import Derived.Deep.RegionHeld3
import Derived.Deep.MidRow
import Derived.Laws.EntriesVeiled
import Derived.Laws.Rows
namespace Go.Proofs.Yticgipmaflhplaa.walks
open Go.RowKit Go.Proofs.Yticgipmaflhplaa.math Go.Proofs.Yticgipmaflhplaa.ints Go.Proofs.Yticgipmaflhplaa.deep
set_option linter.unusedVariables false
set_option maxRecDepth 100000

theorem only_alloc {W w : World} {F : Nat → Prop} (h : OnlyF W w F) (o : Obj) : OnlyF W (w.alloc o) F := ⟨h.os, h.tape, h.output, by have := h.size; simp; omega, fun b hl hb => (Go.Deep.blk_alloc_lt w o b (Nat.lt_of_lt_of_le hl h.size)).trans (h.block b hl hb)⟩
theorem only_set {W w : World} {F : Nat → Prop} (h : OnlyF W w F) {g i : Nat} (hg : F g) (v : Value) : OnlyF W (w.setCell ⟨g, i, none⟩ v) F := ⟨h.os, h.tape, h.output, by have := h.size; simpa [World.setCell] using this, fun b hl hb => (Below.heap_setCell _ _ _ _ (fun e => hb (by rw [e]; exact hg))).trans (h.block b hl hb)⟩
theorem only_drew {W w : World} {F : Nat → Prop} (h : OnlyF W w F) : OnlyF W w.drew F := ⟨h.os, h.tape, h.output, h.size, h.block⟩
/-- The lookup at g. -/
def Look (w : World) (g : Nat) (a : Option Addr) (n cap : Nat) (st : Int) (v2 v3 v4 : Value) (T : Nat → Value) : Prop := w.rowIs g 103 45 (lookC (.slice a n cap) (.int .i64 st) v2 v3 v4 T)
theorem Look.congr {w : World} {g : Nat} {a : Option Addr} {n cap : Nat} {st : Int} {v2 v3 v4 : Value} {T T' : Nat → Value} (h : Look w g a n cap st v2 v3 v4 T) (e : ∀ i, T i = T' i) : Look w g a n cap st v2 v3 v4 T' := by
  rw [show T' = T from funext (fun i => (e i).symm)]; exact h
theorem Look.set {w : World} {g : Nat} {a : Option Addr} {n cap : Nat} {st : Int} {v2 v3 v4 : Value} {T : Nat → Value} (h : Look w g a n cap st v2 v3 v4 T) (q : Nat) (u : Value) : Look (w.setCell ⟨g, 5 + q, none⟩ u) g a n cap st v2 v3 v4 (fun j => if j = q then u else T j) :=
  World.rowIs.congr (World.rowIs.set h (5 + q) u) (fun i _ => look_set i)
theorem Look.tab {w : World} {g : Nat} {a : Option Addr} {n cap : Nat} {st : Int} {v2 v3 v4 : Value} {T : Nat → Value} (h : Look w g a n cap st v2 v3 v4 T) {q : Nat} (hq : q < 40) : w.cell? ⟨g, 5 + q, none⟩ = some (T q) := by
  rw [World.rowIs.cell h (by omega), look_tab]
theorem Look.world {w : World} {g : Nat} {a : Option Addr} {n cap : Nat} {st : Int} {v2 v3 v4 : Value} {T : Nat → Value} (h : Look w g a n cap st v2 v3 v4 T) : w.cell? ⟨g, 0, none⟩ = some (.slice a n cap) ∧ w.cell? ⟨g, 1, none⟩ = some (.int .i64 st) := ⟨World.rowIs.cell h (i := 0) (by decide), World.rowIs.cell h (i := 1) (by decide)⟩
set_option maxHeartbeats 8000000 in
theorem impl_table (g : Nat) (a : Option Addr) (n cap : Nat) (cs : Nat → Dv) (st : Int) (v2 v3 v4 : Value) (c : Bool) (Wb W : World) (hf : Hid (Fits shClassS (.l n 2 cs))) (hw : Hid (worldB cs n st = true)) (h : Hid (Holds Wb c (.l n 2 cs) (.slice a n cap))) (hb : Hid (Below Wb.heap.size Wb W)) (hg : Wb.heap.size ≤ g)
    (hL : Hid (Look W g a n cap st v2 v3 v4 (tabT cs 0))) :
    Calls Try.prog 61 #[.pointer (some ⟨g, 0, none⟩)] W fun e W' => e = .returned (.tuple #[]) ∧ Look W' g a n cap st v2 v3 v4 (tabT cs n) ∧ OnlyF W W' (fun x => x = g) := by
  obtain ⟨⟨hn0, hn1⟩, _, hok⟩ := world_out hw.out
  have HOK : Hid (∀ k, k < n → ClassOk cs k) := hok
  clear hok
  have hmf : ∀ (fn : Fn) (first cap : Array Value) (w : World), (Instr.makeFunc fn first cap).run Try.prog w = .ok (.func fn first cap) w := fun _ _ _ _ => rfl
  have r0 := hL.out.world.1
  have gl : g < W.heap.size := World.rowIs.lt hL.out
  go_enter Try.func61, Try.ntmps61
  go_wp2
  clear r0
  go_loopw [12] (fun vi wr => ∃ k : Nat, k ≤ n ∧ vi = .int .i64 k ∧ Hid (Look wr g a n cap st v2 v3 v4 (tabT cs k)) ∧ Hid (OnlyF W wr (fun x => x = g)) ∧ Hid (Below Wb.heap.size Wb wr)) (fun vi _ => n - (intOf vi).toNat)
  case atStart => exact ⟨0, Nat.zero_le _, rfl, hL, OnlyF.refl _ _, hb⟩
  case round =>
    obtain ⟨k, hk, rfl, HL, HO, HB⟩ := hrel
    by_cases hlt : k < n
    rotate_left
    · have e : k = n := by omega
      subst e
      go_wp2
      go_end0
      exact ⟨rfl, HL.out, HO.out⟩
    have hltI : (k : Int) < (n : Int) := by omega
    obtain ⟨b, o, ma, mc, ha, hbw, c0, c1, hI⟩ := class_at h.out hf.out HB.out hlt
    have HI : Hid (Ints wr ma (mtsC cs k)) := hI
    obtain ⟨⟨hu0, hu1⟩, hl5, hms⟩ := HOK.out k hlt
    have hml : Hid ((mtsC cs k).length = 5) := by show _ = _; rw [mts_len]; exact hl5
    have HMS : Hid (∀ m, m < 5 → 0 ≤ mtC cs k m ∧ mtC cs k m ≤ 1000) := hms
    rw [hl5] at c1
    have HIB : Hid (∀ wz, Below Wb.heap.size Wb wz → Ints wz ma (mtsC cs k)) := by
      intro wz hz
      obtain ⟨b1, o1, ma1, mc1, ha1, _, _, d1, hI1⟩ := class_at h.out hf.out hz hlt
      have e1 := class_at h.out hf.out (Below.refl Wb.heap.size Wb) hlt
      obtain ⟨b2, o2, ma2, mc2, ha2, hb2, _, d2, _⟩ := e1
      have f1 : wz.cell? ⟨b2, o2 + k * 2 + 1, none⟩ = Wb.cell? ⟨b2, o2 + k * 2 + 1, none⟩ := hz.cell (p := ⟨b2, o2 + k * 2 + 1, none⟩) hb2
      have f2 : wr.cell? ⟨b2, o2 + k * 2 + 1, none⟩ = Wb.cell? ⟨b2, o2 + k * 2 + 1, none⟩ := HB.out.cell (p := ⟨b2, o2 + k * 2 + 1, none⟩) hb2
      rw [ha2] at ha ha1
      simp only [Option.some.injEq, Addr.mk.injEq, and_true] at ha ha1
      obtain ⟨rfl, rfl⟩ := ha
      obtain ⟨rfl, rfl⟩ := ha1
      rw [f1, d2] at d1
      rw [f2, d2] at c1
      simp only [Option.some.injEq, Value.slice.injEq] at d1 c1
      rw [← c1.1, d1.1]; exact hI1
    clear hI hl5 hms
    subst ha
    have hbwr : b < wr.heap.size := by have := HB.out.size; omega
    have HFI : Hid (upC cs k = -1 → ∀ i, tabT cs k i = midT cs k 0 i) := fun q i => mid_first q i
    have HCO : Hid (∀ p : Nat, upC cs k = (p : Int) → p < k → ∀ i, (if i = k * 5 + 4 then tabT cs k (p * 5 + 4) else if i = k * 5 + 3 then tabT cs k (p * 5 + 3) else if i = k * 5 + 2 then tabT cs k (p * 5 + 2) else if i = k * 5 + 1 then tabT cs k (p * 5 + 1) else if i = k * 5 then tabT cs k (p * 5) else tabT cs k i) = midT cs k 0 i) := fun p q r i => mid_copy q r i
    obtain ⟨u, HU⟩ : ∃ u, Hid (upC cs k = u) := ⟨_, rfl⟩
    rw [HU.out] at c0 hu0 hu1 HFI HCO
    obtain ⟨Y, hY⟩ : ∃ Y, Hid (wr.alloc (.cells #[.int .i64 u, .slice ma 5 mc] 59) = Y) := ⟨_, rfl⟩
    have HYB : Hid (Below wr.heap.size wr Y) := by show Below _ _ _; rw [← hY.out]; repeat (first | exact Below.refl _ _ | refine Below.drew ?_ | refine Below.setCell ?_ (by simp; try omega) _ | refine Below.alloc ?_ (by simp; try omega) _)
    have LY : Hid (Look Y g (some ⟨b, o, none⟩) n cap st v2 v3 v4 (tabT cs k)) := by show Look _ _ _ _ _ _ _ _ _ _; rw [← hY.out]; exact World.rowIs.alloc HL.out _
    have OY : Hid (OnlyF W Y (fun x => x = g)) := by show OnlyF _ _ _; rw [← hY.out]; exact only_alloc HO.out _
    have BY : Hid (Below Wb.heap.size Wb Y) := HB.out.trans (HYB.out.mono HB.out.size)
    have IY : Hid (Ints Y ma (mtsC cs k)) := HI.out.kept HYB.out
    have y0 : Y.cell? ⟨wr.heap.size, 0, none⟩ = some (.int .i64 u) := by rw [← hY.out]; go_simp
    have y1 : Y.cell? ⟨wr.heap.size, 1, none⟩ = some (.slice ma 5 mc) := by rw [← hY.out]; go_simp
    have gne : g ≠ wr.heap.size := by have q := World.rowIs.lt HL.out; omega
    by_cases hneg : u = -1
    · subst hneg
      have LM : Hid (Look Y g (some ⟨b, o, none⟩) n cap st v2 v3 v4 (midT cs k 0)) := LY.out.congr (HFI.out rfl)
      have OM := OY
      have BM := BY
      have IB : Hid (∀ wz, Below Wb.heap.size Wb wz → Ints wz ma (mtsC cs k)) := HIB
      go_wp2
      rw [hY.out]
      clear hY y0 y1 LY OY BY IY HI HYB c0 c1 HL HO HB
      obtain ⟨wo, hwo⟩ : ∃ wo, wo = wr := ⟨_, rfl⟩
      subst hwo
      go_loopw [35] (fun vj wz => ∃ j : Nat, j ≤ 5 ∧ vj = .int .i64 j ∧ Hid (Look wz g (some ⟨b, o, none⟩) n cap st v2 v3 v4 (midT cs k j)) ∧ Hid (OnlyF W wz (fun x => x = g)) ∧ Hid (Below Wb.heap.size Wb wz)) (fun vj _ => 5 - (intOf vj).toNat)
      case atStart => exact ⟨0, Nat.zero_le _, rfl, LM, OM, BM⟩
      case round =>
        obtain ⟨j, hj, rfl, HLJ, HOJ, HBJ⟩ := hrel
        by_cases hjl : j < 5
        rotate_left
        · have e : j = 5 := by omega
          subst e
          have LN : Hid (Look wr g (some ⟨b, o, none⟩) n cap st v2 v3 v4 (tabT cs (k + 1))) := HLJ.out.congr mid_last
          go_wp2
          go_roundw
          case rel => exact ⟨k + 1, by omega, by go_num, LN, HOJ, HBJ⟩
          case measure => simp [intOf]; omega
        obtain ⟨b1, o1, ma1, mc1, ha1, hbw1, d0, d1, hI1⟩ := class_at h.out hf.out HBJ.out hlt
        have hI2 : Ints wr ma (mtsC cs k) := IB.out wr HBJ.out
        obtain ⟨b', o', ha, hc⟩ := hI2.at (Below.refl _ _) (k := j) (by rw [hml.out]; exact hjl)
        subst ha
        clear hI1 hI2 d0 d1 ha1 hbw1
        have hjI : (j : Int) < 5 := by omega
        have hc2 : wr.cell? ⟨b', o' + j, none⟩ = some (.int .i64 (mtC cs k j)) := hc
        clear hc
        have HM1 := HMS.out j hjl
        have HOWN : Hid (0 < mtC cs k j → ∀ i, (if i = k * 5 + j then fnV (mtC cs k j) else midT cs k j i) = midT cs k (j + 1) i) := fun q => mid_own hjl q
        have HNOT : Hid (¬ 0 < mtC cs k j → ∀ i, midT cs k j i = midT cs k (j + 1) i) := fun q => mid_not hlt HOK.out q
        obtain ⟨x, HX⟩ : ∃ x, Hid (mtC cs k j = x) := ⟨_, rfl⟩
        rw [HX.out] at hc2 HM1 HOWN HNOT
        have q0 := HLJ.out.tab (q := k * 5 + j) (by omega)
        have z0 := World.rowIs.frozen HLJ.out (5 + k * 5 + j)
        rw [← Nat.add_assoc] at q0
        obtain ⟨y, HY2⟩ : ∃ y, Hid (midT cs k j (k * 5 + j) = y) := ⟨_, rfl⟩
        rw [HY2.out] at q0
        by_cases hx : x = 0
        · subst hx
          have LN : Hid (Look wr g (some ⟨b, o, none⟩) n cap st v2 v3 v4 (midT cs k (j + 1))) := HLJ.out.congr (HNOT.out (by omega))
          go_wp2
          go_roundw
          case rel => exact ⟨j + 1, by omega, by go_num, LN, HOJ, HBJ⟩
          case measure => simp [intOf]; omega
        · have hxp : 0 < x := by omega
          have x1 : (x == 0) = false := by simpa using hx
          have x2 : (x != 0) = true := by simpa using hx
          have x3 : decide (x = 0) = false := decide_eq_false hx
          clear hx
          have LN : Hid (Look (wr.setCell ⟨g, 5 + k * 5 + j, none⟩ (.func (.func 75) #[.int .i64 x] #[])) g (some ⟨b, o, none⟩) n cap st v2 v3 v4 (midT cs k (j + 1))) := by
            have q := HLJ.out.set (k * 5 + j) (fnV x)
            have q2 := q.congr (HOWN.out hxp)
            rw [fnV_pos hxp, ← Nat.add_assoc] at q2
            exact q2
          have k8 : (k : Int) < 8 := by omega
          go_wp2
          go_roundw
          case rel =>
            refine ⟨j + 1, by omega, by go_num, ?_, ?_, ?_⟩
            · exact LN.out
            · exact only_set HOJ.out rfl _
            · exact HBJ.out.setCell (by show Wb.heap.size ≤ g; omega) _
          case measure => simp [intOf]; omega
    · obtain ⟨p, rfl⟩ : ∃ p : Nat, u = (p : Int) := ⟨u.toNat, by omega⟩
      have hp : p < k := by omega
      have n1 : ((p : Int) == -1) = false := by simp
      have n2 : decide ((p : Int) = -1) = false := decide_eq_false hneg
      have n3 : ((p : Int) != -1) = true := by simp
      have p8 : (p : Int) < 8 := by omega
      have k8 : (k : Int) < 8 := by omega
      clear hneg
      have s0 := LY.out.tab (q := p * 5) (by omega)
      obtain ⟨t0, HT0⟩ : ∃ t, Hid (tabT cs k (p * 5) = t) := ⟨_, rfl⟩
      rw [HT0.out] at s0
      have o0 : t0.oneCell' = true := by rw [← HT0.out]; exact tab_one _ _ _
      have s1 := LY.out.tab (q := p * 5 + 1) (by omega)
      rw [← Nat.add_assoc] at s1
      obtain ⟨t1, HT1⟩ : ∃ t, Hid (tabT cs k (p * 5 + 1) = t) := ⟨_, rfl⟩
      rw [HT1.out] at s1
      have o1 : t1.oneCell' = true := by rw [← HT1.out]; exact tab_one _ _ _
      have s2 := LY.out.tab (q := p * 5 + 2) (by omega)
      rw [← Nat.add_assoc] at s2
      obtain ⟨t2, HT2⟩ : ∃ t, Hid (tabT cs k (p * 5 + 2) = t) := ⟨_, rfl⟩
      rw [HT2.out] at s2
      have o2 : t2.oneCell' = true := by rw [← HT2.out]; exact tab_one _ _ _
      have s3 := LY.out.tab (q := p * 5 + 3) (by omega)
      rw [← Nat.add_assoc] at s3
      obtain ⟨t3, HT3⟩ : ∃ t, Hid (tabT cs k (p * 5 + 3) = t) := ⟨_, rfl⟩
      rw [HT3.out] at s3
      have o3 : t3.oneCell' = true := by rw [← HT3.out]; exact tab_one _ _ _
      have s4 := LY.out.tab (q := p * 5 + 4) (by omega)
      rw [← Nat.add_assoc] at s4
      obtain ⟨t4, HT4⟩ : ∃ t, Hid (tabT cs k (p * 5 + 4) = t) := ⟨_, rfl⟩
      rw [HT4.out] at s4
      have o4 : t4.oneCell' = true := by rw [← HT4.out]; exact tab_one _ _ _
      have d0 := LY.out.tab (q := k * 5) (by omega)
      obtain ⟨v0', HD0⟩ : ∃ t, Hid (tabT cs k (k * 5) = t) := ⟨_, rfl⟩
      rw [HD0.out] at d0
      have f0 : Y.frozen? ⟨g, 5 + k * 5, none⟩ = false := World.rowIs.frozen LY.out (5 + k * 5)
      have d1 := LY.out.tab (q := k * 5 + 1) (by omega)
      rw [← Nat.add_assoc] at d1
      obtain ⟨v1', HD1⟩ : ∃ t, Hid (tabT cs k (k * 5 + 1) = t) := ⟨_, rfl⟩
      rw [HD1.out] at d1
      have f1 : Y.frozen? ⟨g, 5 + k * 5 + 1, none⟩ = false := World.rowIs.frozen LY.out (5 + k * 5 + 1)
      have d2 := LY.out.tab (q := k * 5 + 2) (by omega)
      rw [← Nat.add_assoc] at d2
      obtain ⟨v2', HD2⟩ : ∃ t, Hid (tabT cs k (k * 5 + 2) = t) := ⟨_, rfl⟩
      rw [HD2.out] at d2
      have f2 : Y.frozen? ⟨g, 5 + k * 5 + 2, none⟩ = false := World.rowIs.frozen LY.out (5 + k * 5 + 2)
      have d3 := LY.out.tab (q := k * 5 + 3) (by omega)
      rw [← Nat.add_assoc] at d3
      obtain ⟨v3', HD3⟩ : ∃ t, Hid (tabT cs k (k * 5 + 3) = t) := ⟨_, rfl⟩
      rw [HD3.out] at d3
      have f3 : Y.frozen? ⟨g, 5 + k * 5 + 3, none⟩ = false := World.rowIs.frozen LY.out (5 + k * 5 + 3)
      have d4 := LY.out.tab (q := k * 5 + 4) (by omega)
      rw [← Nat.add_assoc] at d4
      obtain ⟨v4', HD4⟩ : ∃ t, Hid (tabT cs k (k * 5 + 4) = t) := ⟨_, rfl⟩
      rw [HD4.out] at d4
      have f4 : Y.frozen? ⟨g, 5 + k * 5 + 4, none⟩ = false := World.rowIs.frozen LY.out (5 + k * 5 + 4)
      have L0 : Hid (Look Y.drew g (some ⟨b, o, none⟩) n cap st v2 v3 v4 (tabT cs k)) := LY.out
      have e0 := World.rowIs.cell L0.out (i := 5 + k * 5) (by omega)
      have z0 := World.rowIs.frozen L0.out (5 + k * 5)
      obtain ⟨Y1, hY1⟩ : ∃ X, Hid (Y.drew.setCell ⟨g, 5 + k * 5, none⟩ t0 = X) := ⟨_, rfl⟩
      have hst0 : (store ⟨g, 5 + k * 5, none⟩ t0).run Try.prog Y.drew = .ok () Y1 := by rw [run_store _ _ _ _ _ o0, e0, z0, ← hY1.out]; rfl
      have L1 : Hid (Look Y1 g (some ⟨b, o, none⟩) n cap st v2 v3 v4 (fun j => if j = k * 5 then t0 else (tabT cs k) j)) := by
        have q := L0.out.set (k * 5) t0
        show Look _ _ _ _ _ _ _ _ _ _
        rw [← hY1.out]; exact q
      clear e0 z0 d0 f0 HD0 o0
      have e1 := World.rowIs.cell L1.out (i := 5 + k * 5 + 1) (by omega)
      have z1 := World.rowIs.frozen L1.out (5 + k * 5 + 1)
      obtain ⟨Y2, hY2⟩ : ∃ X, Hid (Y1.setCell ⟨g, 5 + k * 5 + 1, none⟩ t1 = X) := ⟨_, rfl⟩
      have hst1 : (store ⟨g, 5 + k * 5 + 1, none⟩ t1).run Try.prog Y1 = .ok () Y2 := by rw [run_store _ _ _ _ _ o1, e1, z1, ← hY2.out]; rfl
      have L2 : Hid (Look Y2 g (some ⟨b, o, none⟩) n cap st v2 v3 v4 (fun j => if j = k * 5 + 1 then t1 else (fun j => if j = k * 5 then t0 else (tabT cs k) j) j)) := by
        have q := L1.out.set (k * 5 + 1) t1
        rw [← Nat.add_assoc] at q
        show Look _ _ _ _ _ _ _ _ _ _
        rw [← hY2.out]; exact q
      clear e1 z1 d1 f1 HD1 o1
      have e2 := World.rowIs.cell L2.out (i := 5 + k * 5 + 2) (by omega)
      have z2 := World.rowIs.frozen L2.out (5 + k * 5 + 2)
      obtain ⟨Y3, hY3⟩ : ∃ X, Hid (Y2.setCell ⟨g, 5 + k * 5 + 2, none⟩ t2 = X) := ⟨_, rfl⟩
      have hst2 : (store ⟨g, 5 + k * 5 + 2, none⟩ t2).run Try.prog Y2 = .ok () Y3 := by rw [run_store _ _ _ _ _ o2, e2, z2, ← hY3.out]; rfl
      have L3 : Hid (Look Y3 g (some ⟨b, o, none⟩) n cap st v2 v3 v4 (fun j => if j = k * 5 + 2 then t2 else (fun j => if j = k * 5 + 1 then t1 else (fun j => if j = k * 5 then t0 else (tabT cs k) j) j) j)) := by
        have q := L2.out.set (k * 5 + 2) t2
        rw [← Nat.add_assoc] at q
        show Look _ _ _ _ _ _ _ _ _ _
        rw [← hY3.out]; exact q
      clear e2 z2 d2 f2 HD2 o2
      have e3 := World.rowIs.cell L3.out (i := 5 + k * 5 + 3) (by omega)
      have z3 := World.rowIs.frozen L3.out (5 + k * 5 + 3)
      obtain ⟨Y4, hY4⟩ : ∃ X, Hid (Y3.setCell ⟨g, 5 + k * 5 + 3, none⟩ t3 = X) := ⟨_, rfl⟩
      have hst3 : (store ⟨g, 5 + k * 5 + 3, none⟩ t3).run Try.prog Y3 = .ok () Y4 := by rw [run_store _ _ _ _ _ o3, e3, z3, ← hY4.out]; rfl
      have L4 : Hid (Look Y4 g (some ⟨b, o, none⟩) n cap st v2 v3 v4 (fun j => if j = k * 5 + 3 then t3 else (fun j => if j = k * 5 + 2 then t2 else (fun j => if j = k * 5 + 1 then t1 else (fun j => if j = k * 5 then t0 else (tabT cs k) j) j) j) j)) := by
        have q := L3.out.set (k * 5 + 3) t3
        rw [← Nat.add_assoc] at q
        show Look _ _ _ _ _ _ _ _ _ _
        rw [← hY4.out]; exact q
      clear e3 z3 d3 f3 HD3 o3
      have e4 := World.rowIs.cell L4.out (i := 5 + k * 5 + 4) (by omega)
      have z4 := World.rowIs.frozen L4.out (5 + k * 5 + 4)
      obtain ⟨Y5, hY5⟩ : ∃ X, Hid (Y4.setCell ⟨g, 5 + k * 5 + 4, none⟩ t4 = X) := ⟨_, rfl⟩
      have hst4 : (store ⟨g, 5 + k * 5 + 4, none⟩ t4).run Try.prog Y4 = .ok () Y5 := by rw [run_store _ _ _ _ _ o4, e4, z4, ← hY5.out]; rfl
      have L5 : Hid (Look Y5 g (some ⟨b, o, none⟩) n cap st v2 v3 v4 (fun j => if j = k * 5 + 4 then t4 else (fun j => if j = k * 5 + 3 then t3 else (fun j => if j = k * 5 + 2 then t2 else (fun j => if j = k * 5 + 1 then t1 else (fun j => if j = k * 5 then t0 else (tabT cs k) j) j) j) j) j)) := by
        have q := L4.out.set (k * 5 + 4) t4
        rw [← Nat.add_assoc] at q
        show Look _ _ _ _ _ _ _ _ _ _
        rw [← hY5.out]; exact q
      clear e4 z4 d4 f4 HD4 o4
      have O5 : Hid (OnlyF Y.drew Y5 (fun x => x = g)) := by
        show OnlyF _ _ _
        rw [← hY5.out, ← hY4.out, ← hY3.out, ← hY2.out, ← hY1.out]
        have s : ∀ (w : World) (i : Nat) (u : Value), OnlyF Y.drew w (fun x => x = g) → OnlyF Y.drew (w.setCell ⟨g, i, none⟩ u) (fun x => x = g) := fun w i u q => only_set q (F := fun x => x = g) rfl u
        exact s _ _ _ (s _ _ _ (s _ _ _ (s _ _ _ (s _ _ _ (OnlyF.refl _ _)))))
      have LM : Hid (Look Y5 g (some ⟨b, o, none⟩) n cap st v2 v3 v4 (midT cs k 0)) := L5.out.congr (fun i => by have q := HCO.out p rfl hp i; rw [HT0.out, HT1.out, HT2.out, HT3.out, HT4.out] at q; exact q)
      have yl : wr.heap.size < Y.heap.size := by rw [← hY.out]; simp
      have OM : Hid (OnlyF W Y5 (fun x => x = g)) := (only_drew OY.out).trans O5.out
      have BM : Hid (Below Wb.heap.size Wb Y5) := by
        refine BY.out.drew.trans ?_
        exact O5.out.below BY.out.drew.size (fun x hx => by rw [hx]; exact hg)
      have hb5 : Y5.heap[wr.heap.size]? = Y.heap[wr.heap.size]? := O5.out.block _ yl (fun q => gne q.symm)
      have y5_0 : Y5.cell? ⟨wr.heap.size, 0, none⟩ = some (.int .i64 (p : Int)) := (World.cell?_of_block hb5).trans y0
      have y5_1 : Y5.cell? ⟨wr.heap.size, 1, none⟩ = some (.slice ma 5 mc) := (World.cell?_of_block hb5).trans y1
      have s5_0 : Y5.cell? ⟨g, 5 + p * 5, none⟩ = some t0 := by
        have q := L5.out.tab (q := p * 5) (by omega)
        refine q.trans ?_
        show some (if p * 5 = k * 5 + 4 then t4 else if p * 5 = k * 5 + 3 then t3 else if p * 5 = k * 5 + 2 then t2 else if p * 5 = k * 5 + 1 then t1 else if p * 5 = k * 5 then t0 else tabT cs k (p * 5)) = _
        rw [if_neg (by omega), if_neg (by omega), if_neg (by omega), if_neg (by omega), if_neg (by omega), HT0.out]
      have s5_1 : Y5.cell? ⟨g, 5 + p * 5 + 1, none⟩ = some t1 := by
        have q := L5.out.tab (q := p * 5 + 1) (by omega)
        rw [← Nat.add_assoc] at q
        refine q.trans ?_
        show some (if p * 5 + 1 = k * 5 + 4 then t4 else if p * 5 + 1 = k * 5 + 3 then t3 else if p * 5 + 1 = k * 5 + 2 then t2 else if p * 5 + 1 = k * 5 + 1 then t1 else if p * 5 + 1 = k * 5 then t0 else tabT cs k (p * 5 + 1)) = _
        rw [if_neg (by omega), if_neg (by omega), if_neg (by omega), if_neg (by omega), if_neg (by omega), HT1.out]
      have s5_2 : Y5.cell? ⟨g, 5 + p * 5 + 2, none⟩ = some t2 := by
        have q := L5.out.tab (q := p * 5 + 2) (by omega)
        rw [← Nat.add_assoc] at q
        refine q.trans ?_
        show some (if p * 5 + 2 = k * 5 + 4 then t4 else if p * 5 + 2 = k * 5 + 3 then t3 else if p * 5 + 2 = k * 5 + 2 then t2 else if p * 5 + 2 = k * 5 + 1 then t1 else if p * 5 + 2 = k * 5 then t0 else tabT cs k (p * 5 + 2)) = _
        rw [if_neg (by omega), if_neg (by omega), if_neg (by omega), if_neg (by omega), if_neg (by omega), HT2.out]
      have s5_3 : Y5.cell? ⟨g, 5 + p * 5 + 3, none⟩ = some t3 := by
        have q := L5.out.tab (q := p * 5 + 3) (by omega)
        rw [← Nat.add_assoc] at q
        refine q.trans ?_
        show some (if p * 5 + 3 = k * 5 + 4 then t4 else if p * 5 + 3 = k * 5 + 3 then t3 else if p * 5 + 3 = k * 5 + 2 then t2 else if p * 5 + 3 = k * 5 + 1 then t1 else if p * 5 + 3 = k * 5 then t0 else tabT cs k (p * 5 + 3)) = _
        rw [if_neg (by omega), if_neg (by omega), if_neg (by omega), if_neg (by omega), if_neg (by omega), HT3.out]
      have s5_4 : Y5.cell? ⟨g, 5 + p * 5 + 4, none⟩ = some t4 := by
        have q := L5.out.tab (q := p * 5 + 4) (by omega)
        rw [← Nat.add_assoc] at q
        refine q.trans ?_
        show some (if p * 5 + 4 = k * 5 + 4 then t4 else if p * 5 + 4 = k * 5 + 3 then t3 else if p * 5 + 4 = k * 5 + 2 then t2 else if p * 5 + 4 = k * 5 + 1 then t1 else if p * 5 + 4 = k * 5 then t0 else tabT cs k (p * 5 + 4)) = _
        rw [if_neg (by omega), if_neg (by omega), if_neg (by omega), if_neg (by omega), if_neg (by omega), HT4.out]
      have qs : Y.drew.cell? ⟨wr.heap.size, 0, none⟩ = some (.int .i64 (p : Int)) ∧ Y.drew.cell? ⟨g, 5 + p * 5, none⟩ = some t0 ∧ Y.drew.cell? ⟨g, 5 + p * 5 + 1, none⟩ = some t1 ∧ Y.drew.cell? ⟨g, 5 + p * 5 + 2, none⟩ = some t2 ∧ Y.drew.cell? ⟨g, 5 + p * 5 + 3, none⟩ = some t3 ∧ Y.drew.cell? ⟨g, 5 + p * 5 + 4, none⟩ = some t4 := ⟨y0, s0, s1, s2, s3, s4⟩
      have q5 : Y5.cell? ⟨wr.heap.size, 0, none⟩ = some (.int .i64 (p : Int)) ∧ Y5.cell? ⟨g, 5 + p * 5, none⟩ = some t0 ∧ Y5.cell? ⟨g, 5 + p * 5 + 1, none⟩ = some t1 ∧ Y5.cell? ⟨g, 5 + p * 5 + 2, none⟩ = some t2 ∧ Y5.cell? ⟨g, 5 + p * 5 + 3, none⟩ = some t3 ∧ Y5.cell? ⟨g, 5 + p * 5 + 4, none⟩ = some t4 := ⟨y5_0, s5_0, s5_1, s5_2, s5_3, s5_4⟩
      have IB : Hid (∀ wz, Below Wb.heap.size Wb wz → Ints wz ma (mtsC cs k)) := HIB
      clear L0 L1 L2 L3 L4 L5 hY1 hY2 hY3 hY4 hY5 O5 HT0 HT1 HT2 HT3 HT4 HCO HFI
      go_wp2
      rw [hY.out]
      go_region_held3 (fun w' => w'.cell? ⟨wr.heap.size, 0, none⟩ = some (.int .i64 (p : Int)) ∧ w'.cell? ⟨g, 5 + p * 5, none⟩ = some t0 ∧ w'.cell? ⟨g, 5 + p * 5 + 1, none⟩ = some t1 ∧ w'.cell? ⟨g, 5 + p * 5 + 2, none⟩ = some t2 ∧ w'.cell? ⟨g, 5 + p * 5 + 3, none⟩ = some t3 ∧ w'.cell? ⟨g, 5 + p * 5 + 4, none⟩ = some t4) (first | exact qs | exact q5 | assumption | go_keep) (fail)
      clear hY y0 y1 LY OY BY IY HI HYB c0 c1 HL HO HB qs q5 y5_0 s5_0 s5_1 s5_2 s5_3 s5_4 hst0 hst1 hst2 hst3 hst4 s0 s1 s2 s3 s4 hb5
      go_wp2
      obtain ⟨wo, hwo⟩ : ∃ wo, wo = wr := ⟨_, rfl⟩
      subst hwo
      go_loopw [35] (fun vj wz => ∃ j : Nat, j ≤ 5 ∧ vj = .int .i64 j ∧ Hid (Look wz g (some ⟨b, o, none⟩) n cap st v2 v3 v4 (midT cs k j)) ∧ Hid (OnlyF W wz (fun x => x = g)) ∧ Hid (Below Wb.heap.size Wb wz)) (fun vj _ => 5 - (intOf vj).toNat)
      case atStart => exact ⟨0, Nat.zero_le _, rfl, LM, OM, BM⟩
      case round =>
        obtain ⟨j, hj, rfl, HLJ, HOJ, HBJ⟩ := hrel
        by_cases hjl : j < 5
        rotate_left
        · have e : j = 5 := by omega
          subst e
          have LN : Hid (Look wr g (some ⟨b, o, none⟩) n cap st v2 v3 v4 (tabT cs (k + 1))) := HLJ.out.congr mid_last
          go_wp2
          go_roundw
          case rel => exact ⟨k + 1, by omega, by go_num, LN, HOJ, HBJ⟩
          case measure => simp [intOf]; omega
        obtain ⟨b1, o1, ma1, mc1, ha1, hbw1, d0, d1, hI1⟩ := class_at h.out hf.out HBJ.out hlt
        have hI2 : Ints wr ma (mtsC cs k) := IB.out wr HBJ.out
        obtain ⟨b', o', ha, hc⟩ := hI2.at (Below.refl _ _) (k := j) (by rw [hml.out]; exact hjl)
        subst ha
        clear hI1 hI2 d0 d1 ha1 hbw1
        have hjI : (j : Int) < 5 := by omega
        have hc2 : wr.cell? ⟨b', o' + j, none⟩ = some (.int .i64 (mtC cs k j)) := hc
        clear hc
        have HM1 := HMS.out j hjl
        have HOWN : Hid (0 < mtC cs k j → ∀ i, (if i = k * 5 + j then fnV (mtC cs k j) else midT cs k j i) = midT cs k (j + 1) i) := fun q => mid_own hjl q
        have HNOT : Hid (¬ 0 < mtC cs k j → ∀ i, midT cs k j i = midT cs k (j + 1) i) := fun q => mid_not hlt HOK.out q
        obtain ⟨x, HX⟩ : ∃ x, Hid (mtC cs k j = x) := ⟨_, rfl⟩
        rw [HX.out] at hc2 HM1 HOWN HNOT
        have q0 := HLJ.out.tab (q := k * 5 + j) (by omega)
        have z0 := World.rowIs.frozen HLJ.out (5 + k * 5 + j)
        rw [← Nat.add_assoc] at q0
        obtain ⟨y, HY2⟩ : ∃ y, Hid (midT cs k j (k * 5 + j) = y) := ⟨_, rfl⟩
        rw [HY2.out] at q0
        by_cases hx : x = 0
        · subst hx
          have LN : Hid (Look wr g (some ⟨b, o, none⟩) n cap st v2 v3 v4 (midT cs k (j + 1))) := HLJ.out.congr (HNOT.out (by omega))
          go_wp2
          go_roundw
          case rel => exact ⟨j + 1, by omega, by go_num, LN, HOJ, HBJ⟩
          case measure => simp [intOf]; omega
        · have hxp : 0 < x := by omega
          have x1 : (x == 0) = false := by simpa using hx
          have x2 : (x != 0) = true := by simpa using hx
          have x3 : decide (x = 0) = false := decide_eq_false hx
          clear hx
          have LN : Hid (Look (wr.setCell ⟨g, 5 + k * 5 + j, none⟩ (.func (.func 75) #[.int .i64 x] #[])) g (some ⟨b, o, none⟩) n cap st v2 v3 v4 (midT cs k (j + 1))) := by
            have q := HLJ.out.set (k * 5 + j) (fnV x)
            have q2 := q.congr (HOWN.out hxp)
            rw [fnV_pos hxp, ← Nat.add_assoc] at q2
            exact q2
          have k8 : (k : Int) < 8 := by omega
          go_wp2
          go_roundw
          case rel =>
            refine ⟨j + 1, by omega, by go_num, ?_, ?_, ?_⟩
            · exact LN.out
            · exact only_set HOJ.out rfl _
            · exact HBJ.out.setCell (by show Wb.heap.size ≤ g; omega) _
          case measure => simp [intOf]; omega
end Go.Proofs.Yticgipmaflhplaa.walks
