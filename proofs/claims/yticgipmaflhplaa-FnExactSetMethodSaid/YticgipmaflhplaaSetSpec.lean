/-
  What the specification's SetMethod answers.
-/
import Derived.Test.YticgipmaflhplaaProg
import Derived.Test.YticgipmaflhplaaMagMath
import Derived.Test.YticgipmaflhplaaWorldMath
import Derived.Test.YticgipmaflhplaaSetMath
import Derived.Test.YticgipmaflhplaaInts
import Derived.Test.YticgipmaflhplaaDeep
import Derived.Test.YticgipmaflhplaaDeepRow
import Derived.Test.YticgipmaflhplaaDeepC
import Derived.Test.YticgipmaflhplaaWorldSpec
import Derived.Test.YticgipmaflhplaaOwnSpec
import Derived.Test.YticgipmaflhplaaSetImpl
import Derived.WalkKit
import Derived.WalkSpells
import Derived.Below
import Derived.Handy
import Derived.Deep.DeepFit
import Derived.Deep.DeepCutAuto
namespace Go.Proofs.Yticgipmaflhplaa.walks
open Go.RowKit Go.Proofs.Yticgipmaflhplaa.math Go.Proofs.Yticgipmaflhplaa.ints Go.Proofs.Yticgipmaflhplaa.deep
set_option linter.unusedVariables false
set_option maxRecDepth 100000

set_option maxHeartbeats 8000000 in
theorem spec_setmethod (a : Option Addr) (n cap : Nat) (cs : Nat → Dv) (st k m t : Int) (c : Bool) (W : World) (hf : Hid (Fits shClassS (.l n 2 cs))) (hs : Hid (szD (.l n 2 cs) ≤ 1048576)) (h : Hid (Holds W c (.l n 2 cs) (.slice a n cap))) :
    Calls Try.prog 16 #[.agg #[.slice a n cap, .int .i64 st], .int .i64 k, .int .i64 m, .int .i64 t] W fun e W' => SetAns W cs n st k m t e W' := by
  have hn : n ≤ 1048576 := Nat.le_trans (Nat.le_add_right _ _) hs.out
  obtain ⟨X, hX⟩ : ∃ X, Hid ((W.alloc (.cells #[.slice a n cap, .int .i64 st] 29)).alloc (.cells #[.slice none 0 0, .int .i64 0] 29) = X) := ⟨_, rfl⟩
  have HX : Hid (Below W.heap.size W X) := by show Below _ _ _; rw [← hX.out]; go_grown
  have HXS : Hid (X.heap.size = W.heap.size + 2) := by show _ = _; rw [← hX.out]; simp
  have HRX : Hid (X.rowIs W.heap.size 29 2 (rowF [.slice a n cap, .int .i64 st])) := by show World.rowIs _ _ _ _ _; rw [← hX.out]; exact (row_of W #[.slice a n cap, .int .i64 st] _).alloc _
  have HZX : Hid (X.rowIs (W.heap.size + 1) 29 2 (rowF [.slice none 0 0, .int .i64 0])) := by
    have q := row_of (W.alloc (.cells #[.slice a n cap, .int .i64 st] 29)) #[.slice none 0 0, .int .i64 0] 29
    rw [show (W.alloc (.cells #[.slice a n cap, .int .i64 st] 29)).heap.size = W.heap.size + 1 by simp] at q
    show World.rowIs _ _ _ _ _
    rw [← hX.out]; exact q
  go_enter Try.func16, Try.ntmps16
  go_wp2_with fail
  rw [hX.out]
  clear hX
  have hc := spec_world a n cap cs st c X hf hs (h.out.kept HX.out)
  cases hw : worldB cs n st
  · rw [hw] at hc
    have HO : Hid (okSet cs n st k m t = false) := by show _ = _; unfold okSet; rw [hw]; rfl
    refine hc.mono ?_
    rintro e w1 ⟨rfl, hB⟩
    have B1 : Hid (Below W.heap.size W w1) := HX.out.trans (hB.mono HX.out.size)
    have X1 : Hid (Below X.heap.size X w1) := hB
    have R1 : Hid (w1.rowIs W.heap.size 29 2 (rowF [.slice a n cap, .int .i64 st])) := HRX.out.of_block (hB.block _ HRX.out.lt)
    have Z1 : Hid (w1.rowIs (W.heap.size + 1) 29 2 (rowF [.slice none 0 0, .int .i64 0])) := HZX.out.of_block (hB.block _ HZX.out.lt)
    clear hB hc
    have r0 : w1.cell? ⟨W.heap.size, 0, none⟩ = some (.slice a n cap) := R1.out.cell (i := 0) (by decide)
    have r1 : w1.cell? ⟨W.heap.size, 1, none⟩ = some (.int .i64 st) := R1.out.cell (i := 1) (by decide)
    have z0 : w1.cell? ⟨W.heap.size + 1, 0, none⟩ = some (.slice none 0 0) := Z1.out.cell (i := 0) (by decide)
    have z1 : w1.cell? ⟨W.heap.size + 1, 1, none⟩ = some (.int .i64 0) := Z1.out.cell (i := 1) (by decide)
    have y0 : w1.frozen? ⟨W.heap.size + 1, 0, none⟩ = false := Z1.out.frozen 0
    have y1 : w1.frozen? ⟨W.heap.size + 1, 1, none⟩ = false := Z1.out.frozen 1
    have lZ := Z1.out.lt
    go_wp2
    refine bodyPost_ret (v := .tuple #[.agg #[.slice none 0 0, .int .i64 0], .bool false]) (by simp only [results, Try.results16]; go_simp) rfl (set_no HO.out ?_)
    refine Below.trans B1.out ?_
    iterate 2 refine Below.setCell ?_ (by simp; try omega) _
    exact Below.refl _ _
  rw [hw] at hc
  refine hc.mono ?_
  rintro e w1 ⟨rfl, hB⟩
  have B1 : Hid (Below W.heap.size W w1) := HX.out.trans (hB.mono HX.out.size)
  have X1 : Hid (Below X.heap.size X w1) := hB
  have R1 : Hid (w1.rowIs W.heap.size 29 2 (rowF [.slice a n cap, .int .i64 st])) := HRX.out.of_block (hB.block _ HRX.out.lt)
  have Z1 : Hid (w1.rowIs (W.heap.size + 1) 29 2 (rowF [.slice none 0 0, .int .i64 0])) := HZX.out.of_block (hB.block _ HZX.out.lt)
  clear hB hc
  have r0 : w1.cell? ⟨W.heap.size, 0, none⟩ = some (.slice a n cap) := R1.out.cell (i := 0) (by decide)
  have r1 : w1.cell? ⟨W.heap.size, 1, none⟩ = some (.int .i64 st) := R1.out.cell (i := 1) (by decide)
  cases hk : inR k 0 ((n : Int) - 1)
  · have HO : Hid (okSet cs n st k m t = false) := by show _ = _; unfold okSet; rw [hk]; simp
    go_wp2_with fail
    refine (spec_class hk hn w1).mono ?_
    rintro e w2 ⟨rfl, hB⟩
    have B2 : Hid (Below W.heap.size W w2) := B1.out.trans (hB.mono B1.out.size)
    have X2 : Hid (Below X.heap.size X w2) := X1.out.trans (hB.mono X1.out.size)
    have R2 : Hid (w2.rowIs W.heap.size 29 2 (rowF [.slice a n cap, .int .i64 st])) := R1.out.of_block (hB.block _ R1.out.lt)
    have Z2 : Hid (w2.rowIs (W.heap.size + 1) 29 2 (rowF [.slice none 0 0, .int .i64 0])) := Z1.out.of_block (hB.block _ Z1.out.lt)
    clear hB r0 r1
    have r0 : w2.cell? ⟨W.heap.size, 0, none⟩ = some (.slice a n cap) := R2.out.cell (i := 0) (by decide)
    have r1 : w2.cell? ⟨W.heap.size, 1, none⟩ = some (.int .i64 st) := R2.out.cell (i := 1) (by decide)
    have z0 : w2.cell? ⟨W.heap.size + 1, 0, none⟩ = some (.slice none 0 0) := Z2.out.cell (i := 0) (by decide)
    have z1 : w2.cell? ⟨W.heap.size + 1, 1, none⟩ = some (.int .i64 0) := Z2.out.cell (i := 1) (by decide)
    have y0 : w2.frozen? ⟨W.heap.size + 1, 0, none⟩ = false := Z2.out.frozen 0
    have y1 : w2.frozen? ⟨W.heap.size + 1, 1, none⟩ = false := Z2.out.frozen 1
    have lZ := Z2.out.lt
    go_wp2
    refine bodyPost_ret (v := .tuple #[.agg #[.slice none 0 0, .int .i64 0], .bool false]) (by simp only [results, Try.results16]; go_simp) rfl (set_no HO.out ?_)
    refine Below.trans B2.out ?_
    iterate 2 refine Below.setCell ?_ (by simp; try omega) _
    exact Below.refl _ _
  go_wp2_with fail
  refine (spec_class hk hn w1).mono ?_
  rintro e w2 ⟨rfl, hB⟩
  have B2 : Hid (Below W.heap.size W w2) := B1.out.trans (hB.mono B1.out.size)
  have X2 : Hid (Below X.heap.size X w2) := X1.out.trans (hB.mono X1.out.size)
  have R2 : Hid (w2.rowIs W.heap.size 29 2 (rowF [.slice a n cap, .int .i64 st])) := R1.out.of_block (hB.block _ R1.out.lt)
  have Z2 : Hid (w2.rowIs (W.heap.size + 1) 29 2 (rowF [.slice none 0 0, .int .i64 0])) := Z1.out.of_block (hB.block _ Z1.out.lt)
  clear hB r0 r1
  have r0 : w2.cell? ⟨W.heap.size, 0, none⟩ = some (.slice a n cap) := R2.out.cell (i := 0) (by decide)
  have r1 : w2.cell? ⟨W.heap.size, 1, none⟩ = some (.int .i64 st) := R2.out.cell (i := 1) (by decide)
  cases hm : inR m 0 4
  · have HO : Hid (okSet cs n st k m t = false) := by show _ = _; unfold okSet; rw [hm]; simp
    have z0 : w2.cell? ⟨W.heap.size + 1, 0, none⟩ = some (.slice none 0 0) := Z2.out.cell (i := 0) (by decide)
    have z1 : w2.cell? ⟨W.heap.size + 1, 1, none⟩ = some (.int .i64 0) := Z2.out.cell (i := 1) (by decide)
    have y0 : w2.frozen? ⟨W.heap.size + 1, 0, none⟩ = false := Z2.out.frozen 0
    have y1 : w2.frozen? ⟨W.heap.size + 1, 1, none⟩ = false := Z2.out.frozen 1
    have lZ := Z2.out.lt
    go_wp2_with (go_at_call 40; refine (name_quiet hm _).mono ?_; rintro e w' ⟨rfl, hw'⟩; rw [hw']; clear hw' w')
    refine bodyPost_ret (v := .tuple #[.agg #[.slice none 0 0, .int .i64 0], .bool false]) (by simp only [results, Try.results16]; go_simp) rfl (set_no HO.out ?_)
    refine Below.trans B2.out ?_
    iterate 2 refine Below.setCell ?_ (by simp; try omega) _
    exact Below.refl _ _
  cases ht : inR t 0 1000
  · have HO : Hid (okSet cs n st k m t = false) := by show _ = _; unfold okSet; rw [ht]; simp
    have z0 : w2.cell? ⟨W.heap.size + 1, 0, none⟩ = some (.slice none 0 0) := Z2.out.cell (i := 0) (by decide)
    have z1 : w2.cell? ⟨W.heap.size + 1, 1, none⟩ = some (.int .i64 0) := Z2.out.cell (i := 1) (by decide)
    have y0 : w2.frozen? ⟨W.heap.size + 1, 0, none⟩ = false := Z2.out.frozen 0
    have y1 : w2.frozen? ⟨W.heap.size + 1, 1, none⟩ = false := Z2.out.frozen 1
    have lZ := Z2.out.lt
    go_wp2_with (first | (go_at_call 40; refine (name_quiet hm _).mono ?_; rintro e w' ⟨rfl, hw'⟩; rw [hw']; clear hw' w') | (go_at_call 34; refine (in_quiet ht _).mono ?_; rintro e w' ⟨rfl, hw'⟩; rw [hw']; clear hw' w'))
    refine bodyPost_ret (v := .tuple #[.agg #[.slice none 0 0, .int .i64 0], .bool false]) (by simp only [results, Try.results16]; go_simp) rfl (set_no HO.out ?_)
    refine Below.trans B2.out ?_
    iterate 2 refine Below.setCell ?_ (by simp; try omega) _
    exact Below.refl _ _
  obtain ⟨⟨hn0, hn1⟩, ⟨hst0, hst1⟩, hok⟩ := world_out hw
  have HOK : Hid (∀ k, k < n → ClassOk cs k) := hok
  have HW : Hid (worldB cs n st = true) := hw
  clear hok
  by_cases hmax : st = 1000000
  · have HO : Hid (okSet cs n st k m t = false) := by
      show _ = _; unfold okSet
      rw [show inR st 0 999999 = false from inR_gt (by omega)]; simp
    subst hmax
    have z0 : w2.cell? ⟨W.heap.size + 1, 0, none⟩ = some (.slice none 0 0) := Z2.out.cell (i := 0) (by decide)
    have z1 : w2.cell? ⟨W.heap.size + 1, 1, none⟩ = some (.int .i64 0) := Z2.out.cell (i := 1) (by decide)
    have y0 : w2.frozen? ⟨W.heap.size + 1, 0, none⟩ = false := Z2.out.frozen 0
    have y1 : w2.frozen? ⟨W.heap.size + 1, 1, none⟩ = false := Z2.out.frozen 1
    have lZ := Z2.out.lt
    go_wp2_with (first | (go_at_call 40; refine (name_quiet hm _).mono ?_; rintro e w' ⟨rfl, hw'⟩; rw [hw']; clear hw' w') | (go_at_call 34; refine (in_quiet ht _).mono ?_; rintro e w' ⟨rfl, hw'⟩; rw [hw']; clear hw' w'))
    refine bodyPost_ret (v := .tuple #[.agg #[.slice none 0 0, .int .i64 0], .bool false]) (by simp only [results, Try.results16]; go_simp) rfl (set_no HO.out ?_)
    refine Below.trans B2.out ?_
    iterate 2 refine Below.setCell ?_ (by simp; try omega) _
    exact Below.refl _ _
  have HO : Hid (okSet cs n st k m t = true) := by show _ = _; unfold okSet; rw [hw, hk, hm, ht, inR_mk hst0 (by omega)]; rfl
  have d1 : decide (st = 1000000) = false := decide_eq_false hmax
  have d2 : (st == 1000000) = false := by simpa using hmax
  have hwr : IntKind.i64.wrap (st + 1) = st + 1 := Go.IntWalk.i64_in _ (by omega)
  clear hmax
  obtain ⟨k0, k1⟩ := inR_out hk
  obtain ⟨m0, m1⟩ := inR_out hm
  obtain ⟨kk, rfl⟩ : ∃ q : Nat, k = (q : Int) := ⟨k.toNat, by omega⟩
  obtain ⟨mm, rfl⟩ : ∃ q : Nat, m = (q : Int) := ⟨m.toNat, by omega⟩
  have hkn : kk < n := by omega
  have hm5 : mm < 5 := by omega
  have hco := spec_own a n cap cs st c w2 hf HW ((h.out.kept HX.out).kept X2.out)
  go_upto_region 4 with (first | (go_at_call 40; refine (name_quiet hm _).mono ?_; rintro e w' ⟨rfl, hw'⟩; rw [hw']; clear hw' w') | (go_at_call 34; refine (in_quiet ht _).mono ?_; rintro e w' ⟨rfl, hw'⟩; rw [hw']; clear hw' w') | (go_at_call 44; refine hco.mono ?_; rintro e w3 ⟨g, d, F, rfl, hO3, hF3, hB3⟩))
  obtain ⟨wc, hwc⟩ : ∃ wc, Hid (w3.alloc (.cells #[.slice (some ⟨g, 0, none⟩) n d, .int .i64 st] 29) = wc) := ⟨_, rfl⟩
  rw [hwc.out]
  have s2 := X2.out.size
  have s3 := hB3.size
  have sX := HXS.out
  have hB : Below W.heap.size W wc := by rw [← hwc.out]; exact (B2.out.trans (hB3.mono B2.out.size)).alloc (by have := B2.out.size; omega) _
  have hO : Owns wc false W.heap.size (.l n 2 cs) (.slice (some ⟨g, 0, none⟩) n d) F := by rw [← hwc.out]; exact (hO3.low B2.out.size).kept ((Below.refl _ _).alloc (Nat.le_refl _) _)
  have hR : wc.rowIs w3.heap.size 29 2 (rowF [.slice (some ⟨g, 0, none⟩) n d, .int .i64 st]) := by rw [← hwc.out]; exact row_of w3 #[.slice (some ⟨g, 0, none⟩) n d, .int .i64 st] _
  have hZ : wc.rowIs (W.heap.size + 1) 29 2 (rowF [.slice none 0 0, .int .i64 0]) := by rw [← hwc.out]; exact (Z2.out.of_block (hB3.block _ Z2.out.lt)).alloc _
  have hF : ∀ x, F x → W.heap.size + 2 ≤ x ∧ x < wc.heap.size ∧ x ≠ w3.heap.size := fun x hx => by
    have q := hF3 x hx
    have e : wc.heap.size = w3.heap.size + 1 := by rw [← hwc.out]; simp
    exact ⟨by omega, by omega, by omega⟩
  obtain ⟨gb, hgbe⟩ : ∃ gb, gb = w3.heap.size := ⟨_, rfl⟩
  rw [← hgbe] at hR hF ⊢
  have hgb : W.heap.size + 2 ≤ gb := by omega
  clear hO3 hF3 hB3 hco hwc hgbe s2 s3 sX
  obtain ⟨m', es, he, hes⟩ := (hf.out.cell hkn (c := 1) (by decide)).list
  have he' : cs (kk * 2 + 1) = .l m' 1 es := he
  have hl5 := (HOK.out kk hkn).2.1
  have hm' : m' = 5 := by unfold mlC at hl5; rw [he'] at hl5; exact hl5
  subst hm'
  obtain ⟨a', cap', H, q1, q2, q3⟩ := hO.sub (j := kk * 2 + 1) (by omega) he'
  obtain ⟨b2, o2, ea, hb2⟩ := q2.addr (by decide)
  subst ea
  obtain ⟨y, hy⟩ := (hes mm (by omega)).int
  obtain ⟨c1, c2, c3⟩ := q2.num (j := mm) (by omega) hy
  obtain ⟨o3, only3⟩ := c3 t
  obtain ⟨W4, hW4⟩ : ∃ W4, Hid (wc.setCell ⟨b2, o2 + mm, none⟩ (.int .i64 t) = W4) := ⟨_, rfl⟩
  rw [hW4.out] at o3 only3
  obtain ⟨hO4, hOF4⟩ := q3 W4 _ only3 o3
  have hE : updD cs (kk * 2 + 1) (.l 5 1 (updD es mm (.n t))) = setC cs kk mm t := by unfold setC; rw [he']; rfl
  rw [hE] at hO4
  have O4 : Hid (Owns W4 false W.heap.size (.l n 2 (setC cs kk mm t)) (.slice (some ⟨g, 0, none⟩) n d) F) := hO4
  have glt := hR.lt
  have R4 : Hid (W4.rowIs gb 29 2 (rowF [.slice (some ⟨g, 0, none⟩) n d, .int .i64 st])) := hR.of_block (hOF4.block gb glt (fun q => (hF gb q).2.2 rfl))
  have Z4 : Hid (W4.rowIs (W.heap.size + 1) 29 2 (rowF [.slice none 0 0, .int .i64 0])) := hZ.of_block (hOF4.block _ hZ.lt (fun q => by have := hF _ q; omega))
  have B4 : Hid (Below W.heap.size W W4) := hB.trans (hOF4.below hB.size (fun x hx => by have := hF x hx; omega))
  have HF4 : Hid (∀ x, F x → W.heap.size + 2 ≤ x ∧ x < W4.heap.size ∧ x ≠ gb) := fun x hx => by have q := hF x hx; have := hOF4.size; omega
  have g0 : wc.cell? ⟨gb, 0, none⟩ = some (.slice (some ⟨g, 0, none⟩) n d) := hR.cell (i := 0) (by decide)
  rw [Nat.zero_add] at q1
  have q1' : wc.cell? ⟨g, kk * 2 + 1, none⟩ = some (.slice (some ⟨b2, o2, none⟩) 5 cap') := q1
  have hkI : (kk : Int) < (n : Int) := by omega
  have hmI : (mm : Int) < 5 := by omega
  clear q1 q2 q3 o3 only3 hO4 hO hOF4 hR hZ hB he hes c3 hE hF HXS HX HRX HZX
  go_upto_region 5 with fail
  rw [hW4.out]
  have x0 : W4.cell? ⟨gb, 0, none⟩ = some (.slice (some ⟨g, 0, none⟩) n d) := R4.out.cell (i := 0) (by decide)
  have x1 : W4.cell? ⟨gb, 1, none⟩ = some (.int .i64 st) := R4.out.cell (i := 1) (by decide)
  have xf : W4.frozen? ⟨gb, 1, none⟩ = false := R4.out.frozen 1
  clear hW4 g0 q1' c1 c2
  go_upto_region 6 with fail
  obtain ⟨w5, hw5⟩ : ∃ w5, Hid (W4.setCell ⟨gb, 1, none⟩ (.int .i64 (st + 1)) = w5) := ⟨_, rfl⟩
  rw [hw5.out]
  have R5 : Hid (w5.rowIs gb 29 2 (rowF [.slice (some ⟨g, 0, none⟩) n d, .int .i64 (st + 1)])) := by
    show World.rowIs _ _ _ _ _
    rw [← hw5.out]
    refine (R4.out.set 1 (.int .i64 (st + 1))).congr (fun i hi => ?_)
    match i, hi with
    | 0, _ => rfl
    | 1, _ => rfl
    | i + 2, h => exact absurd h (by omega)
  have Z5 : Hid (w5.rowIs (W.heap.size + 1) 29 2 (rowF [.slice none 0 0, .int .i64 0])) := by show World.rowIs _ _ _ _ _; rw [← hw5.out]; exact Z4.out.setOther (by show W.heap.size + 1 ≠ gb; omega) _
  have B5 : Hid (Below W.heap.size W w5) := by show Below _ _ _; rw [← hw5.out]; exact B4.out.setCell (by show W.heap.size ≤ gb; omega) _
  have O5 : Hid (Owns w5 false W.heap.size (.l n 2 (setC cs kk mm t)) (.slice (some ⟨g, 0, none⟩) n d) F) := by
    show Owns _ _ _ _ _ _
    rw [← hw5.out]
    exact O4.out.agree (by simp [World.setCell]) (fun x hx _ => Below.heap_setCell _ _ _ _ (by show x ≠ gb; have := HF4.out x hx; omega))
  have HF5 : Hid (∀ x, F x → W.heap.size + 2 ≤ x ∧ x < w5.heap.size) := fun x hx => by
    have q := HF4.out x hx
    have e : w5.heap.size = W4.heap.size := by rw [← hw5.out]; simp [World.setCell]
    omega
  have hgz : gb ≠ W.heap.size + 1 := by omega
  clear hw5 x0 x1 xf
  have h0 : w5.cell? ⟨gb, 0, none⟩ = some (.slice (some ⟨g, 0, none⟩) n d) := R5.out.cell (i := 0) (by decide)
  have h1 : w5.cell? ⟨gb, 1, none⟩ = some (.int .i64 (st + 1)) := R5.out.cell (i := 1) (by decide)
  have z0 : w5.cell? ⟨W.heap.size + 1, 0, none⟩ = some (.slice none 0 0) := Z5.out.cell (i := 0) (by decide)
  have z1 : w5.cell? ⟨W.heap.size + 1, 1, none⟩ = some (.int .i64 0) := Z5.out.cell (i := 1) (by decide)
  have y0 : w5.frozen? ⟨W.heap.size + 1, 0, none⟩ = false := Z5.out.frozen 0
  have y1 : w5.frozen? ⟨W.heap.size + 1, 1, none⟩ = false := Z5.out.frozen 1
  have lZ := Z5.out.lt
  go_wp2
  refine bodyPost_ret (v := .tuple #[.agg #[.slice (some ⟨g, 0, none⟩) n d, .int .i64 (st + 1)], .bool true]) (by simp only [results, Try.results16]; go_simp) rfl (set_yes (F := F) HO.out ?_ ?_ ?_)
  · rw [Int.toNat_natCast, Int.toNat_natCast]
    refine O5.out.agree (by simp [World.setCell]) (fun x hx _ => ?_)
    have := HF5.out x hx
    exact (Below.heap_setCell _ _ _ _ (by show x ≠ W.heap.size + 1; omega)).trans (Below.heap_setCell _ _ _ _ (by show x ≠ W.heap.size + 1; omega))
  · intro x hx
    have := HF5.out x hx
    exact ⟨by omega, by simp [World.setCell]; omega⟩
  · refine Below.trans B5.out ?_
    iterate 2 refine Below.setCell ?_ (by simp; try omega) _
    exact Below.refl _ _
end Go.Proofs.Yticgipmaflhplaa.walks
