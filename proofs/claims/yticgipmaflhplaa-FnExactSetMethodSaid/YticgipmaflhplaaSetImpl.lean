/-
  What the program's SetMethod answers.
-/
import Derived.Test.YticgipmaflhplaaProg
import Derived.Test.YticgipmaflhplaaMagMath
import Derived.Test.YticgipmaflhplaaWorldMath
import Derived.Test.YticgipmaflhplaaSetMath
import Derived.Test.YticgipmaflhplaaInts
import Derived.Test.YticgipmaflhplaaDeep
import Derived.Test.YticgipmaflhplaaDeepRow
import Derived.Test.YticgipmaflhplaaDeepC
import Derived.Test.YticgipmaflhplaaWorldSpec
import Derived.Test.YticgipmaflhplaaWorldImpl
import Derived.Test.YticgipmaflhplaaCopyImpl
import Derived.WalkKit
import Derived.WalkSpells
import Derived.Below
import Derived.Handy
import Derived.Deep.DeepFit
import Derived.Deep.DeepCutAuto
import Derived.Deep.RegionHeld3
namespace Go.Proofs.Yticgipmaflhplaa.walks
open Go.RowKit Go.Proofs.Yticgipmaflhplaa.math Go.Proofs.Yticgipmaflhplaa.ints Go.Proofs.Yticgipmaflhplaa.deep
set_option linter.unusedVariables false
set_option maxRecDepth 100000

/-- What SetMethod answers: a world of its own. -/
def SetAns (W : World) (cs : Nat → Dv) (n : Nat) (st k m t : Int) (e : Ending) (W' : World) : Prop := ∃ (g : Option Addr) (d : Nat) (F : Nat → Prop), e = .returned (.tuple #[.agg #[.slice g (if okSet cs n st k m t then n else 0) d, .int .i64 (if okSet cs n st k m t then st + 1 else 0)], .bool (okSet cs n st k m t)]) ∧ Owns W' false W.heap.size (.l (if okSet cs n st k m t then n else 0) 2 (setC cs k.toNat m.toNat t)) (.slice g (if okSet cs n st k m t then n else 0) d) F ∧ (∀ x, F x → W.heap.size ≤ x ∧ x < W'.heap.size) ∧ Below W.heap.size W W'
theorem set_no {W W' : World} {cs : Nat → Dv} {n : Nat} {st k m t : Int} (h : okSet cs n st k m t = false) (hb : Below W.heap.size W W') : SetAns W cs n st k m t (.returned (.tuple #[.agg #[.slice none 0 0, .int .i64 0], .bool false])) W' := by
  refine ⟨none, 0, fun _ => False, ?_, ?_, fun x q => q.elim, hb⟩
  · rw [h]; rfl
  · rw [h]; exact ⟨_, _, rfl, (fun q => by cases q), Or.inl rfl⟩
theorem set_yes {W W' : World} {cs : Nat → Dv} {n g d : Nat} {st k m t : Int} {F : Nat → Prop} (h : okSet cs n st k m t = true) (ho : Owns W' false W.heap.size (.l n 2 (setC cs k.toNat m.toNat t)) (.slice (some ⟨g, 0, none⟩) n d) F) (hF : ∀ x, F x → W.heap.size ≤ x ∧ x < W'.heap.size) (hb : Below W.heap.size W W') : SetAns W cs n st k m t (.returned (.tuple #[.agg #[.slice (some ⟨g, 0, none⟩) n d, .int .i64 (st + 1)], .bool true])) W' := by
  refine ⟨some ⟨g, 0, none⟩, d, F, ?_, ?_, hF, hb⟩
  · rw [h]; rfl
  · rw [h]; exact ho
theorem first_trans {X w w' : World} (h : Below X.heap.size X w) (g : Below w.heap.size w w') : Below X.heap.size X w' := h.trans (g.mono h.size)
theorem far_two {w3 : World} {A B : Nat} {v0 v1 u0 u1 : Value} (h : A < B) (q : w3.cell? ⟨A, 0, none⟩ = some v0 ∧ w3.cell? ⟨A, 1, none⟩ = some v1) : ((w3.setCell ⟨B, 0, none⟩ u0).setCell ⟨B, 1, none⟩ u1).cell? ⟨A, 0, none⟩ = some v0 ∧ ((w3.setCell ⟨B, 0, none⟩ u0).setCell ⟨B, 1, none⟩ u1).cell? ⟨A, 1, none⟩ = some v1 := by
  refine ⟨?_, ?_⟩
  · rw [World.cell?_setCell_other _ _ _ _ (by simp; try omega), World.cell?_setCell_other _ _ _ _ (by simp; try omega)]; exact q.1
  · rw [World.cell?_setCell_other _ _ _ _ (by simp; try omega), World.cell?_setCell_other _ _ _ _ (by simp; try omega)]; exact q.2
/-- Between the copy and the store. -/
def SetMid (W wx : World) (n : Nat) (cs : Nat → Dv) (st : Int) (v : Value) : Prop := ∃ gb g d F, v = .pointer (some ⟨gb, 0, none⟩) ∧ wx.rowIs gb 29 2 (rowF [.slice (some ⟨g, 0, none⟩) n d, .int .i64 (st + 1)]) ∧ Owns wx false W.heap.size (.l n 2 cs) (.slice (some ⟨g, 0, none⟩) n d) F ∧ (∀ x, F x → W.heap.size + 2 ≤ x ∧ x < wx.heap.size ∧ x ≠ gb) ∧ W.heap.size + 2 ≤ gb ∧ wx.rowIs (W.heap.size + 1) 29 2 (rowF [.slice none 0 0, .int .i64 0]) ∧ Below W.heap.size W wx
theorem mid_a {W X w2 w3 : World} {n g d : Nat} {cs : Nat → Dv} {st : Int} {F : Nat → Prop} (hX : Below W.heap.size W X) (hs : X.heap.size = W.heap.size + 2) (hz : X.rowIs (W.heap.size + 1) 29 2 (rowF [.slice none 0 0, .int .i64 0])) (h2 : Below X.heap.size X w2) (h3 : Below X.heap.size X w3)
    (hO : Owns w3 false w2.drew.heap.size (.l n 2 cs) (.slice (some ⟨g, 0, none⟩) n d) F) (hF : ∀ x, F x → w2.drew.heap.size ≤ x ∧ x < w3.heap.size) :
    SetMid W (w3.alloc (.cells #[.slice (some ⟨g, 0, none⟩) n d, .int .i64 (st + 1)] 29)) n cs st (.pointer (some ⟨w3.heap.size, 0, none⟩)) := by
  have s2 : X.heap.size ≤ w2.heap.size := h2.size
  have s3 := h3.size
  have sX := hX.size
  have hF' : ∀ x, F x → w2.heap.size ≤ x ∧ x < w3.heap.size := hF
  refine ⟨w3.heap.size, g, d, F, rfl, row_of w3 #[.slice (some ⟨g, 0, none⟩) n d, .int .i64 (st + 1)] _, ?_, fun x hx => ?_, by omega, (hz.of_block (h3.block _ hz.lt)).alloc _, ?_⟩
  · exact (hO.low (show W.heap.size ≤ w2.heap.size by omega)).kept ((Below.refl _ _).alloc (Nat.le_refl _) _)
  · have q := hF' x hx
    exact ⟨by omega, by simp; omega, by omega⟩
  · exact (hX.trans (h3.mono sX)).alloc (by omega) _
theorem mid_b {W X w2 w3 : World} {n g d : Nat} {cs : Nat → Dv} {st : Int} {F : Nat → Prop} {o : Obj} (hX : Below W.heap.size W X) (hs : X.heap.size = W.heap.size + 2) (hz : X.rowIs (W.heap.size + 1) 29 2 (rowF [.slice none 0 0, .int .i64 0])) (h2 : Below X.heap.size X w2) (h3 : Below X.heap.size X w3)
    (hR : w3.rowIs w2.heap.size 29 2 (rowF [.slice none 0 0, .int .i64 0])) (hO : Owns w3 false (w2.drew.alloc o).heap.size (.l n 2 cs) (.slice (some ⟨g, 0, none⟩) n d) F) (hF : ∀ x, F x → (w2.drew.alloc o).heap.size ≤ x ∧ x < w3.heap.size) :
    SetMid W ((w3.setCell ⟨w2.heap.size, 0, none⟩ (.slice (some ⟨g, 0, none⟩) n d)).setCell ⟨w2.heap.size, 1, none⟩ (.int .i64 (st + 1))) n cs st (.pointer (some ⟨w2.heap.size, 0, none⟩)) := by
  have s2 : X.heap.size ≤ w2.heap.size := h2.size
  have s3 := h3.size
  have sX := hX.size
  have e : (w2.drew.alloc o).heap.size = w2.heap.size + 1 := by show (w2.heap.push o).size = _; simp
  rw [e] at hO hF
  have blk : ∀ x, x ≠ w2.heap.size → ((w3.setCell ⟨w2.heap.size, 0, none⟩ (.slice (some ⟨g, 0, none⟩) n d)).setCell ⟨w2.heap.size, 1, none⟩ (.int .i64 (st + 1))).heap[x]? = w3.heap[x]? := fun x hx => (Below.heap_setCell _ _ _ _ hx).trans (Below.heap_setCell _ _ _ _ hx)
  have zlt := hz.lt
  refine ⟨w2.heap.size, g, d, F, rfl, ?_, ?_, fun x hx => ?_, by omega, (hz.of_block (h3.block _ hz.lt)).of_block (blk _ (by omega)), ?_⟩
  · refine ((hR.set 0 (.slice (some ⟨g, 0, none⟩) n d)).set 1 (.int .i64 (st + 1))).congr (fun i hi => ?_)
    match i, hi with
    | 0, _ => rfl
    | 1, _ => rfl
    | i + 2, h => exact absurd h (by omega)
  · exact (hO.low (show W.heap.size ≤ w2.heap.size + 1 by omega)).agree (by simp [World.setCell]) (fun x hx _ => blk x (by have := hF x hx; omega))
  · have q := hF x hx
    exact ⟨by omega, by simp [World.setCell]; omega, by omega⟩
  · exact ((hX.trans (h3.mono sX)).setCell (by show W.heap.size ≤ w2.heap.size; omega) _).setCell (by show W.heap.size ≤ w2.heap.size; omega) _
set_option maxHeartbeats 8000000 in
theorem impl_setmethod (a : Option Addr) (n cap : Nat) (cs : Nat → Dv) (st k m t : Int) (c : Bool) (W : World) (hf : Hid (Fits shClassS (.l n 2 cs))) (hs : Hid (szD (.l n 2 cs) ≤ 1048576)) (h : Hid (Holds W c (.l n 2 cs) (.slice a n cap))) :
    Calls Try.prog 17 #[.agg #[.slice a n cap, .int .i64 st], .int .i64 k, .int .i64 m, .int .i64 t] W fun e W' => SetAns W cs n st k m t e W' := by
  have hn : n ≤ 1048576 := Nat.le_trans (Nat.le_add_right _ _) hs.out
  obtain ⟨X, hX⟩ : ∃ X, Hid ((W.alloc (.cells #[.slice a n cap, .int .i64 st] 29)).alloc (.cells #[.slice none 0 0, .int .i64 0] 29) = X) := ⟨_, rfl⟩
  have HX : Hid (Below W.heap.size W X) := by show Below _ _ _; rw [← hX.out]; go_grown
  have HXS : Hid (X.heap.size = W.heap.size + 2) := by show _ = _; rw [← hX.out]; simp
  have HRX : Hid (X.rowIs W.heap.size 29 2 (rowF [.slice a n cap, .int .i64 st])) := by show World.rowIs _ _ _ _ _; rw [← hX.out]; exact (row_of W #[.slice a n cap, .int .i64 st] _).alloc _
  have HZX : Hid (X.rowIs (W.heap.size + 1) 29 2 (rowF [.slice none 0 0, .int .i64 0])) := by
    have q := row_of (W.alloc (.cells #[.slice a n cap, .int .i64 st] 29)) #[.slice none 0 0, .int .i64 0] 29
    rw [show (W.alloc (.cells #[.slice a n cap, .int .i64 st] 29)).heap.size = W.heap.size + 1 by simp] at q
    show World.rowIs _ _ _ _ _
    rw [← hX.out]; exact q
  go_enter Try.func17, Try.ntmps17
  go_wp2_with fail
  rw [hX.out]
  clear hX
  have hc := impl_world a n cap cs st c X hf hs (h.out.kept HX.out)
  cases hw : worldB cs n st
  · rw [hw] at hc
    have HO : Hid (okSet cs n st k m t = false) := by show _ = _; unfold okSet; rw [hw]; rfl
    refine hc.mono ?_
    rintro e w1 ⟨rfl, hB⟩
    have B1 : Hid (Below W.heap.size W w1) := HX.out.trans (hB.mono HX.out.size)
    have X1 : Hid (Below X.heap.size X w1) := hB
    have R1 : Hid (w1.rowIs W.heap.size 29 2 (rowF [.slice a n cap, .int .i64 st])) := HRX.out.of_block (hB.block _ HRX.out.lt)
    have Z1 : Hid (w1.rowIs (W.heap.size + 1) 29 2 (rowF [.slice none 0 0, .int .i64 0])) := HZX.out.of_block (hB.block _ HZX.out.lt)
    clear hB hc
    have r0 : w1.cell? ⟨W.heap.size, 0, none⟩ = some (.slice a n cap) := R1.out.cell (i := 0) (by decide)
    have r1 : w1.cell? ⟨W.heap.size, 1, none⟩ = some (.int .i64 st) := R1.out.cell (i := 1) (by decide)
    have z0 : w1.cell? ⟨W.heap.size + 1, 0, none⟩ = some (.slice none 0 0) := Z1.out.cell (i := 0) (by decide)
    have z1 : w1.cell? ⟨W.heap.size + 1, 1, none⟩ = some (.int .i64 0) := Z1.out.cell (i := 1) (by decide)
    have y0 : w1.frozen? ⟨W.heap.size + 1, 0, none⟩ = false := Z1.out.frozen 0
    have y1 : w1.frozen? ⟨W.heap.size + 1, 1, none⟩ = false := Z1.out.frozen 1
    have lZ := Z1.out.lt
    go_wp2
    refine bodyPost_ret (v := .tuple #[.agg #[.slice none 0 0, .int .i64 0], .bool false]) (by simp only [results, Try.results17]; go_simp) rfl (set_no HO.out ?_)
    refine Below.trans B1.out ?_
    iterate 2 refine Below.setCell ?_ (by simp; try omega) _
    exact Below.refl _ _
  rw [hw] at hc
  refine hc.mono ?_
  rintro e w1 ⟨rfl, hB⟩
  have B1 : Hid (Below W.heap.size W w1) := HX.out.trans (hB.mono HX.out.size)
  have X1 : Hid (Below X.heap.size X w1) := hB
  have R1 : Hid (w1.rowIs W.heap.size 29 2 (rowF [.slice a n cap, .int .i64 st])) := HRX.out.of_block (hB.block _ HRX.out.lt)
  have Z1 : Hid (w1.rowIs (W.heap.size + 1) 29 2 (rowF [.slice none 0 0, .int .i64 0])) := HZX.out.of_block (hB.block _ HZX.out.lt)
  clear hB hc
  have r0 : w1.cell? ⟨W.heap.size, 0, none⟩ = some (.slice a n cap) := R1.out.cell (i := 0) (by decide)
  have r1 : w1.cell? ⟨W.heap.size, 1, none⟩ = some (.int .i64 st) := R1.out.cell (i := 1) (by decide)
  cases hk : inR k 0 ((n : Int) - 1)
  · have HO : Hid (okSet cs n st k m t = false) := by show _ = _; unfold okSet; rw [hk]; simp
    go_wp2_with fail
    refine (impl_class hk hn w1).mono ?_
    rintro e w2 ⟨rfl, hB⟩
    have B2 : Hid (Below W.heap.size W w2) := B1.out.trans (hB.mono B1.out.size)
    have X2 : Hid (Below X.heap.size X w2) := X1.out.trans (hB.mono X1.out.size)
    have R2 : Hid (w2.rowIs W.heap.size 29 2 (rowF [.slice a n cap, .int .i64 st])) := R1.out.of_block (hB.block _ R1.out.lt)
    have Z2 : Hid (w2.rowIs (W.heap.size + 1) 29 2 (rowF [.slice none 0 0, .int .i64 0])) := Z1.out.of_block (hB.block _ Z1.out.lt)
    clear hB r0 r1
    have r0 : w2.cell? ⟨W.heap.size, 0, none⟩ = some (.slice a n cap) := R2.out.cell (i := 0) (by decide)
    have r1 : w2.cell? ⟨W.heap.size, 1, none⟩ = some (.int .i64 st) := R2.out.cell (i := 1) (by decide)
    have z0 : w2.cell? ⟨W.heap.size + 1, 0, none⟩ = some (.slice none 0 0) := Z2.out.cell (i := 0) (by decide)
    have z1 : w2.cell? ⟨W.heap.size + 1, 1, none⟩ = some (.int .i64 0) := Z2.out.cell (i := 1) (by decide)
    have y0 : w2.frozen? ⟨W.heap.size + 1, 0, none⟩ = false := Z2.out.frozen 0
    have y1 : w2.frozen? ⟨W.heap.size + 1, 1, none⟩ = false := Z2.out.frozen 1
    have lZ := Z2.out.lt
    go_wp2
    refine bodyPost_ret (v := .tuple #[.agg #[.slice none 0 0, .int .i64 0], .bool false]) (by simp only [results, Try.results17]; go_simp) rfl (set_no HO.out ?_)
    refine Below.trans B2.out ?_
    iterate 2 refine Below.setCell ?_ (by simp; try omega) _
    exact Below.refl _ _
  go_wp2_with fail
  refine (impl_class hk hn w1).mono ?_
  rintro e w2 ⟨rfl, hB⟩
  have B2 : Hid (Below W.heap.size W w2) := B1.out.trans (hB.mono B1.out.size)
  have X2 : Hid (Below X.heap.size X w2) := X1.out.trans (hB.mono X1.out.size)
  have R2 : Hid (w2.rowIs W.heap.size 29 2 (rowF [.slice a n cap, .int .i64 st])) := R1.out.of_block (hB.block _ R1.out.lt)
  have Z2 : Hid (w2.rowIs (W.heap.size + 1) 29 2 (rowF [.slice none 0 0, .int .i64 0])) := Z1.out.of_block (hB.block _ Z1.out.lt)
  clear hB r0 r1
  have r0 : w2.cell? ⟨W.heap.size, 0, none⟩ = some (.slice a n cap) := R2.out.cell (i := 0) (by decide)
  have r1 : w2.cell? ⟨W.heap.size, 1, none⟩ = some (.int .i64 st) := R2.out.cell (i := 1) (by decide)
  cases hm : inR m 0 4
  · have HO : Hid (okSet cs n st k m t = false) := by show _ = _; unfold okSet; rw [hm]; simp
    have z0 : w2.cell? ⟨W.heap.size + 1, 0, none⟩ = some (.slice none 0 0) := Z2.out.cell (i := 0) (by decide)
    have z1 : w2.cell? ⟨W.heap.size + 1, 1, none⟩ = some (.int .i64 0) := Z2.out.cell (i := 1) (by decide)
    have y0 : w2.frozen? ⟨W.heap.size + 1, 0, none⟩ = false := Z2.out.frozen 0
    have y1 : w2.frozen? ⟨W.heap.size + 1, 1, none⟩ = false := Z2.out.frozen 1
    have lZ := Z2.out.lt
    go_wp2_with (go_at_call 46; refine (mname_quiet hm _).mono ?_; rintro e w' ⟨rfl, hw'⟩; rw [hw']; clear hw' w')
    refine bodyPost_ret (v := .tuple #[.agg #[.slice none 0 0, .int .i64 0], .bool false]) (by simp only [results, Try.results17]; go_simp) rfl (set_no HO.out ?_)
    refine Below.trans B2.out ?_
    iterate 2 refine Below.setCell ?_ (by simp; try omega) _
    exact Below.refl _ _
  obtain ⟨k0, k1⟩ := inR_out hk
  obtain ⟨m0, m1⟩ := inR_out hm
  obtain ⟨⟨hn0, hn1⟩, ⟨hst0, hst1⟩, hok⟩ := world_out hw
  have HOK : Hid (∀ k, k < n → ClassOk cs k) := hok
  have HW : Hid (worldB cs n st = true) := hw
  clear hok
  obtain ⟨kk, rfl⟩ : ∃ q : Nat, k = (q : Int) := ⟨k.toNat, by omega⟩
  obtain ⟨mm, rfl⟩ : ∃ q : Nat, m = (q : Int) := ⟨m.toNat, by omega⟩
  have hkn : kk < n := by omega
  have hm5 : mm < 5 := by omega
  have HOKV : Hid (okSet cs n st (kk : Int) (mm : Int) t = worldB (setC cs kk mm t) n (st + 1)) := by show _ = _; rw [set_world HW.out hkn hm5]; unfold okSet; rw [hw, hk, hm]; simp
  have HCP : Hid (∀ w, Below X.heap.size X w → Calls Try.prog 47 #[.slice a n cap] w fun e W' => CopyAns w n cs e W') := fun w q => impl_copied a n cap cs st c w hf HW ((h.out.kept HX.out).kept q)
  go_upto_region 3 with (go_at_call 46; refine (mname_quiet hm _).mono ?_; rintro e w' ⟨rfl, hw'⟩; rw [hw']; clear hw' w')
  go_cut [10] (fun v10 wx => SetMid W wx n cs st v10)
  case first =>
    have X2d : Hid (Below X.heap.size X w2.drew) := X2.out.drew
    have X2da : Hid (∀ o, Below X.heap.size X (w2.drew.alloc o)) := fun o => X2d.out.alloc X2d.out.size o
    have lw : W.heap.size < w2.heap.size := R2.out.lt
    have lw1 : W.heap.size + 1 < w2.heap.size := Z2.out.lt
    have hwr : IntKind.i64.wrap (st + 1) = st + 1 := Go.IntWalk.i64_in _ (by omega)
    have RR : Hid (∀ w, Below X.heap.size X w → w.cell? ⟨W.heap.size, 0, none⟩ = some (.slice a n cap) ∧ w.cell? ⟨W.heap.size, 1, none⟩ = some (.int .i64 st)) := fun w q => ⟨(HRX.out.of_block (q.block _ HRX.out.lt)).cell (i := 0) (by decide), (HRX.out.of_block (q.block _ HRX.out.lt)).cell (i := 1) (by decide)⟩
    have hS : w2.drew.cell? ⟨W.heap.size, 0, none⟩ = some (.slice a n cap) ∧ w2.drew.cell? ⟨W.heap.size, 1, none⟩ = some (.int .i64 st) := ⟨r0, r1⟩
    go_region_held3 (fun w' => w'.cell? ⟨W.heap.size, 0, none⟩ = some (.slice a n cap) ∧ w'.cell? ⟨W.heap.size, 1, none⟩ = some (.int .i64 st)) (first | assumption | exact qs3 | exact far_two lw qs3 | go_keep) (first | (go_at_call 47; go_fit (HCP.out w2.drew X2d.out); rintro e w3 ⟨g, d, F, rfl, hO3, hF3, hB3⟩; have X3 := (show Hid (Below X.heap.size X w3) from first_trans X2d.out hB3); have qs3 := RR.out w3 X3.out) | (go_at_call 47; go_fit (HCP.out (w2.drew.alloc (.cells #[.slice none 0 0, .int .i64 0] 29)) (X2da.out _)); rintro e w3 ⟨g, d, F, rfl, hO3, hF3, hB3⟩; have X3 := (show Hid (Below X.heap.size X w3) from first_trans (X2da.out _) hB3); have qs3 := RR.out w3 X3.out; have RB := (show Hid (w3.rowIs w2.heap.size 29 2 (rowF [.slice none 0 0, .int .i64 0])) from (row_of w2.drew #[.slice none 0 0, .int .i64 0] 29).of_block (hB3.block _ (row_of w2.drew #[.slice none 0 0, .int .i64 0] 29).lt)); have b0 := RB.out.cell (i := 0) (by decide); have b1 := RB.out.cell (i := 1) (by decide); have f0 := RB.out.frozen 0; have f1 := RB.out.frozen 1; have lb := RB.out.lt))
    · go_wp2_with fail
      go_meet
      exact mid_a HX.out HXS.out HZX.out X2.out X3.out hO3 hF3
    · go_wp2_with fail
      go_meet
      exact mid_b HX.out HXS.out HZX.out X2.out X3.out RB.out hO3 hF3
  case rest =>
    obtain ⟨gb, g, d, F, rfl, hR, hO, hF, hgb, hZ, hB⟩ := hcut
    obtain ⟨m', es, he, hes⟩ := (hf.out.cell hkn (c := 1) (by decide)).list
    have he' : cs (kk * 2 + 1) = .l m' 1 es := he
    have hl5 := (HOK.out kk hkn).2.1
    have hm' : m' = 5 := by unfold mlC at hl5; rw [he'] at hl5; exact hl5
    subst hm'
    obtain ⟨a', cap', H, q1, q2, q3⟩ := hO.sub (j := kk * 2 + 1) (by omega) he'
    obtain ⟨b2, o2, ea, hb2⟩ := q2.addr (by decide)
    subst ea
    obtain ⟨y, hy⟩ := (hes mm (by omega)).int
    obtain ⟨c1, c2, c3⟩ := q2.num (j := mm) (by omega) hy
    obtain ⟨o3, only3⟩ := c3 t
    obtain ⟨W4, hW4⟩ : ∃ W4, Hid (wc.setCell ⟨b2, o2 + mm, none⟩ (.int .i64 t) = W4) := ⟨_, rfl⟩
    rw [hW4.out] at o3 only3
    obtain ⟨hO4, hOF4⟩ := q3 W4 _ only3 o3
    have hE : updD cs (kk * 2 + 1) (.l 5 1 (updD es mm (.n t))) = setC cs kk mm t := by unfold setC; rw [he']; rfl
    rw [hE] at hO4
    have O4 : Hid (Owns W4 false W.heap.size (.l n 2 (setC cs kk mm t)) (.slice (some ⟨g, 0, none⟩) n d) F) := hO4
    have glt := hR.lt
    have R4 : Hid (W4.rowIs gb 29 2 (rowF [.slice (some ⟨g, 0, none⟩) n d, .int .i64 (st + 1)])) := hR.of_block (hOF4.block gb glt (fun q => (hF gb q).2.2 rfl))
    have Z4 : Hid (W4.rowIs (W.heap.size + 1) 29 2 (rowF [.slice none 0 0, .int .i64 0])) := hZ.of_block (hOF4.block _ hZ.lt (fun q => by have := hF _ q; omega))
    have B4 : Hid (Below W.heap.size W W4) := hB.trans (hOF4.below hB.size (fun x hx => by have := hF x hx; omega))
    have HF4 : Hid (∀ x, F x → W.heap.size ≤ x ∧ x < W4.heap.size) := fun x hx => by have q := hF x hx; have := hOF4.size; omega
    have HFX : Hid (∀ x, F x → W.heap.size + 2 ≤ x) := fun x hx => (hF x hx).1
    have hgz : gb ≠ W.heap.size + 1 := by omega
    have g0 : wc.cell? ⟨gb, 0, none⟩ = some (.slice (some ⟨g, 0, none⟩) n d) := hR.cell (i := 0) (by decide)
    rw [Nat.zero_add] at q1
    have q1' : wc.cell? ⟨g, kk * 2 + 1, none⟩ = some (.slice (some ⟨b2, o2, none⟩) 5 cap') := q1
    have hkI : (kk : Int) < (n : Int) := by omega
    have hmI : (mm : Int) < 5 := by omega
    have hfs : Hid (Fits shClassS (.l n 2 (setC cs kk mm t))) := set_fits hf.out hkn hl5
    have hsz : Hid (szD (.l n 2 (setC cs kk mm t)) ≤ 1048576) := Nat.le_trans (world_size hfs.out hn1 (fun j hj => by rw [set_ml hl5]; exact (HOK.out j hj).2.1)) (by decide)
    have hc := impl_world (some ⟨g, 0, none⟩) n d (setC cs kk mm t) (st + 1) false W4 hfs hsz O4.out.holds
    clear q1 q2 q3 o3 only3 hO4 hO hOF4 hR hZ hB he hes c3 hE HCP hF HXS HX HRX HZX hfs hsz
    go_upto_region 5 with fail
    rw [hW4.out]
    have x0 : W4.cell? ⟨gb, 0, none⟩ = some (.slice (some ⟨g, 0, none⟩) n d) := R4.out.cell (i := 0) (by decide)
    have x1 : W4.cell? ⟨gb, 1, none⟩ = some (.int .i64 (st + 1)) := R4.out.cell (i := 1) (by decide)
    clear hW4 g0 q1' c1 c2
    go_wp2_with fail
    cases hv : worldB (setC cs kk mm t) n (st + 1)
    · have HO : Hid (okSet cs n st (kk : Int) (mm : Int) t = false) := by show _ = _; rw [HOKV.out, hv]
      rw [hv] at hc
      refine hc.mono ?_
      rintro e w5 ⟨rfl, hB5⟩
      have B5 : Hid (Below W.heap.size W w5) := B4.out.trans (hB5.mono B4.out.size)
      have Z5 : Hid (w5.rowIs (W.heap.size + 1) 29 2 (rowF [.slice none 0 0, .int .i64 0])) := Z4.out.of_block (hB5.block _ Z4.out.lt)
      clear hB5 hc
      have z0 : w5.cell? ⟨W.heap.size + 1, 0, none⟩ = some (.slice none 0 0) := Z5.out.cell (i := 0) (by decide)
      have z1 : w5.cell? ⟨W.heap.size + 1, 1, none⟩ = some (.int .i64 0) := Z5.out.cell (i := 1) (by decide)
      have y0 : w5.frozen? ⟨W.heap.size + 1, 0, none⟩ = false := Z5.out.frozen 0
      have y1 : w5.frozen? ⟨W.heap.size + 1, 1, none⟩ = false := Z5.out.frozen 1
      have lZ := Z5.out.lt
      go_wp2
      refine bodyPost_ret (v := .tuple #[.agg #[.slice none 0 0, .int .i64 0], .bool false]) (by simp only [results, Try.results17]; go_simp) rfl (set_no HO.out ?_)
      refine Below.trans B5.out ?_
      iterate 2 refine Below.setCell ?_ (by simp; try omega) _
      exact Below.refl _ _
    · have HO : Hid (okSet cs n st (kk : Int) (mm : Int) t = true) := by show _ = _; rw [HOKV.out, hv]
      rw [hv] at hc
      refine hc.mono ?_
      rintro e w5 ⟨rfl, hB5⟩
      have B5 : Hid (Below W.heap.size W w5) := B4.out.trans (hB5.mono B4.out.size)
      have Z5 : Hid (w5.rowIs (W.heap.size + 1) 29 2 (rowF [.slice none 0 0, .int .i64 0])) := Z4.out.of_block (hB5.block _ Z4.out.lt)
      have R5 : Hid (w5.rowIs gb 29 2 (rowF [.slice (some ⟨g, 0, none⟩) n d, .int .i64 (st + 1)])) := R4.out.of_block (hB5.block _ R4.out.lt)
      have O5 : Hid (Owns w5 false W.heap.size (.l n 2 (setC cs kk mm t)) (.slice (some ⟨g, 0, none⟩) n d) F) := O4.out.kept hB5
      have HF5 : Hid (∀ x, F x → W.heap.size + 2 ≤ x ∧ x < w5.heap.size) := fun x hx => by have q := HFX.out x hx; have := HF4.out x hx; have := hB5.size; omega
      clear hB5 hc
      have h0 : w5.cell? ⟨gb, 0, none⟩ = some (.slice (some ⟨g, 0, none⟩) n d) := R5.out.cell (i := 0) (by decide)
      have h1 : w5.cell? ⟨gb, 1, none⟩ = some (.int .i64 (st + 1)) := R5.out.cell (i := 1) (by decide)
      have z0 : w5.cell? ⟨W.heap.size + 1, 0, none⟩ = some (.slice none 0 0) := Z5.out.cell (i := 0) (by decide)
      have z1 : w5.cell? ⟨W.heap.size + 1, 1, none⟩ = some (.int .i64 0) := Z5.out.cell (i := 1) (by decide)
      have y0 : w5.frozen? ⟨W.heap.size + 1, 0, none⟩ = false := Z5.out.frozen 0
      have y1 : w5.frozen? ⟨W.heap.size + 1, 1, none⟩ = false := Z5.out.frozen 1
      have lZ := Z5.out.lt
      go_wp2
      refine bodyPost_ret (v := .tuple #[.agg #[.slice (some ⟨g, 0, none⟩) n d, .int .i64 (st + 1)], .bool true]) (by simp only [results, Try.results17]; go_simp) rfl (set_yes (F := F) HO.out ?_ ?_ ?_)
      · rw [Int.toNat_natCast, Int.toNat_natCast]
        refine O5.out.agree (by simp [World.setCell]) (fun x hx _ => ?_)
        have := HF5.out x hx
        exact (Below.heap_setCell _ _ _ _ (by show x ≠ W.heap.size + 1; omega)).trans (Below.heap_setCell _ _ _ _ (by show x ≠ W.heap.size + 1; omega))
      · intro x hx
        have := HF5.out x hx
        exact ⟨by omega, by simp [World.setCell]; omega⟩
      · refine Below.trans B5.out ?_
        iterate 2 refine Below.setCell ?_ (by simp; try omega) _
        exact Below.refl _ _
end Go.Proofs.Yticgipmaflhplaa.walks
