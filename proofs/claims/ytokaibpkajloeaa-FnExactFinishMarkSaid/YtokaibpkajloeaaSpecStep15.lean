/-
  What the specification's l15Step does: a begin, a scan.
-/
import Derived.Test.YtokaibpkajloeaaProg
import Derived.Test.YtokaibpkajloeaaInts
import Derived.Test.YtokaibpkajloeaaOwnInts
import Derived.Test.YtokaibpkajloeaaDeep
import Derived.Test.YtokaibpkajloeaaDeepRow
import Derived.Test.YtokaibpkajloeaaDeepM
import Derived.Test.YtokaibpkajloeaaDeepGrow
import Derived.Test.YtokaibpkajloeaaMarkMath
import Derived.Test.YtokaibpkajloeaaStepMath15
import Derived.Test.YtokaibpkajloeaaMarkRun
import Derived.Test.YtokaibpkajloeaaMarkOut
import Derived.Test.YtokaibpkajloeaaSpecM15
import Derived.WalkKit
import Derived.WalkSpells
import Derived.Below
import Derived.Handy
import Derived.OwnWalk
import Derived.Deep.OwnRows
import Derived.Deep.RegionWith
import Derived.Deep.DeepCutAuto
namespace Go.Proofs.Ytokaibpkajloeaa.walks
open Go.RowKit Go.Proofs.Ytokaibpkajloeaa.math Go.Proofs.Ytokaibpkajloeaa.ints Go.Proofs.Ytokaibpkajloeaa.deep
set_option linter.unusedVariables false
set_option linter.unusedSimpArgs false
set_option maxRecDepth 100000

def set3 (w : World) (A : Nat) (u0 u1 u2 : Value) : World := ((w.setCell ⟨A, 0, none⟩ u0).setCell ⟨A, 1, none⟩ u1).setCell ⟨A, 2, none⟩ u2
theorem set3_block (w : World) {A x : Nat} (u0 u1 u2 : Value) (h : x ≠ A) : (set3 w A u0 u1 u2).heap[x]? = w.heap[x]? := by
  unfold set3
  rw [Below.heap_setCell _ _ _ _ (by show x ≠ A; exact h), Below.heap_setCell _ _ _ _ (by show x ≠ A; exact h), Below.heap_setCell _ _ _ _ (by show x ≠ A; exact h)]
theorem set3_size (w : World) (A : Nat) (u0 u1 u2 : Value) : (set3 w A u0 u1 u2).heap.size = w.heap.size := by unfold set3; simp [World.setCell]
theorem set3_row {w : World} {A : Nat} {T : TypeId} {x y z : Value} (h : w.rowIs A T 3 (rowF [x, y, z])) (u0 u1 u2 : Value) : (set3 w A u0 u1 u2).rowIs A T 3 (rowF [u0, u1, u2]) :=
  (((h.set 0 u0).set 1 u1).set 2 u2).congr (fun i hi => by
    match i, hi with
    | 0, _ => rfl
    | 1, _ => rfl
    | 2, _ => rfl
    | i + 3, h => exact absurd h (by omega))
theorem SpecM.far3 {w : World} {B g0 g1 n A : Nat} {L C : Nat → Nat} {s : Mst} (h : SpecM w B g0 g1 n L C s) (hl : g0 < A ∧ g1 < A ∧ ∀ k, k < n → L k < A) (u0 u1 u2 : Value) : SpecM (set3 w A u0 u1 u2) B g0 g1 n L C s :=
  ⟨h.cells.of_block (set3_block w u0 u1 u2 (by omega)), fun k hk => (h.lks k hk).of_block (set3_block w u0 u1 u2 (by have := hl.2.2 k hk; omega)), h.rts.of_block (set3_block w u0 u1 u2 (by omega)), h.low, h.dif⟩
theorem SpecM.far1 {w : World} {B g0 g1 n A i : Nat} {L C : Nat → Nat} {s : Mst} (h : SpecM w B g0 g1 n L C s) (hl : g0 < A ∧ g1 < A ∧ ∀ k, k < n → L k < A) (u : Value) : SpecM (w.setCell ⟨A, i, none⟩ u) B g0 g1 n L C s :=
  ⟨h.cells.of_block (Below.heap_setCell _ _ _ _ (by show g0 ≠ A; omega)), fun k hk => (h.lks k hk).of_block (Below.heap_setCell _ _ _ _ (by show L k ≠ A; have := hl.2.2 k hk; omega)), h.rts.of_block (Below.heap_setCell _ _ _ _ (by show g1 ≠ A; omega)), h.low, h.dif⟩
theorem only_new {W w : World} {F : Nat → Prop} {A i : Nat} (q : OnlyF W w F) (h : W.heap.size ≤ A) (u : Value) : OnlyF W (w.setCell ⟨A, i, none⟩ u) F :=
  ⟨q.os, q.tape, q.output, by simpa [World.setCell] using q.size, fun x hx hne => (Below.heap_setCell _ _ _ _ (by show x ≠ A; omega)).trans (q.block x hx hne)⟩
theorem only_new3 {W w : World} {F : Nat → Prop} {A : Nat} (q : OnlyF W w F) (h : W.heap.size ≤ A) (u0 u1 u2 : Value) : OnlyF W (set3 w A u0 u1 u2) F := only_new (only_new (only_new q h u0) h u1) h u2
theorem spec_kind_begin (W : World) : Calls Try.prog 65 #[.agg #[.int .i64 1, .int .i64 0, .int .i64 0, .int .i64 0]] W fun e W' => e = .returned (.bool true) ∧ Below W.heap.size W W' := by
  have HB : Hid (Below W.heap.size W (W.alloc (.cells #[.int .i64 1, .int .i64 0, .int .i64 0, .int .i64 0] 41))) := (Below.refl _ _).alloc (Nat.le_refl _) _
  go_enter Try.func65, Try.ntmps65
  go_wp2
  go_ret
  exact ⟨rfl, HB.out⟩
def SStepTo (B g0 d0 g1 d1 n : Nat) (L C : Nat → Nat) (s : Mst) (b : Bool) (W : World) (e : Ending) (W' : World) : Prop := e = .returned (.tuple #[.agg #[.slice (some ⟨g0, 0, none⟩) n d0, .slice (some ⟨g1, 0, none⟩) 2 d1, .bool true], .bool b]) ∧ SpecM W' B g0 g1 n L C s ∧ OnlyF W W' (fun x => x = g0)
set_option maxHeartbeats 8000000 in
theorem spec_begin15 (B g0 d0 g1 d1 n : Nat) (L C : Nat → Nat) (s : Mst) (W : World) (hn : n ≤ 10) (h : Hid (SpecM W B g0 g1 n L C s)) (hr : Hid (∀ j, j < 2 → s.rt j = -1 ∨ ∃ k : Nat, s.rt j = (k : Int) ∧ k < n)) :
    Calls Try.prog 43 #[.agg #[.slice (some ⟨g0, 0, none⟩) n d0, .slice (some ⟨g1, 0, none⟩) 2 d1, .bool false], .agg #[.int .i64 1, .int .i64 0, .int .i64 0, .int .i64 0]] W fun e W' => SStepTo B g0 d0 g1 d1 n L C (beginS s) true W e W' := by
  obtain ⟨V, hV⟩ : ∃ V, Hid (W.alloc (.cells #[.slice (some ⟨g0, 0, none⟩) n d0, .slice (some ⟨g1, 0, none⟩) 2 d1, .bool false] 25) = V) := ⟨_, rfl⟩
  have hVs : V.heap.size = W.heap.size + 1 := by rw [← hV.out]; simp
  have hVB : Below W.heap.size W V := by rw [← hV.out]; exact (Below.refl _ _).alloc (Nat.le_refl _) _
  have hVR : V.rowIs W.heap.size 25 3 (rowF [.slice (some ⟨g0, 0, none⟩) n d0, .slice (some ⟨g1, 0, none⟩) 2 d1, .bool false]) := by rw [← hV.out]; exact row_of W #[.slice (some ⟨g0, 0, none⟩) n d0, .slice (some ⟨g1, 0, none⟩) 2 d1, .bool false] 25
  obtain ⟨U, hU⟩ : ∃ U, Hid (V.alloc (.cells #[.int .i64 1, .int .i64 0, .int .i64 0, .int .i64 0] 41) = U) := ⟨_, rfl⟩
  have hUs : U.heap.size = W.heap.size + 2 := by rw [← hU.out]; simp [hVs]
  have hUB : Below V.heap.size V U := by rw [← hU.out]; exact (Below.refl _ _).alloc (Nat.le_refl _) _
  have hUR : U.rowIs (W.heap.size + 1) 41 4 (rowF [.int .i64 1, .int .i64 0, .int .i64 0, .int .i64 0]) := by rw [← hU.out, ← hVs]; exact row_of V #[.int .i64 1, .int .i64 0, .int .i64 0, .int .i64 0] 41
  obtain ⟨X, hX⟩ : ∃ X, Hid (U.alloc (.cells #[.slice none 0 0, .slice none 0 0, .bool false] 25) = X) := ⟨_, rfl⟩
  have hXB : Below U.heap.size U X := by rw [← hX.out]; exact (Below.refl _ _).alloc (Nat.le_refl _) _
  have hXR : X.rowIs (W.heap.size + 2) 25 3 (rowF [.slice none 0 0, .slice none 0 0, .bool false]) := by rw [← hX.out, ← hUs]; exact row_of U #[.slice none 0 0, .slice none 0 0, .bool false] 25
  have HXX : Hid (((W.alloc (.cells #[.slice (some ⟨g0, 0, none⟩) n d0, .slice (some ⟨g1, 0, none⟩) 2 d1, .bool false] 25)).alloc (.cells #[.int .i64 1, .int .i64 0, .int .i64 0, .int .i64 0] 41)).alloc (.cells #[.slice none 0 0, .slice none 0 0, .bool false] 25) = X) := by show _ = _; rw [hV.out, hU.out, hX.out]
  have HX : Hid (Below W.heap.size W X) := hVB.trans ((hUB.trans (hXB.mono hUB.size)).mono hVB.size)
  have RM : Hid (X.rowIs W.heap.size 25 3 (rowF [.slice (some ⟨g0, 0, none⟩) n d0, .slice (some ⟨g1, 0, none⟩) 2 d1, .bool false])) := hVR.of_block ((hUB.trans (hXB.mono hUB.size)).block _ hVR.lt)
  have RS : Hid (X.rowIs (W.heap.size + 1) 41 4 (rowF [.int .i64 1, .int .i64 0, .int .i64 0, .int .i64 0])) := hUR.of_block (hXB.block _ hUR.lt)
  have RZ : Hid (X.rowIs (W.heap.size + 2) 25 3 (rowF [.slice none 0 0, .slice none 0 0, .bool false])) := hXR
  clear hVs hVB hVR hUs hUB hUR hXB hXR hV hU hX V U
  have HGL : Hid (g0 < W.heap.size ∧ g1 < W.heap.size ∧ ∀ k, k < n → L k < W.heap.size) := ⟨h.out.cells.1, h.out.rts.1, fun k hk => (h.out.lks k hk).1⟩
  have s0 : X.cell? ⟨W.heap.size + 1, 0, none⟩ = some (.int .i64 1) := RS.out.cell (i := 0) (by decide)
  have s1 : X.cell? ⟨W.heap.size + 1, 1, none⟩ = some (.int .i64 0) := RS.out.cell (i := 1) (by decide)
  have s2 : X.cell? ⟨W.heap.size + 1, 2, none⟩ = some (.int .i64 0) := RS.out.cell (i := 2) (by decide)
  have s3 : X.cell? ⟨W.heap.size + 1, 3, none⟩ = some (.int .i64 0) := RS.out.cell (i := 3) (by decide)
  have sl := RS.out.lt
  have hkd := spec_kind_begin X
  obtain ⟨t, Ht⟩ : ∃ t, Hid (shadeS (s.setMk true) (s.rt 0) = t) := ⟨_, rfl⟩
  have HTE : Hid (beginS s = shadeS t (s.rt 1)) := by show _ = _; unfold beginS; rw [Ht.out]
  rw [HTE.out]
  clear HTE
  go_enter Try.func43, Try.ntmps43
  go_upto_region 1 with fail
  rw [HXX.out]
  clear HXX
  go_upto_region 3 with (go_at_call 65; refine hkd.mono ?_; rintro e w1 ⟨rfl, hB1⟩; have HB1 : Hid (Below X.heap.size X w1) := hB1; have t0 : w1.cell? ⟨W.heap.size + 1, 0, none⟩ = some (.int .i64 1) := (hB1.cell (p := ⟨W.heap.size + 1, 0, none⟩) sl).trans s0; have tl := Nat.lt_of_lt_of_le sl hB1.size; clear hB1 s0 s1 s2 s3 sl hkd)
  have RM1 : Hid (w1.rowIs W.heap.size 25 3 (rowF [.slice (some ⟨g0, 0, none⟩) n d0, .slice (some ⟨g1, 0, none⟩) 2 d1, .bool false])) := RM.out.of_block (HB1.out.block _ RM.out.lt)
  have RZ1 : Hid (w1.rowIs (W.heap.size + 2) 25 3 (rowF [.slice none 0 0, .slice none 0 0, .bool false])) := RZ.out.of_block (HB1.out.block _ RZ.out.lt)
  have HB2 : Hid (Below W.heap.size W w1) := HX.out.trans (HB1.out.mono HX.out.size)
  have m2 : w1.cell? ⟨W.heap.size, 2, none⟩ = some (.bool false) := RM1.out.cell (i := 2) (by decide)
  have mf := RM1.out.frozen 2
  have ml := RM1.out.lt
  clear HB1 RM RS RZ HX
  go_upto_region 12 with fail
  obtain ⟨w2, hw2⟩ : ∃ w2, Hid (w1.setCell ⟨W.heap.size, 2, none⟩ (.bool true) = w2) := ⟨_, rfl⟩
  rw [hw2.out]
  have HS2 : Hid (SpecM w2 B g0 g1 n L C (s.setMk true)) := by show SpecM _ _ _ _ _ _ _ _; rw [← hw2.out]; exact ((h.out.kept HB2.out).mk_ true).far1 HGL.out _
  have R2 : Hid (w2.rowIs W.heap.size 25 3 (rowF [.slice (some ⟨g0, 0, none⟩) n d0, .slice (some ⟨g1, 0, none⟩) 2 d1, .bool true])) := by
    show World.rowIs _ _ _ _ _
    rw [← hw2.out]
    exact (RM1.out.set 2 _).congr (fun i hi => by
      match i, hi with
      | 0, _ => rfl
      | 1, _ => rfl
      | 2, _ => rfl
      | i + 3, h => exact absurd h (by omega))
  have Z2 : Hid (w2.rowIs (W.heap.size + 1 + 1) 25 3 (rowF [.slice none 0 0, .slice none 0 0, .bool false])) := by
    show World.rowIs _ _ _ _ _
    rw [← hw2.out]
    exact RZ1.out.of_block (Below.heap_setCell _ _ _ _ (by show W.heap.size + 2 ≠ W.heap.size; omega))
  have HO2 : Hid (OnlyF W w2 (fun x => x = g0)) := by show OnlyF _ _ _; rw [← hw2.out]; exact only_new (OnlyF.of_below HB2.out) (Nat.le_refl _) _
  clear hw2 RM1 RZ1 HB2 m2 mf ml
  have m0 : w2.cell? ⟨W.heap.size, 0, none⟩ = some (.slice (some ⟨g0, 0, none⟩) n d0) := R2.out.cell (i := 0) (by decide)
  have m1 : w2.cell? ⟨W.heap.size, 1, none⟩ = some (.slice (some ⟨g1, 0, none⟩) 2 d1) := R2.out.cell (i := 1) (by decide)
  have m2 : w2.cell? ⟨W.heap.size, 2, none⟩ = some (.bool true) := R2.out.cell (i := 2) (by decide)
  have ml := R2.out.lt
  have q0 : w2.cell? ⟨g1, 0, none⟩ = some (.int .i64 (s.rt 0)) := (HS2.out.rts.2 0 (by decide)).1
  have ql := HS2.out.rts.1
  have sh1 : Calls Try.prog 68 #[.agg #[.slice (some ⟨g0, 0, none⟩) n d0, .slice (some ⟨g1, 0, none⟩) 2 d1, .bool true], .int .i64 (s.rt 0)] w2.drew (fun e W' => SShadeTo B g0 d0 g1 d1 n L C (shadeS (s.setMk true) (s.rt 0)) true w2.drew e W') := spec_shade B g0 d0 g1 d1 n L C (s.setMk true) (s.rt 0) w2.drew hn (HS2.out.kept (Below.refl _ _).drew) (hr.out 0 (by decide))
  go_region_with (first
    | (go_at_call 68; refine sh1.mono ?_; rintro e w3 ⟨rfl, hS3, hO3⟩; have HS3 : Hid (SpecM w3 B g0 g1 n L C (shadeS (s.setMk true) (s.rt 0))) := hS3; have HO3 : Hid (OnlyF w2 w3 (fun x => x = g0)) := (OnlyF.of_below (Below.refl _ _).drew).trans hO3; have R3 : Hid (w3.rowIs W.heap.size 25 3 (rowF [.slice (some ⟨g0, 0, none⟩) n d0, .slice (some ⟨g1, 0, none⟩) 2 d1, .bool true])) := R2.out.of_block (HO3.out.block _ R2.out.lt (by have := HGL.out; omega)); have t0 : w3.cell? ⟨W.heap.size, 0, none⟩ = some (.slice (some ⟨g0, 0, none⟩) n d0) := R3.out.cell (i := 0) (by decide); have t1 : w3.cell? ⟨W.heap.size, 1, none⟩ = some (.slice (some ⟨g1, 0, none⟩) 2 d1) := R3.out.cell (i := 1) (by decide); have t2 : w3.cell? ⟨W.heap.size, 2, none⟩ = some (.bool true) := R3.out.cell (i := 2) (by decide); have tf0 := R3.out.frozen 0; have tf1 := R3.out.frozen 1; have tf2 := R3.out.frozen 2; have tl := R3.out.lt; clear hS3 hO3))
  all_goals
    clear m0 m1 m2 ml q0 ql sh1
    obtain ⟨w4, hw4⟩ : ∃ w4, Hid (((w3.setCell ⟨W.heap.size, 0, none⟩ (.slice (some ⟨g0, 0, none⟩) n d0)).setCell ⟨W.heap.size, 1, none⟩ (.slice (some ⟨g1, 0, none⟩) 2 d1)).setCell ⟨W.heap.size, 2, none⟩ (.bool true) = w4) := ⟨_, rfl⟩
    rw [hw4.out]
    obtain ⟨_, hrt, _, hon⟩ := shade_lk (s.setMk true) (s.rt 0)
    rw [Ht.out] at HS3 hrt hon
    have hrt1 : t.rt 1 = s.rt 1 := by rw [hrt]; rfl
    have hon1 : t.on = true := hon
    have w4e : set3 w3 W.heap.size (.slice (some ⟨g0, 0, none⟩) n d0) (.slice (some ⟨g1, 0, none⟩) 2 d1) (.bool true) = w4 := hw4.out
    have HS4 : Hid (SpecM w4 B g0 g1 n L C t) := by show SpecM _ _ _ _ _ _ _ _; rw [← w4e]; exact HS3.out.far3 HGL.out _ _ _
    have R4 : Hid (w4.rowIs W.heap.size 25 3 (rowF [.slice (some ⟨g0, 0, none⟩) n d0, .slice (some ⟨g1, 0, none⟩) 2 d1, .bool true])) := by show World.rowIs _ _ _ _ _; rw [← w4e]; exact set3_row R3.out _ _ _
    have Z4 : Hid (w4.rowIs (W.heap.size + 1 + 1) 25 3 (rowF [.slice none 0 0, .slice none 0 0, .bool false])) := by
      show World.rowIs _ _ _ _ _
      rw [← w4e]
      exact (Z2.out.of_block (HO3.out.block _ Z2.out.lt (by have := HGL.out; omega))).of_block (set3_block _ _ _ _ (by omega))
    have HO4 : Hid (OnlyF W w4 (fun x => x = g0)) := by show OnlyF _ _ _; rw [← w4e]; exact only_new3 (HO2.out.trans HO3.out) (Nat.le_refl _) _ _ _
    clear hw4 w4e HS3 HO3 R3 t0 t1 t2 tf0 tf1 tf2 tl HS2 R2 Z2 HO2 hrt hon Ht
    have m0 : w4.cell? ⟨W.heap.size, 0, none⟩ = some (.slice (some ⟨g0, 0, none⟩) n d0) := R4.out.cell (i := 0) (by decide)
    have m1 : w4.cell? ⟨W.heap.size, 1, none⟩ = some (.slice (some ⟨g1, 0, none⟩) 2 d1) := R4.out.cell (i := 1) (by decide)
    have m2 : w4.cell? ⟨W.heap.size, 2, none⟩ = some (.bool true) := R4.out.cell (i := 2) (by decide)
    have ml := R4.out.lt
    have q0 : w4.cell? ⟨g1, 1, none⟩ = some (.int .i64 (s.rt 1)) := by rw [← hrt1]; exact (HS4.out.rts.2 1 (by decide)).1
    have ql := HS4.out.rts.1
    have sh2 := spec_shade B g0 d0 g1 d1 n L C t (s.rt 1) w4.drew hn (HS4.out.kept (Below.refl _ _).drew) (hr.out 1 (by decide))
    rw [hon1] at sh2
    go_upto_region 13 with fail
    go_region_with (first
      | (go_at_call 68; refine sh2.mono ?_; rintro e w5 ⟨rfl, hS5, hO5⟩; have HS5 : Hid (SpecM w5 B g0 g1 n L C (shadeS t (s.rt 1))) := hS5; have HO5 : Hid (OnlyF w4 w5 (fun x => x = g0)) := (OnlyF.of_below (Below.refl _ _).drew).trans hO5; have Z5 : Hid (w5.rowIs (W.heap.size + 1 + 1) 25 3 (rowF [.slice none 0 0, .slice none 0 0, .bool false])) := Z4.out.of_block (HO5.out.block _ Z4.out.lt (by have := HGL.out; omega)); have t0 : w5.cell? ⟨W.heap.size + 1 + 1, 0, none⟩ = some (.slice none 0 0) := Z5.out.cell (i := 0) (by decide); have t1 : w5.cell? ⟨W.heap.size + 1 + 1, 1, none⟩ = some (.slice none 0 0) := Z5.out.cell (i := 1) (by decide); have t2 : w5.cell? ⟨W.heap.size + 1 + 1, 2, none⟩ = some (.bool false) := Z5.out.cell (i := 2) (by decide); have tf0 := Z5.out.frozen 0; have tf1 := Z5.out.frozen 1; have tf2 := Z5.out.frozen 2; have tl := Z5.out.lt; clear hS5 hO5))
    all_goals
      have HA : Hid (∀ u0 u1 u2, SStepTo B g0 d0 g1 d1 n L C (shadeS t (s.rt 1)) true W (.returned (.tuple #[.agg #[.slice (some ⟨g0, 0, none⟩) n d0, .slice (some ⟨g1, 0, none⟩) 2 d1, .bool true], .bool true])) (((w5.setCell ⟨W.heap.size + 1 + 1, 0, none⟩ u0).setCell ⟨W.heap.size + 1 + 1, 1, none⟩ u1).setCell ⟨W.heap.size + 1 + 1, 2, none⟩ u2)) := fun u0 u1 u2 => ⟨rfl, HS5.out.far3 ⟨by have := HGL.out; omega, by have := HGL.out; omega, fun k hk => by have := HGL.out.2.2 k hk; omega⟩ _ _ _, only_new3 (HO4.out.trans HO5.out) (by omega) _ _ _⟩
      clear m0 m1 m2 ml q0 ql sh2 HS5 HO5 Z5 HS4 R4 Z4 HO4 hrt1 hon1
      go_wp2
      exact bodyPost_ret (v := .tuple #[.agg #[.slice (some ⟨g0, 0, none⟩) n d0, .slice (some ⟨g1, 0, none⟩) 2 d1, .bool true], .bool true]) (by simp only [results, Try.results43]; go_simp) rfl (HA.out _ _ _)
end Go.Proofs.Ytokaibpkajloeaa.walks
