/-
  What NewHeap answers, on both sides.
-/
import Derived.Test.YtolappfgeknmpaaProg
import Derived.Test.YtolappfgeknmpaaInts
import Derived.Test.YtolappfgeknmpaaDeep
import Derived.Test.YtolappfgeknmpaaDeepRow
import Derived.Test.YtolappfgeknmpaaDeepH
import Derived.Test.YtolappfgeknmpaaOwnInts
import Derived.Test.YtolappfgeknmpaaOwnMath
import Derived.Test.YtolappfgeknmpaaRepeatInts
import Derived.WalkKit
import Derived.WalkSpells
import Derived.Below
import Derived.Handy
import Derived.Deep.OwnRows
import Derived.Deep.DeepCutAuto
import Derived.OwnWalk
namespace Go.Proofs.Ytolappfgeknmpaa.walks
open Go.RowKit Go.Proofs.Ytolappfgeknmpaa.ints Go.Proofs.Ytolappfgeknmpaa.deep
set_option linter.unusedVariables false
set_option maxRecDepth 100000

/-- The first heap's one object, its links; its roots. -/
def newO : Nat → Dv := fun i => match i with
  | 0 => .n 0
  | 1 => .t true
  | _ => .l 2 1 (fun _ => .n (-1))
def newR : Nat → Dv := fun i => .n (if i = 0 then 0 else -1)
/-- A row of numbers in a block of its own is a list. -/
theorem row_owns {w : World} {B g n cap : Nat} {T : TypeId} {f : Nat → Value} {es : Nat → Dv} {F : Nat → Prop} (h : w.rowIs g T n f) (hB : B ≤ g) (hF : F g) (he : ∀ i, i < n → ∃ x, es i = .n x ∧ f i = .int .i64 x) : Owns w false B (.l n 1 es) (.slice (some ⟨g, 0, none⟩) n cap) F := by
  refine ⟨_, _, rfl, (fun q => by cases q), Or.inr ⟨g, 0, rfl, hB, h.lt, hF, fun _ _ => False, fun i hi => ⟨⟨f i, ?_, ?_, ?_⟩, fun q => q, fun x q => q.elim⟩, fun i j _ _ _ x q => q.elim⟩⟩
  · have := h.cell (i := i) (by omega); simpa using this
  · have := h.frozen i; simpa using this
  · obtain ⟨x, e1, e2⟩ := he i (by omega)
    rw [e1, e2]; rfl
theorem cell_set (w : World) (o : Option Value) (g i : Nat) (u : Value) (h : w.cell? ⟨g, i, none⟩ = o) (hs : o = some (.int .i64 (-1))) : (w.setCell ⟨g, i, none⟩ u).cell? ⟨g, i, none⟩ = some u := by
  subst hs
  have hl : (w.cell? ⟨g, i, none⟩).isSome := by rw [h]; rfl
  exact World.cell?_setCell_same' w _ u hl
theorem cells_owns {w : World} {B g n cap : Nat} {x : Nat → Int} {es : Nat → Dv} {F : Nat → Prop} (hl : g < w.heap.size) (hB : B ≤ g) (hF : F g) (h : ∀ i, i < n → w.cell? ⟨g, i, none⟩ = some (.int .i64 (x i)) ∧ w.frozen? ⟨g, i, none⟩ = false) (he : ∀ i, i < n → es i = .n (x i)) : Owns w false B (.l n 1 es) (.slice (some ⟨g, 0, none⟩) n cap) F := by
  refine ⟨_, _, rfl, (fun q => by cases q), Or.inr ⟨g, 0, rfl, hB, hl, hF, fun _ _ => False, fun i hi => ⟨⟨.int .i64 (x i), ?_, ?_, ?_⟩, fun q => q, fun x q => q.elim⟩, fun i j _ _ _ x q => q.elim⟩⟩
  · have := (h i (by omega)).1; simpa using this
  · have := (h i (by omega)).2; simpa using this
  · rw [he i (by omega)]; rfl
theorem newO_owns {w : World} {B g h cap c2 : Nat} {T T2 : TypeId} (ho : w.rowIs g T 3 (rowF [.int .i64 0, .bool true, .slice (some ⟨h, 0, none⟩) 2 c2])) (hl : w.rowIs h T2 2 (fun _ => .int .i64 (-1))) (hB : B ≤ g) (hB2 : B ≤ h) (hne : g ≠ h) : Owns w false B (.l 1 3 newO) (.slice (some ⟨g, 0, none⟩) 1 cap) (fun x => x = g ∨ x = h) := by
  refine Rowed.owns (F := fun x => x = h) (U := rowF [.int .i64 0, .bool true, .slice (some ⟨h, 0, none⟩) 2 c2]) ?_ ho hB (fun q => hne q) (fun x q => Or.inr q) (Or.inl rfl) (fun q => by cases q)
  refine Rowed.snoc (m := 2) (F := fun _ => False) (H := fun x => x = h) (Rowed.flat (m := 1) (Rowed.flat (m := 0) (Rowed.nil _ _ _ _ _ _) ?_) ?_) ?_ (fun x q => q.elim) (fun x q => q.elim) (fun x q => q)
  · exact (rfl : Value.int .i64 0 = .int .i64 0)
  · exact (rfl : Value.bool true = .bool true)
  · exact row_owns hl hB2 rfl (fun i hi => ⟨-1, rfl, rfl⟩)
def NewAns (W : World) (e : Ending) (W' : World) : Prop := ∃ (g0 : Option Addr) (d0 : Nat) (g1 : Option Addr) (d1 : Nat) (F0 F1 : Nat → Prop), e = .returned (.agg #[.slice g0 1 d0, .slice g1 6 d1, .slice none 0 0, .int .i64 1]) ∧ Owns W' false W.heap.size (.l 1 3 newO) (.slice g0 1 d0) F0 ∧ (∀ x, F0 x → W.heap.size ≤ x ∧ x < W'.heap.size) ∧ Owns W' false W.heap.size (.l 6 1 newR) (.slice g1 6 d1) F1 ∧ (∀ x, F1 x → W.heap.size ≤ x ∧ x < W'.heap.size) ∧ (∀ x, F0 x → ¬ F1 x) ∧ Below W.heap.size W W'
theorem new_ans2 {W w : World} {g h r c0 c1 c2 : Nat} {T T2 : TypeId} {a1 : Option Addr} (ho : w.rowIs g T 3 (rowF [.int .i64 0, .bool true, .slice (some ⟨h, 0, none⟩) 2 c2])) (hl : w.rowIs h T2 2 (fun _ => .int .i64 (-1))) (hr : Owns w false W.heap.size (.l 6 1 newR) (.slice a1 6 c1) (fun x => x = r)) (hrl : r < w.heap.size) (hB : W.heap.size ≤ g) (hB2 : W.heap.size ≤ h) (hB3 : W.heap.size ≤ r) (n1 : g ≠ h) (n2 : g ≠ r) (n3 : h ≠ r) (hb : Below W.heap.size W w) :
    NewAns W (.returned (.agg #[.slice (some ⟨g, 0, none⟩) 1 c0, .slice a1 6 c1, .slice none 0 0, .int .i64 1])) w := by
  refine ⟨_, _, _, _, (fun x => x = g ∨ x = h), (fun x => x = r), rfl, newO_owns ho hl hB hB2 n1, fun x q => ?_, hr, fun x q => ?_, fun x q q2 => ?_, hb⟩
  · rcases q with rfl | rfl
    · exact ⟨hB, ho.lt⟩
    · exact ⟨hB2, hl.lt⟩
  · subst q; exact ⟨hB3, hrl⟩
  · rcases q with rfl | rfl
    · exact n2 q2
    · exact n3 q2
theorem new_ans {W w : World} {g h r c0 c1 c2 : Nat} {T T2 T3 : TypeId} (ho : w.rowIs g T 3 (rowF [.int .i64 0, .bool true, .slice (some ⟨h, 0, none⟩) 2 c2])) (hl : w.rowIs h T2 2 (fun _ => .int .i64 (-1))) (hr : w.rowIs r T3 6 (fun i => .int .i64 (if i = 0 then 0 else -1))) (hB : W.heap.size ≤ g) (hB2 : W.heap.size ≤ h) (hB3 : W.heap.size ≤ r) (n1 : g ≠ h) (n2 : g ≠ r) (n3 : h ≠ r) (hb : Below W.heap.size W w) :
    NewAns W (.returned (.agg #[.slice (some ⟨g, 0, none⟩) 1 c0, .slice (some ⟨r, 0, none⟩) 6 c1, .slice none 0 0, .int .i64 1])) w :=
  new_ans2 ho hl (row_owns hr hB3 rfl (fun i hi => ⟨_, rfl, rfl⟩)) hr.lt hB hB2 hB3 n1 n2 n3 hb
set_option maxHeartbeats 8000000 in
theorem impl_newheap (W : World) : Calls Try.prog 5 #[] W fun e W' => NewAns W e W' := by
  obtain ⟨X1, hX1⟩ : ∃ X, Hid ((W.alloc (.cells #[.slice none 0 0, .slice none 0 0, .slice none 0 0, .int .i64 0] 25)).alloc (.cells #[.int .i64 (-1)] 3) = X) := ⟨_, rfl⟩
  have B1 : Hid (Below W.heap.size W X1) := by show Below _ _ _; rw [← hX1.out]; go_grown
  have Z1 : Hid (X1.rowIs W.heap.size 25 4 (rowF [.slice none 0 0, .slice none 0 0, .slice none 0 0, .int .i64 0])) := by show World.rowIs _ _ _ _ _; rw [← hX1.out]; exact (row_of W #[.slice none 0 0, .slice none 0 0, .slice none 0 0, .int .i64 0] 25).alloc _
  have C1 : Hid (X1.cell? ⟨W.heap.size + 1, 0, none⟩ = some (.int .i64 (-1))) := by show _ = _; rw [← hX1.out]; go_simp
  have S1 : Hid (X1.heap.size = W.heap.size + 2) := by show _ = _; rw [← hX1.out]; simp
  go_enter Try.func5, Try.ntmps5
  go_wp2_with fail
  rw [hX1.out]
  clear hX1
  refine (impl_repeat (W.heap.size + 1) 1 (-1) 6 (by decide) (by decide) X1 (by decide) C1 (by rw [S1.out]; omega)).mono ?_
  rintro e w2 ⟨rfl, hR, hB⟩
  have B2 : Hid (Below W.heap.size W w2) := B1.out.trans (hB.mono B1.out.size)
  have R2 : Hid (w2.rowIs X1.heap.size 3 6 (fun _ => .int .i64 (-1))) := hR
  have Z2 : Hid (w2.rowIs W.heap.size 25 4 (rowF [.slice none 0 0, .slice none 0 0, .slice none 0 0, .int .i64 0])) := Z1.out.of_block (hB.block _ Z1.out.lt)
  have HG : Hid (W.heap.size < X1.heap.size) := by show _ < _; rw [S1.out]; omega
  clear hR hB Z1 C1
  generalize X1.heap.size = gr at R2 HG S1 ⊢
  have r0 : w2.cell? ⟨gr, 0, none⟩ = some (.int .i64 (-1)) := R2.out.cell (i := 0) (by decide)
  have f0 := R2.out.frozen 0
  have rl := R2.out.lt
  go_upto_region 3 with fail
  obtain ⟨w3, hw3⟩ : ∃ w3, Hid (w3 = w2.setCell ⟨gr, 0, none⟩ (.int .i64 0)) := ⟨_, rfl⟩
  have R3 : Hid (w3.rowIs gr 3 6 (fun i => .int .i64 (if i = 0 then 0 else -1))) := by
    show World.rowIs _ _ _ _ _
    rw [hw3.out]
    refine (R2.out.set 0 _).congr (fun i hi => ?_)
    by_cases e : i = 0 <;> simp [e]
  have Z3 : Hid (w3.rowIs W.heap.size 25 4 (rowF [.slice none 0 0, .slice none 0 0, .slice none 0 0, .int .i64 0])) := by
    show World.rowIs _ _ _ _ _
    rw [hw3.out]
    exact Z2.out.of_block (Below.heap_setCell _ _ _ _ (by show W.heap.size ≠ gr; have := HG.out; omega))
  have B3 : Hid (Below W.heap.size W w3) := by show Below _ _ _; rw [hw3.out]; exact B2.out.setCell (by have := HG.out; simp; omega) _
  rw [← hw3.out]
  clear r0 f0 rl R2 Z2 B2 hw3
  obtain ⟨X4, hX4⟩ : ∃ X, Hid (w3.alloc (.cells #[.int .i64 (-1)] 3) = X) := ⟨_, rfl⟩
  have B34 : Hid (Below w3.heap.size w3 X4) := by show Below _ _ _; rw [← hX4.out]; exact (Below.refl _ _).alloc (Nat.le_refl _) _
  have C4 : Hid (X4.cell? ⟨w3.heap.size, 0, none⟩ = some (.int .i64 (-1))) := by show _ = _; rw [← hX4.out]; go_simp
  have S4 : Hid (X4.heap.size = w3.heap.size + 1) := by show _ = _; rw [← hX4.out]; simp
  go_wp2_with fail
  rw [hX4.out]
  clear hX4
  refine (impl_repeat w3.heap.size 1 (-1) 2 (by decide) (by decide) X4 (by decide) C4 (by rw [S4.out]; omega)).mono ?_
  rintro e w5 ⟨rfl, hR, hB⟩
  have B35 : Hid (Below w3.heap.size w3 w5) := B34.out.trans (hB.mono B34.out.size)
  have L5 : Hid (w5.rowIs X4.heap.size 3 2 (fun _ => .int .i64 (-1))) := hR
  have R5 : Hid (w5.rowIs gr 3 6 (fun i => .int .i64 (if i = 0 then 0 else -1))) := R3.out.of_block (B35.out.block _ R3.out.lt)
  have Z5 : Hid (w5.rowIs W.heap.size 25 4 (rowF [.slice none 0 0, .slice none 0 0, .slice none 0 0, .int .i64 0])) := Z3.out.of_block (B35.out.block _ Z3.out.lt)
  have B5 : Hid (Below W.heap.size W w5) := B3.out.trans (B35.out.mono B3.out.size)
  have HG2 : Hid (gr < X4.heap.size) := by show _ < _; rw [S4.out]; have := R3.out.lt; omega
  clear hR hB B34 B35 C4 S4 R3 Z3 B3 B1
  generalize X4.heap.size = gl at L5 HG2 ⊢
  go_upto_region 4 with fail
  obtain ⟨w6, hw6⟩ : ∃ X, Hid (w5.alloc (.cells #[.int .i64 0, .bool true, .slice (some ⟨gl, 0, none⟩) 2 2] 31) = X) := ⟨_, rfl⟩
  have BB : Hid (Below w5.heap.size w5 w6) := by show Below _ _ _; rw [← hw6.out]; exact (Below.refl _ _).alloc (Nat.le_refl _) _
  have O6 : Hid (w6.rowIs w5.heap.size 31 3 (rowF [.int .i64 0, .bool true, .slice (some ⟨gl, 0, none⟩) 2 2])) := by show World.rowIs _ _ _ _ _; rw [← hw6.out]; exact row_of w5 #[.int .i64 0, .bool true, .slice (some ⟨gl, 0, none⟩) 2 2] 31
  have L6 : Hid (w6.rowIs gl 3 2 (fun _ => .int .i64 (-1))) := L5.out.of_block (BB.out.block _ L5.out.lt)
  have R6 : Hid (w6.rowIs gr 3 6 (fun i => .int .i64 (if i = 0 then 0 else -1))) := R5.out.of_block (BB.out.block _ R5.out.lt)
  have Z6 : Hid (w6.rowIs W.heap.size 25 4 (rowF [.slice none 0 0, .slice none 0 0, .slice none 0 0, .int .i64 0])) := Z5.out.of_block (BB.out.block _ Z5.out.lt)
  have B6 : Hid (Below W.heap.size W w6) := B5.out.trans (BB.out.mono B5.out.size)
  rw [hw6.out]
  have HLL : Hid (gl < w5.heap.size) := L5.out.lt
  clear hw6 L5 R5 Z5 B5 BB
  have o0 : w6.cell? ⟨w5.heap.size, 0, none⟩ = some (.int .i64 0) := O6.out.cell (i := 0) (by decide)
  have o1 : w6.cell? ⟨w5.heap.size, 1, none⟩ = some (.bool true) := O6.out.cell (i := 1) (by decide)
  have o2 : w6.cell? ⟨w5.heap.size, 2, none⟩ = some (.slice (some ⟨gl, 0, none⟩) 2 2) := O6.out.cell (i := 2) (by decide)
  have ol := O6.out.lt
  generalize w5.heap.size = go at O6 HLL o0 o1 o2 ol ⊢
  have z0 : w6.cell? ⟨W.heap.size, 0, none⟩ = some (.slice none 0 0) := Z6.out.cell (i := 0) (by decide)
  have z1 : w6.cell? ⟨W.heap.size, 1, none⟩ = some (.slice none 0 0) := Z6.out.cell (i := 1) (by decide)
  have z2 : w6.cell? ⟨W.heap.size, 2, none⟩ = some (.slice none 0 0) := Z6.out.cell (i := 2) (by decide)
  have z3 : w6.cell? ⟨W.heap.size, 3, none⟩ = some (.int .i64 0) := Z6.out.cell (i := 3) (by decide)
  have fz0 := Z6.out.frozen 0
  have fz1 := Z6.out.frozen 1
  have fz2 := Z6.out.frozen 2
  have fz3 := Z6.out.frozen 3
  have zl := Z6.out.lt
  have HN : Hid (W.heap.size < gr ∧ gr < gl ∧ gl < w6.heap.size) := ⟨HG.out, HG2.out, L6.out.lt⟩
  go_wp2
  refine bodyPost_ret (v := .agg #[.slice (some ⟨w6.heap.size, 0, none⟩) 1 1, .slice (some ⟨gr, 0, none⟩) 6 6, .slice none 0 0, .int .i64 1]) (by simp only [results, Try.results5]; go_simp) rfl ?_
  obtain ⟨w7, hw7⟩ : ∃ X, Hid (X = (((w6.setCell ⟨W.heap.size, 0, none⟩ (.slice (some ⟨w6.heap.size, 0, none⟩) 1 1)).setCell ⟨W.heap.size, 1, none⟩ (.slice (some ⟨gr, 0, none⟩) 6 6)).setCell ⟨W.heap.size, 2, none⟩ (.slice none 0 0)).setCell ⟨W.heap.size, 3, none⟩ (.int .i64 1)) := ⟨_, rfl⟩
  obtain ⟨q1, q2, q3⟩ := HN.out
  have E7 : w7.heap.size = w6.heap.size := by rw [hw7.out]; simp [World.setCell]
  have L7 : w7.rowIs gl 3 2 (fun _ => .int .i64 (-1)) := by
    rw [hw7.out]
    iterate 4 refine World.rowIs.of_block ?_ (Below.heap_setCell _ _ _ _ (by show gl ≠ W.heap.size; omega))
    exact L6.out
  have R7 : w7.rowIs gr 3 6 (fun i => .int .i64 (if i = 0 then 0 else -1)) := by
    rw [hw7.out]
    iterate 4 refine World.rowIs.of_block ?_ (Below.heap_setCell _ _ _ _ (by show gr ≠ W.heap.size; omega))
    exact R6.out
  have B7 : Below W.heap.size W w7 := by
    rw [hw7.out]
    iterate 4 refine Below.setCell ?_ (by simp) _
    exact B6.out
  have O7 := row_of w7 #[.int .i64 0, .bool true, .slice (some ⟨gl, 0, none⟩) 2 2] 31
  rw [E7] at O7
  rw [← hw7.out]
  exact new_ans (c2 := 2) O7 (L7.alloc _) (R7.alloc _) (by omega) (by omega) (by omega) (by omega) (by omega) (by omega) (B7.alloc (by omega) _)

/-- What the loop keeps: the result's box, the links, the object; the heap's box with its roots. -/
structure NewAt (W w : World) (v : Value) : Prop where
  z : w.rowIs W.heap.size 25 4 (rowF [.slice none 0 0, .slice none 0 0, .slice none 0 0, .int .i64 0])
  l : w.rowIs (W.heap.size + 1) 3 2 (fun _ => .int .i64 (-1))
  o : w.rowIs (W.heap.size + 2) 31 3 (rowF [.int .i64 0, .bool true, .slice (some ⟨W.heap.size + 1, 0, none⟩) 2 2])
  h : w.rowIs (W.heap.size + 3) 25 4 (rowF [.slice (some ⟨W.heap.size + 2, 0, none⟩) 1 1, v, .slice none 0 0, .int .i64 1])
  b : Below W.heap.size W w
theorem NewAt.set {W w : World} {v : Value} (h : NewAt W w v) (u : Value) : NewAt W (w.setCell ⟨W.heap.size + 3, 1, none⟩ u) u := by
  refine ⟨h.z.of_block (Below.heap_setCell _ _ _ _ (by show W.heap.size ≠ W.heap.size + 3; omega)), h.l.of_block (Below.heap_setCell _ _ _ _ (by show W.heap.size + 1 ≠ W.heap.size + 3; omega)), h.o.of_block (Below.heap_setCell _ _ _ _ (by show W.heap.size + 2 ≠ W.heap.size + 3; omega)), (h.h.set 1 u).congr ?_, h.b.setCell (by simp) _⟩
  intro i hi
  match i, hi with
  | 0, _ => rfl
  | 1, _ => rfl
  | 2, _ => rfl
  | 3, _ => rfl
theorem NewAt.far {W w w' : World} {v : Value} {row : Option Nat} (h : NewAt W w v) (g : w.grownBy w' row) (hr : ∀ j, row = some j → W.heap.size + 4 ≤ j) : NewAt W w' v := by
  have q : ∀ k, k < W.heap.size + 4 → some k ≠ row := fun k hk e => by have := hr k e.symm; omega
  have hz := h.h.lt
  exact ⟨h.z.of_block (g.block _ h.z.lt (q _ (by omega))), h.l.of_block (g.block _ h.l.lt (q _ (by omega))), h.o.of_block (g.block _ h.o.lt (q _ (by omega))), h.h.of_block (g.block _ h.h.lt (q _ (by omega))), h.b.trans ⟨g.os, g.tape, g.output, g.size, fun k hk => g.block k (by omega) (q _ (by omega))⟩⟩

set_option maxHeartbeats 8000000 in
theorem spec_newheap (W : World) : Calls Try.prog 4 #[] W fun e W' => NewAns W e W' := by
  obtain ⟨i0, hi, hz0, hz1, hz2⟩ := parts_of (P := Try.prog) (e := 3) (z := .int .i64 0) (a := 1) (b := 8) (by kernel_rfl)
  go_enter Try.func4, Try.ntmps4
  go_upto_region 2 with fail
  obtain ⟨W1, hW1⟩ : ∃ X, Hid ((((W.alloc (.cells #[.slice none 0 0, .slice none 0 0, .slice none 0 0, .int .i64 0] 25)).alloc (.cells #[.int .i64 (-1), .int .i64 (-1)] 3)).alloc (.cells #[.int .i64 0, .bool true, .slice (some ⟨W.heap.size + 1, 0, none⟩) 2 2] 31)).alloc (.cells #[.slice (some ⟨W.heap.size + 1 + 1, 0, none⟩) 1 1, .slice none 0 0, .slice none 0 0, .int .i64 1] 25) = X) := ⟨_, rfl⟩
  rw [hW1.out]
  have S1 : Hid (W1.heap.size = W.heap.size + 4) := by show _ = _; rw [← hW1.out]; simp
  have A1 : Hid (NewAt W W1 (.slice none 0 0)) := by
    show NewAt _ _ _
    rw [← hW1.out]
    have q1 := row_of (W.alloc (.cells #[.slice none 0 0, .slice none 0 0, .slice none 0 0, .int .i64 0] 25)) #[.int .i64 (-1), .int .i64 (-1)] 3
    have q2 := row_of ((W.alloc (.cells #[.slice none 0 0, .slice none 0 0, .slice none 0 0, .int .i64 0] 25)).alloc (.cells #[.int .i64 (-1), .int .i64 (-1)] 3)) #[.int .i64 0, .bool true, .slice (some ⟨W.heap.size + 1, 0, none⟩) 2 2] 31
    have q3 := row_of (((W.alloc (.cells #[.slice none 0 0, .slice none 0 0, .slice none 0 0, .int .i64 0] 25)).alloc (.cells #[.int .i64 (-1), .int .i64 (-1)] 3)).alloc (.cells #[.int .i64 0, .bool true, .slice (some ⟨W.heap.size + 1, 0, none⟩) 2 2] 31)) #[.slice (some ⟨W.heap.size + 1 + 1, 0, none⟩) 1 1, .slice none 0 0, .slice none 0 0, .int .i64 1] 25
    rw [show (W.alloc (.cells #[.slice none 0 0, .slice none 0 0, .slice none 0 0, .int .i64 0] 25)).heap.size = W.heap.size + 1 by simp] at q1
    rw [show ((W.alloc (.cells #[.slice none 0 0, .slice none 0 0, .slice none 0 0, .int .i64 0] 25)).alloc (.cells #[.int .i64 (-1), .int .i64 (-1)] 3)).heap.size = W.heap.size + 2 by simp] at q2
    rw [show (((W.alloc (.cells #[.slice none 0 0, .slice none 0 0, .slice none 0 0, .int .i64 0] 25)).alloc (.cells #[.int .i64 (-1), .int .i64 (-1)] 3)).alloc (.cells #[.int .i64 0, .bool true, .slice (some ⟨W.heap.size + 1, 0, none⟩) 2 2] 31)).heap.size = W.heap.size + 3 by simp] at q3
    refine ⟨(((row_of W #[.slice none 0 0, .slice none 0 0, .slice none 0 0, .int .i64 0] 25).alloc _).alloc _).alloc _, ((q1.alloc _).alloc _).congr ?_, q2.alloc _, q3, by go_grown⟩
    intro i hi
    match i, hi with
    | 0, _ => rfl
    | 1, _ => rfl
  clear hW1
  go_wp2
  go_loopw [2] (fun vk wr => ∃ (k : Nat) (v : Value) (xs : List Value), k ≤ 6 ∧ vk = .int .i64 k ∧ Hid (NewAt W wr v) ∧ Hid (wr.ownsRow W1.heap.size 3 1 v k xs) ∧ Hid (xs = List.replicate k (.int .i64 (-1)))) (fun vk _ => 6 - (intOf vk).toNat)
  case atStart => exact ⟨0, _, [], by omega, rfl, A1, World.ownsRow_nil _ _ _ _, rfl⟩
  case round =>
    obtain ⟨k, v, xs, hk, rfl, HA, HO, HX⟩ := hrel
    have h0 : wr.cell? ⟨W.heap.size + 3, 0, none⟩ = some (.slice (some ⟨W.heap.size + 2, 0, none⟩) 1 1) := HA.out.h.cell (i := 0) (by decide)
    have h1 : wr.cell? ⟨W.heap.size + 3, 1, none⟩ = some v := HA.out.h.cell (i := 1) (by decide)
    have h2 : wr.cell? ⟨W.heap.size + 3, 2, none⟩ = some (.slice none 0 0) := HA.out.h.cell (i := 2) (by decide)
    have h3 : wr.cell? ⟨W.heap.size + 3, 3, none⟩ = some (.int .i64 1) := HA.out.h.cell (i := 3) (by decide)
    have hl := HA.out.h.lt
    have hbase : W1.heap.size ≤ wr.heap.size := by have := S1.out; omega
    by_cases hlt : k < 6
    · have hltI : (k : Int) < 6 := by omega
      go_wp2_with (first
        | (at_builtin; refine wpList_append_own_at _ rfl _ _ 23 rfl W1.heap.size 3 i0 (.int .i64 0) 1 8 Try.underlying23 hi hz0 hz1 hz2 rfl (by decide) _ k xs rfl (World.ownsRow.alloc HO.out _) ⟨wr.heap.size, 0, none⟩ 1 1 [.int .i64 (-1)] rfl rfl (new_one wr (-1) _) (one_of (-1)) (by unfold maxLen; omega) (by omega) (by simp; omega) ?_))
      intro v5 w5 hown hgrow _ hob
      have HO5 : Hid (w5.ownsRow W1.heap.size 3 1 v5 (k + 1) (xs ++ [.int .i64 (-1)])) := hown
      have HX5 : Hid (xs ++ [.int .i64 (-1)] = List.replicate (k + 1) (.int .i64 (-1))) := by show _ = _; rw [HX.out, List.replicate_succ']
      have A5 : Hid (NewAt W w5 v) := (HA.out.far (World.grownBy_alloc wr _ none) (by simp)).far hgrow (fun j hj => by
        have := (World.ownsRow.lt HO.out j hj).1
        have := S1.out; omega)
      have HE : Hid (∃ ua uc, v5 = .slice ua (k + 1) uc) := by
        rcases hown.2 with ⟨e, hn⟩ | ⟨g, cap, cur, e, _⟩
        · omega
        · exact ⟨_, _, e⟩
      obtain ⟨ua, uc, rfl⟩ := HE.out
      clear hown hgrow hob HO HA HE h0 h1 h2 h3 hl
      have h1 : w5.cell? ⟨W.heap.size + 3, 1, none⟩ = some v := A5.out.h.cell (i := 1) (by decide)
      have fh := A5.out.h.frozen 1
      have hl := A5.out.h.lt
      have A6 : Hid (NewAt W (w5.setCell ⟨W.heap.size + 3, 1, none⟩ (.slice ua (k + 1) uc)) (.slice ua (k + 1) uc)) := A5.out.set _
      have HO6 : Hid ((w5.setCell ⟨W.heap.size + 3, 1, none⟩ (.slice ua (k + 1) uc)).ownsRow W1.heap.size 3 1 (.slice ua (k + 1) uc) (k + 1) (xs ++ [.int .i64 (-1)])) := by
        show World.ownsRow _ _ _ _ _ _ _
        refine ⟨HO5.out.1, ?_⟩
        rcases HO5.out.2 with q | ⟨g, cap, cur, e, hg, hw, r⟩
        · exact Or.inl q
        · exact Or.inr ⟨g, cap, cur, e, hg, (Below.heap_setCell _ _ _ _ (by show g ≠ W.heap.size + 3; have := S1.out; omega)).trans hw, r⟩
      go_wp2
      go_roundw
      case rel => exact ⟨k + 1, _, _, by omega, by go_num, A6, HO6, HX5⟩
      case measure => simp [intOf]; omega
    · have hk6 : k = 6 := by omega
      subst hk6
      have hkd : decide ((6 : Int) < 6) = false := by decide
      rcases HO.out.2 with ⟨e, hn⟩ | ⟨g, cap, cur, e, hg, hw, r⟩
      · omega
      subst e
      have GC : Hid (∀ i, i < 6 → wr.cell? ⟨g, i, none⟩ = some (.int .i64 (-1)) ∧ wr.frozen? ⟨g, i, none⟩ = false) := fun i hi => by
        have q := World.ownsRow.cellAt HO.out i (by omega)
        have q2 := World.ownsRow.frozenAt HO.out i
        exact ⟨by rw [q, HX.out, List.getElem?_replicate, if_pos hi], by simpa using q2⟩
      have HGL : Hid (W.heap.size + 4 ≤ g ∧ g < wr.heap.size) := ⟨by have := S1.out; omega, (World.ownsRow.lt HO.out g rfl).2⟩
      have g0 := (GC.out 0 (by decide)).1
      have gf0 := (GC.out 0 (by decide)).2
      have gl := HGL.out.2
      clear hw r HO
      go_upto_region 7 with fail
      obtain ⟨w6, hw6⟩ : ∃ X, Hid (X = wr.setCell ⟨g, 0, none⟩ (.int .i64 0)) := ⟨_, rfl⟩
      obtain ⟨q1, q2⟩ := HGL.out
      have A6 : Hid (NewAt W w6 (.slice (some ⟨g, 0, none⟩) 6 cap)) := by
        show NewAt _ _ _
        rw [hw6.out]
        exact HA.out.far (row := some g) ⟨rfl, rfl, rfl, by simp [World.setCell], fun i hi hne => Below.heap_setCell _ _ _ _ (by show i ≠ g; intro e; exact hne (by rw [e]))⟩ (fun j hj => by cases hj; exact q1)
      have G6 : Hid (∀ i, i < 6 → w6.cell? ⟨g, i, none⟩ = some (.int .i64 (if i = 0 then 0 else -1)) ∧ w6.frozen? ⟨g, i, none⟩ = false) := fun i hi => by
        obtain ⟨p1, p2⟩ := GC.out i hi
        rw [hw6.out]
        refine ⟨?_, by simpa using p2⟩
        by_cases e : i = 0
        · subst e
          have := cell_set wr (some (.int .i64 (-1))) g 0 (.int .i64 0) (by rw [p1]) rfl
          simpa using this
        · rw [World.cell?_setCell_other _ _ _ _ (by simp <;> omega), p1, if_neg e]
      have L6 : Hid (g < w6.heap.size) := by show _ < _; rw [hw6.out]; simpa [World.setCell] using q2
      rw [← hw6.out]
      clear hw6 HA GC g0 gf0 gl h0 h1 h2 h3 hl
      have h0 : w6.cell? ⟨W.heap.size + 3, 0, none⟩ = some (.slice (some ⟨W.heap.size + 2, 0, none⟩) 1 1) := A6.out.h.cell (i := 0) (by decide)
      have h1 : w6.cell? ⟨W.heap.size + 3, 1, none⟩ = some (.slice (some ⟨g, 0, none⟩) 6 cap) := A6.out.h.cell (i := 1) (by decide)
      have h2 : w6.cell? ⟨W.heap.size + 3, 2, none⟩ = some (.slice none 0 0) := A6.out.h.cell (i := 2) (by decide)
      have h3 : w6.cell? ⟨W.heap.size + 3, 3, none⟩ = some (.int .i64 1) := A6.out.h.cell (i := 3) (by decide)
      have hl := A6.out.h.lt
      have z0 : w6.cell? ⟨W.heap.size, 0, none⟩ = some (.slice none 0 0) := A6.out.z.cell (i := 0) (by decide)
      have z1 : w6.cell? ⟨W.heap.size, 1, none⟩ = some (.slice none 0 0) := A6.out.z.cell (i := 1) (by decide)
      have z2 : w6.cell? ⟨W.heap.size, 2, none⟩ = some (.slice none 0 0) := A6.out.z.cell (i := 2) (by decide)
      have z3 : w6.cell? ⟨W.heap.size, 3, none⟩ = some (.int .i64 0) := A6.out.z.cell (i := 3) (by decide)
      have fz0 := A6.out.z.frozen 0
      have fz1 := A6.out.z.frozen 1
      have fz2 := A6.out.z.frozen 2
      have fz3 := A6.out.z.frozen 3
      have zl := A6.out.z.lt
      go_wp2
      refine bodyPost_ret (v := .agg #[.slice (some ⟨W.heap.size + 2, 0, none⟩) 1 1, .slice (some ⟨g, 0, none⟩) 6 cap, .slice none 0 0, .int .i64 1]) (by simp only [results, Try.results4]; go_simp) rfl ?_
      refine new_ans2 (h := W.heap.size + 1) (r := g) (c2 := 2) (T := 31) (T2 := 3) ?_ ?_ ?_ ?_ (by omega) (by omega) (by omega) (by omega) (by omega) (by omega) ?_
      · iterate 4 refine World.rowIs.of_block ?_ (Below.heap_setCell _ _ _ _ (by show W.heap.size + 2 ≠ W.heap.size; omega))
        exact A6.out.o
      · iterate 4 refine World.rowIs.of_block ?_ (Below.heap_setCell _ _ _ _ (by show W.heap.size + 1 ≠ W.heap.size; omega))
        exact A6.out.l
      · refine cells_owns (x := fun i => if i = 0 then 0 else -1) (by simpa [World.setCell] using L6.out) (by omega) rfl (fun i hi => ?_) (fun i hi => rfl)
        obtain ⟨p1, p2⟩ := G6.out i hi
        refine ⟨?_, by simpa using p2⟩
        iterate 4 rw [World.cell?_setCell_other _ _ _ _ (by simp <;> omega)]
        exact p1
      · simpa [World.setCell] using L6.out
      · iterate 4 refine Below.setCell ?_ (by simp) _
        exact A6.out.b
end Go.Proofs.Ytolappfgeknmpaa.walks
