/-
  What the program does to the names' facts at a step, whatever its kind.
-/
import Derived.Test.YtoeiijkomjlolabProg
import Derived.Test.YtoeiijkomjlolabRangeRun
import Derived.Test.YtoeiijkomjlolabRangeTwo
import Derived.Test.YtoeiijkomjlolabRangeJust
import Derived.Test.YtoeiijkomjlolabRangeSteps
import Derived.Test.YtoeiijkomjlolabStepKinds
import Derived.Test.YtoeiijkomjlolabStepsOf
import Derived.WalkKit
import Derived.WalkSpells
import Derived.Below
import Derived.Handy
import Derived.Deep.RegionHeld3
namespace Go.Proofs.Ytoeiijkomjlolab.walks
open Go.RowKit Go.Proofs.Ytoeiijkomjlolab.math Go.Proofs.Ytoeiijkomjlolab.ints
set_option linter.unusedVariables false
set_option linter.unusedSimpArgs false

/-- What a step leaves: the facts, and nothing else has turned. -/
def DoneF (gb : Nat) (f : Nat → Rv) (W : World) (e : Ending) (W' : World) : Prop := e = .returned (.tuple #[]) ∧ CellsG W' gb 0 8 f ∧ W.grownBy W' (some gb)
theorem grow_below {W w : World} {gb : Nat} (h : Below W.heap.size W w) : W.grownBy w (some gb) := ⟨h.os, h.tape, h.output, h.size, fun k hk _ => h.block k hk⟩
theorem grow_one {w w' : World} {g : Nat} (h : w.grownBy w' (some g)) (i : Nat) (v : Value) : w.grownBy (w'.setCell ⟨g, i, none⟩ v) (some g) :=
  ⟨h.os, h.tape, h.output, by simpa [World.setCell] using h.size, fun k hk hne => (Below.heap_setCell _ _ _ _ (by simpa using hne)).trans (h.block k hk hne)⟩
theorem grow_three {w w' : World} {g i j k : Nat} {x y z : Value} (h : w.grownBy w' (some g)) : w.grownBy (((w'.setCell ⟨g, i, none⟩ x).setCell ⟨g, j, none⟩ y).setCell ⟨g, k, none⟩ z) (some g) := grow_one (grow_one (grow_one h _ _) _ _) _ _
theorem grow_more {a w : World} {row : Option Nat} (h : a.grownBy w row) (o : Obj) : a.grownBy (w.alloc o) row :=
  ⟨h.os, h.tape, h.output, by have := h.size; simp; omega, fun i hi hne => (Below.heap_alloc _ _ _ (by have := h.size; omega)).trans (h.block i hi hne)⟩
theorem grow_same (w : World) (row : Option Nat) : w.grownBy w row := ⟨rfl, rfl, rfl, Nat.le_refl _, fun _ _ _ => rfl⟩
theorem grow_drawn {w w' : World} {row : Option Nat} (h : w.grownBy w' row) : w.grownBy w'.drew row := ⟨h.os, h.tape, h.output, h.size, h.block⟩
theorem box2_call {w w' : World} {g : Nat} {o d : Int} (h : w.cell? ⟨g, 0, none⟩ = some (.int .i64 o) ∧ w.cell? ⟨g, 1, none⟩ = some (.int .i64 d)) (hg : g < w.heap.size) (B : Below w.heap.size w w') : w'.cell? ⟨g, 0, none⟩ = some (.int .i64 o) ∧ w'.cell? ⟨g, 1, none⟩ = some (.int .i64 d) :=
  ⟨(B.cell (p := ⟨g, 0, none⟩) hg).trans h.1, (B.cell (p := ⟨g, 1, none⟩) hg).trans h.2⟩
theorem box2_set {w : World} {b g i j k : Nat} {u v t : Value} {o d : Int} (h : w.cell? ⟨g, 0, none⟩ = some (.int .i64 o) ∧ w.cell? ⟨g, 1, none⟩ = some (.int .i64 d)) (hne : g ≠ b) : (((w.setCell ⟨b, i, none⟩ u).setCell ⟨b, j, none⟩ v).setCell ⟨b, k, none⟩ t).cell? ⟨g, 0, none⟩ = some (.int .i64 o) ∧ (((w.setCell ⟨b, i, none⟩ u).setCell ⟨b, j, none⟩ v).setCell ⟨b, k, none⟩ t).cell? ⟨g, 1, none⟩ = some (.int .i64 d) :=
  ⟨(far3 hne).trans h.1, (far3 hne).trans h.2⟩

set_option maxRecDepth 100000 in
set_option maxHeartbeats 4000000 in
theorem doF_c (j : Nat) (n : Int) (gb : Nat) (f : Nat → Rv) (W : World) (hC : Hid (CellsG W gb 0 8 f)) (hj : j < 8) (hg : gb < W.heap.size) :
    Calls Try.prog 80 #[.pointer (some ⟨gb, 0, none⟩), .iface 118 (.agg #[.int .i64 (j : Int), .int .i64 n])] W fun e W' => DoneF gb (setR f j (wordR n)) W e W' := by
  have hj8 : (j : Int) < 8 := by omega
  have hne : gb ≠ W.heap.size := by omega
  have q1 := is_cc
  go_enter Try.func80, Try.ntmps80
  go_wp2
  refine wp_region_noPanic ?_
  refine wp_region_held_drew (S := fun w' => w'.cell? ⟨W.heap.size, 0, none⟩ = some (.int .i64 (j : Int)) ∧ w'.cell? ⟨W.heap.size, 1, none⟩ = some (.int .i64 n)) (by kernel_rfl) ?_ (fun hHeld => ?_)
  · (try dsimp only); (refine ⟨?_, ?_⟩ <;> go_simp)
  refine wpAnyH_take (i := 0) (v := ?v1) rfl (by kernel_rfl) (by kernel_rfl) (by kernel_rfl) (fun _ _ _ h => h) (Or.inl ⟨by rfl, ?hy1⟩) (by assumption) ?_
  case hy1 => (intro w hSw; (try dsimp only at hSw); go_simp; try with_reducible rfl)
  try simp only [Act.put, List.setIfInBounds_toArray, List.set_cons_zero, List.set_cons_succ]
  refine wpAnyH_take (i := 1) (v := ?v2) rfl (by kernel_rfl) (by kernel_rfl) (by kernel_rfl) (fun _ _ _ h => h) (Or.inl ⟨by rfl, ?hy2⟩) (by assumption) ?_
  case hy2 => (intro w hSw; (try dsimp only at hSw); go_simp; try with_reducible rfl)
  try simp only [Act.put, List.setIfInBounds_toArray, List.set_cons_zero, List.set_cons_succ]
  refine wpAnyH_take (i := 2) (v := ?v3) rfl (by kernel_rfl) (by kernel_rfl) (by kernel_rfl) (fun _ _ _ h => h) (Or.inl ⟨by rfl, ?hy3⟩) (by assumption) ?_
  case hy3 => (intro w hSw; (try dsimp only at hSw); go_simp; try with_reducible rfl)
  try simp only [Act.put, List.setIfInBounds_toArray, List.set_cons_zero, List.set_cons_succ]
  refine wpAnyH_take (i := 3) (v := ?v4) rfl (by kernel_rfl) (by kernel_rfl) (by kernel_rfl) (fun _ _ _ h => h) (Or.inl ⟨by rfl, ?hy4⟩) (by assumption) ?_
  case hy4 => (intro w hSw; (try dsimp only at hSw); go_simp; try with_reducible rfl)
  try simp only [Act.put, List.setIfInBounds_toArray, List.set_cons_zero, List.set_cons_succ]
  refine wpAnyH_take (i := 4) (v := ?v5) rfl (by kernel_rfl) (by kernel_rfl) (by kernel_rfl) (fun _ _ _ h => h) (Or.inl ⟨by rfl, ?hy5⟩) (by assumption) ?_
  case hy5 => (intro w hSw; (try dsimp only at hSw); go_simp; try with_reducible rfl)
  try simp only [Act.put, List.setIfInBounds_toArray, List.set_cons_zero, List.set_cons_succ]
  refine wpAnyH_take (i := 6) (v := ?v6) rfl (by kernel_rfl) (by kernel_rfl) (by kernel_rfl) (fun _ _ _ h => h) (Or.inl ⟨by rfl, ?hy6⟩) (by assumption) ?_
  case hy6 => (intro w hSw; (try dsimp only at hSw); go_simp; try with_reducible rfl)
  try simp only [Act.put, List.setIfInBounds_toArray, List.set_cons_zero, List.set_cons_succ]
  refine wpAnyH_ready (rs := [5]) (by kernel_rfl) (by simp) ?_
  refine AllReadyH.cons rfl (fun K hK => ?_) AllReadyH.nil
  go_simp
  (go_at_call 89; refine (impl_justR _ _).mono ?_; rintro e w5 ⟨rfl, B5⟩; have hs5 := B5.size; simp at hs5; have l5 : gb < w5.heap.size := (by omega); have D5 : Hid (CellsG w5 gb 0 8 f) := cells5 hC.out hg B5; have G5 : Hid (W.grownBy w5 (some gb)) := grow_below (belR (below_box _) B5); obtain ⟨⟨m0, m1, m2⟩, y0, y1, y2⟩ := D5.out.at (k := j) (by omega); simp only [Nat.zero_add] at m0 m1 m2 y0 y1 y2; go_wp2_with fail)
  refine hK.out _ _ ?_ (fun hHeld => ?_)
  · (try dsimp only); (first | assumption | exact box2_call (by assumption) (by simp) B5 | exact box2_set (by assumption) (by omega))
  clear hK K
  try simp only [Act.put, List.setIfInBounds_toArray, List.set_cons_zero, List.set_cons_succ]
  refine wpAnyH_take (i := 7) (v := ?v7) rfl (by kernel_rfl) (by kernel_rfl) (by kernel_rfl) (fun _ _ _ h => h) (Or.inl ⟨by rfl, ?hy7⟩) (by assumption) ?_
  case hy7 => (intro w hSw; (try dsimp only at hSw); go_simp; try with_reducible rfl)
  try simp only [Act.put, List.setIfInBounds_toArray, List.set_cons_zero, List.set_cons_succ]
  refine wpAnyH_ready (rs := [8]) (by kernel_rfl) (by simp) ?_
  refine AllReadyH.cons rfl (fun K hK => ?_) AllReadyH.nil
  go_simp
  refine hK.out _ _ ?_ (fun hHeld => ?_)
  · (try dsimp only); (first | assumption | exact box2_call (by assumption) (by simp) B5 | exact box2_set (by assumption) (by omega))
  clear hK K
  try simp only [Act.put, List.setIfInBounds_toArray, List.set_cons_zero, List.set_cons_succ]
  refine wpAnyH_done (by kernel_rfl) ?_ _
  refine NoPanic.normal ?_
  (go_wp2; exact bodyPost_end (v := .tuple #[]) (by simp [results, Try.results80, go_sem]) rfl ⟨rfl, zero_off (D5.out.set (by omega) (wordR n)), grow_three G5.out⟩)
set_option maxRecDepth 100000 in
set_option maxHeartbeats 4000000 in
theorem doF_y (j x : Nat) (gb : Nat) (f : Nat → Rv) (W : World) (hC : Hid (CellsG W gb 0 8 f)) (hj : j < 8) (hx : x < 8) (hg : gb < W.heap.size) :
    Calls Try.prog 80 #[.pointer (some ⟨gb, 0, none⟩), .iface 121 (.agg #[.int .i64 (j : Int), .int .i64 (x : Int)])] W fun e W' => DoneF gb (setR f j (f x)) W e W' := by
  have hj8 : (j : Int) < 8 := by omega
  have hx8 : (x : Int) < 8 := by omega
  have hne : gb ≠ W.heap.size := by omega
  obtain ⟨⟨m0, m1, m2⟩, q0, q1, q2⟩ := hC.out.at (k := j) (by omega)
  obtain ⟨⟨r0, r1, r2⟩, _⟩ := hC.out.at (k := x) (by omega)
  simp only [Nat.zero_add] at m0 m1 m2 q0 q1 q2 r0 r1 r2
  rcases hF : f x with ⟨ft, fk, fn⟩
  rw [hF] at r0 r1 r2
  simp only at r0 r1 r2
  clear hF
  have e1 := is_yc
  have e2 := is_yy
  go_enter Try.func80, Try.ntmps80
  go_wp2
  first | go_region | fail
  all_goals go_wp2
  all_goals exact bodyPost_end (v := .tuple #[]) (by simp [results, Try.results80, go_sem]) rfl ⟨rfl, cellsD (cellsA (zero_off (hC.out.set (by omega) ⟨ft, fk, fn⟩)) (by simpa [World.setCell] using hg) _), grow_drawn (grow_more (grow_three (grow_same _ _)) _)⟩
set_option maxRecDepth 100000 in
set_option maxHeartbeats 4000000 in
theorem doF_t (x : Int) (gb : Nat) (f : Nat → Rv) (W : World) (hC : Hid (CellsG W gb 0 8 f)) :
    Calls Try.prog 80 #[.pointer (some ⟨gb, 0, none⟩), .iface 126 (.agg #[.int .i64 x])] W fun e W' => DoneF gb f W e W' := by
  have e1 := is_tc
  have e2 := is_ty
  have e3 := is_tp
  go_enter Try.func80, Try.ntmps80
  go_wp2
  exact bodyPost_end (v := .tuple #[]) (by simp [results, Try.results80, go_sem]) rfl ⟨rfl, hC.out, grow_same _ _⟩
set_option maxRecDepth 100000 in
set_option maxHeartbeats 8000000 in
theorem doF_p (o : Int) (j x y : Nat) (gb : Nat) (f : Nat → Rv) (W : World) (o3 : 3 ≤ o) (o7 : o ≤ 7) (hC : Hid (CellsG W gb 0 8 f)) (hcome : Hid (∀ i, i < 8 → (f i).good = true)) (hj : j < 8) (hx : x < 8) (hy : y < 8) (hg : gb < W.heap.size) :
    Calls Try.prog 80 #[.pointer (some ⟨gb, 0, none⟩), .iface 123 (.agg #[.int .i64 o, .int .i64 (j : Int), .int .i64 (x : Int), .int .i64 (y : Int)])] W fun e W' => DoneF gb (setR f j (twoR o (f x) (f y))) W e W' := by
  have hj8 : (j : Int) < 8 := by omega
  have hx8 : (x : Int) < 8 := by omega
  have hy8 : (y : Int) < 8 := by omega
  have hne : gb ≠ W.heap.size := by omega
  obtain ⟨⟨r0, r1, r2⟩, _⟩ := hC.out.at (k := x) (by omega)
  obtain ⟨⟨t0, t1, t2⟩, _⟩ := hC.out.at (k := y) (by omega)
  simp only [Nat.zero_add] at r0 r1 r2 t0 t1 t2
  have hF := hcome.out x hx
  have hH := hcome.out y hy
  rcases eF : f x with ⟨ft, fk, fn⟩
  rcases eH : f y with ⟨ht, hk, hn⟩
  rw [eF] at r0 r1 r2 hF
  rw [eH] at t0 t1 t2 hH
  simp only at r0 r1 r2 t0 t1 t2
  clear eF eH
  have e1 := is_pc
  have e2 := is_py
  have e3 := is_pp
  go_enter Try.func80, Try.ntmps80
  go_wp2
  refine wp_region_noPanic ?_
  refine wp_region_held_drew (S := fun w' => w'.cell? ⟨W.heap.size, 0, none⟩ = some (.int .i64 o) ∧ w'.cell? ⟨W.heap.size, 1, none⟩ = some (.int .i64 (j : Int)) ∧ w'.cell? ⟨W.heap.size, 2, none⟩ = some (.int .i64 (x : Int)) ∧ w'.cell? ⟨W.heap.size, 3, none⟩ = some (.int .i64 (y : Int))) (by kernel_rfl) ?_ (fun hHeld => ?_)
  · (try dsimp only); (refine ⟨?_, ?_, ?_, ?_⟩ <;> go_simp)
  refine wpAnyH_take (i := 0) (v := ?v8) rfl (by kernel_rfl) (by kernel_rfl) (by kernel_rfl) (fun _ _ _ h => h) (Or.inl ⟨by rfl, ?hy8⟩) (by assumption) ?_
  case hy8 => (intro w hSw; (try dsimp only at hSw); go_simp; try with_reducible rfl)
  try simp only [Act.put, List.setIfInBounds_toArray, List.set_cons_zero, List.set_cons_succ]
  refine wpAnyH_take (i := 1) (v := ?v9) rfl (by kernel_rfl) (by kernel_rfl) (by kernel_rfl) (fun _ _ _ h => h) (Or.inl ⟨by rfl, ?hy9⟩) (by assumption) ?_
  case hy9 => (intro w hSw; (try dsimp only at hSw); go_simp; try with_reducible rfl)
  try simp only [Act.put, List.setIfInBounds_toArray, List.set_cons_zero, List.set_cons_succ]
  refine wpAnyH_take (i := 2) (v := ?v10) rfl (by kernel_rfl) (by kernel_rfl) (by kernel_rfl) (fun _ _ _ h => h) (Or.inl ⟨by rfl, ?hy10⟩) (by assumption) ?_
  case hy10 => (intro w hSw; (try dsimp only at hSw); go_simp; try with_reducible rfl)
  try simp only [Act.put, List.setIfInBounds_toArray, List.set_cons_zero, List.set_cons_succ]
  refine wpAnyH_take (i := 3) (v := ?v11) rfl (by kernel_rfl) (by kernel_rfl) (by kernel_rfl) (fun _ _ _ h => h) (Or.inl ⟨by rfl, ?hy11⟩) (by assumption) ?_
  case hy11 => (intro w hSw; (try dsimp only at hSw); go_simp; try with_reducible rfl)
  try simp only [Act.put, List.setIfInBounds_toArray, List.set_cons_zero, List.set_cons_succ]
  refine wpAnyH_take (i := 4) (v := ?v12) rfl (by kernel_rfl) (by kernel_rfl) (by kernel_rfl) (fun _ _ _ h => h) (Or.inl ⟨by rfl, ?hy12⟩) (by assumption) ?_
  case hy12 => (intro w hSw; (try dsimp only at hSw); go_simp; try with_reducible rfl)
  try simp only [Act.put, List.setIfInBounds_toArray, List.set_cons_zero, List.set_cons_succ]
  refine wpAnyH_take (i := 5) (v := ?v13) rfl (by kernel_rfl) (by kernel_rfl) (by kernel_rfl) (fun _ _ _ h => h) (Or.inl ⟨by rfl, ?hy13⟩) (by assumption) ?_
  case hy13 => (intro w hSw; (try dsimp only at hSw); go_simp; try with_reducible rfl)
  try simp only [Act.put, List.setIfInBounds_toArray, List.set_cons_zero, List.set_cons_succ]
  refine wpAnyH_take (i := 6) (v := ?v14) rfl (by kernel_rfl) (by kernel_rfl) (by kernel_rfl) (fun _ _ _ h => h) (Or.inl ⟨by rfl, ?hy14⟩) (by assumption) ?_
  case hy14 => (intro w hSw; (try dsimp only at hSw); go_simp; try with_reducible rfl)
  try simp only [Act.put, List.setIfInBounds_toArray, List.set_cons_zero, List.set_cons_succ]
  refine wpAnyH_take (i := 7) (v := ?v15) rfl (by kernel_rfl) (by kernel_rfl) (by kernel_rfl) (fun _ _ _ h => h) (Or.inl ⟨by rfl, ?hy15⟩) (by assumption) ?_
  case hy15 => (intro w hSw; (try dsimp only at hSw); go_simp; try with_reducible rfl)
  try simp only [Act.put, List.setIfInBounds_toArray, List.set_cons_zero, List.set_cons_succ]
  refine wpAnyH_take (i := 8) (v := ?v16) rfl (by kernel_rfl) (by kernel_rfl) (by kernel_rfl) (fun _ _ _ h => h) (Or.inl ⟨by rfl, ?hy16⟩) (by assumption) ?_
  case hy16 => (intro w hSw; (try dsimp only at hSw); go_simp; try with_reducible rfl)
  try simp only [Act.put, List.setIfInBounds_toArray, List.set_cons_zero, List.set_cons_succ]
  refine wpAnyH_take (i := 9) (v := ?v17) rfl (by kernel_rfl) (by kernel_rfl) (by kernel_rfl) (fun _ _ _ h => h) (Or.inl ⟨by rfl, ?hy17⟩) (by assumption) ?_
  case hy17 => (intro w hSw; (try dsimp only at hSw); go_simp; try with_reducible rfl)
  try simp only [Act.put, List.setIfInBounds_toArray, List.set_cons_zero, List.set_cons_succ]
  refine wpAnyH_take (i := 11) (v := ?v18) rfl (by kernel_rfl) (by kernel_rfl) (by kernel_rfl) (fun _ _ _ h => h) (Or.inl ⟨by rfl, ?hy18⟩) (by assumption) ?_
  case hy18 => (intro w hSw; (try dsimp only at hSw); go_simp; try with_reducible rfl)
  try simp only [Act.put, List.setIfInBounds_toArray, List.set_cons_zero, List.set_cons_succ]
  refine wpAnyH_take (i := 12) (v := ?v19) rfl (by kernel_rfl) (by kernel_rfl) (by kernel_rfl) (fun _ _ _ h => h) (Or.inl ⟨by rfl, ?hy19⟩) (by assumption) ?_
  case hy19 => (intro w hSw; (try dsimp only at hSw); go_simp; try with_reducible rfl)
  try simp only [Act.put, List.setIfInBounds_toArray, List.set_cons_zero, List.set_cons_succ]
  refine wpAnyH_take (i := 13) (v := ?v20) rfl (by kernel_rfl) (by kernel_rfl) (by kernel_rfl) (fun _ _ _ h => h) (Or.inl ⟨by rfl, ?hy20⟩) (by assumption) ?_
  case hy20 => (intro w hSw; (try dsimp only at hSw); go_simp; try with_reducible rfl)
  try simp only [Act.put, List.setIfInBounds_toArray, List.set_cons_zero, List.set_cons_succ]
  refine wpAnyH_take (i := 14) (v := ?v21) rfl (by kernel_rfl) (by kernel_rfl) (by kernel_rfl) (fun _ _ _ h => h) (Or.inl ⟨by rfl, ?hy21⟩) (by assumption) ?_
  case hy21 => (intro w hSw; (try dsimp only at hSw); go_simp; try with_reducible rfl)
  try simp only [Act.put, List.setIfInBounds_toArray, List.set_cons_zero, List.set_cons_succ]
  refine wpAnyH_take (i := 15) (v := ?v22) rfl (by kernel_rfl) (by kernel_rfl) (by kernel_rfl) (fun _ _ _ h => h) (Or.inl ⟨by rfl, ?hy22⟩) (by assumption) ?_
  case hy22 => (intro w hSw; (try dsimp only at hSw); go_simp; try with_reducible rfl)
  try simp only [Act.put, List.setIfInBounds_toArray, List.set_cons_zero, List.set_cons_succ]
  refine wpAnyH_take (i := 18) (v := ?v23) rfl (by kernel_rfl) (by kernel_rfl) (by kernel_rfl) (fun _ _ _ h => h) (Or.inl ⟨by rfl, ?hy23⟩) (by assumption) ?_
  case hy23 => (intro w hSw; (try dsimp only at hSw); go_simp; try with_reducible rfl)
  try simp only [Act.put, List.setIfInBounds_toArray, List.set_cons_zero, List.set_cons_succ]
  refine wpAnyH_ready (rs := [10, 16]) (by kernel_rfl) (by simp) ?_
  refine AllReadyH.cons rfl (fun K hK => ?_) ?_
  · go_simp
    refine hK.out _ _ ?_ (fun hHeld => ?_)
    · (try dsimp only); (first | assumption | exact box4_call (by assumption) (by simp) B5 | exact box4_set (by assumption) (by omega))
    clear hK K
    try simp only [Act.put, List.setIfInBounds_toArray, List.set_cons_zero, List.set_cons_succ]
    refine wpAnyH_ready (rs := [16]) (by kernel_rfl) (by simp) ?_
    refine AllReadyH.cons rfl (fun K hK => ?_) AllReadyH.nil
    go_simp
    refine hK.out _ _ ?_ (fun hHeld => ?_)
    · (try dsimp only); (first | assumption | exact box4_call (by assumption) (by simp) B5 | exact box4_set (by assumption) (by omega))
    clear hK K
    try simp only [Act.put, List.setIfInBounds_toArray, List.set_cons_zero, List.set_cons_succ]
    refine wpAnyH_ready (rs := [17]) (by kernel_rfl) (by simp) ?_
    refine AllReadyH.cons rfl (fun K hK => ?_) AllReadyH.nil
    go_simp
    (go_at_call 46; refine (impl_two6 o ⟨ft, fk, fn⟩ ⟨ht, hk, hn⟩ _ o3 o7 hF hH).mono ?_; rintro e w5 ⟨rfl, B5⟩; have hs5 := B5.size; simp at hs5; have l5 : gb < w5.heap.size := (by omega); have D5 : Hid (CellsG w5 gb 0 8 f) := cells5 hC.out hg B5; have G5 : Hid (W.grownBy w5 (some gb)) := grow_below (belR (below_box _) B5); obtain ⟨⟨m0, m1, m2⟩, y0, y1, y2⟩ := D5.out.at (k := j) (by omega); simp only [Nat.zero_add] at m0 m1 m2 y0 y1 y2; go_wp2_with fail)
    refine hK.out _ _ ?_ (fun hHeld => ?_)
    · (try dsimp only); (first | assumption | exact box4_call (by assumption) (by simp) B5 | exact box4_set (by assumption) (by omega))
    clear hK K
    try simp only [Act.put, List.setIfInBounds_toArray, List.set_cons_zero, List.set_cons_succ]
    refine wpAnyH_take (i := 19) (v := ?v24) rfl (by kernel_rfl) (by kernel_rfl) (by kernel_rfl) (fun _ _ _ h => h) (Or.inl ⟨by rfl, ?hy24⟩) (by assumption) ?_
    case hy24 => (intro w hSw; (try dsimp only at hSw); go_simp; try with_reducible rfl)
    try simp only [Act.put, List.setIfInBounds_toArray, List.set_cons_zero, List.set_cons_succ]
    refine wpAnyH_ready (rs := [20]) (by kernel_rfl) (by simp) ?_
    refine AllReadyH.cons rfl (fun K hK => ?_) AllReadyH.nil
    go_simp
    refine hK.out _ _ ?_ (fun hHeld => ?_)
    · (try dsimp only); (first | assumption | exact box4_call (by assumption) (by simp) B5 | exact box4_set (by assumption) (by omega))
    clear hK K
    try simp only [Act.put, List.setIfInBounds_toArray, List.set_cons_zero, List.set_cons_succ]
    refine wpAnyH_done (by kernel_rfl) ?_ _
    refine NoPanic.normal ?_
    (go_wp2; exact bodyPost_end (v := .tuple #[]) (by simp [results, Try.results80, go_sem]) rfl ⟨rfl, zero_off (D5.out.set (by omega) _), grow_three G5.out⟩)
  refine AllReadyH.cons rfl (fun K hK => ?_) AllReadyH.nil
  go_simp
  refine hK.out _ _ ?_ (fun hHeld => ?_)
  · (try dsimp only); (first | assumption | exact box4_call (by assumption) (by simp) B5 | exact box4_set (by assumption) (by omega))
  clear hK K
  try simp only [Act.put, List.setIfInBounds_toArray, List.set_cons_zero, List.set_cons_succ]
  refine wpAnyH_ready (rs := [10]) (by kernel_rfl) (by simp) ?_
  refine AllReadyH.cons rfl (fun K hK => ?_) AllReadyH.nil
  go_simp
  refine hK.out _ _ ?_ (fun hHeld => ?_)
  · (try dsimp only); (first | assumption | exact box4_call (by assumption) (by simp) B5 | exact box4_set (by assumption) (by omega))
  clear hK K
  try simp only [Act.put, List.setIfInBounds_toArray, List.set_cons_zero, List.set_cons_succ]
  refine wpAnyH_ready (rs := [17]) (by kernel_rfl) (by simp) ?_
  refine AllReadyH.cons rfl (fun K hK => ?_) AllReadyH.nil
  go_simp
  (go_at_call 46; refine (impl_two6 o ⟨ft, fk, fn⟩ ⟨ht, hk, hn⟩ _ o3 o7 hF hH).mono ?_; rintro e w5 ⟨rfl, B5⟩; have hs5 := B5.size; simp at hs5; have l5 : gb < w5.heap.size := (by omega); have D5 : Hid (CellsG w5 gb 0 8 f) := cells5 hC.out hg B5; have G5 : Hid (W.grownBy w5 (some gb)) := grow_below (belR (below_box _) B5); obtain ⟨⟨m0, m1, m2⟩, y0, y1, y2⟩ := D5.out.at (k := j) (by omega); simp only [Nat.zero_add] at m0 m1 m2 y0 y1 y2; go_wp2_with fail)
  refine hK.out _ _ ?_ (fun hHeld => ?_)
  · (try dsimp only); (first | assumption | exact box4_call (by assumption) (by simp) B5 | exact box4_set (by assumption) (by omega))
  clear hK K
  try simp only [Act.put, List.setIfInBounds_toArray, List.set_cons_zero, List.set_cons_succ]
  refine wpAnyH_take (i := 19) (v := ?v25) rfl (by kernel_rfl) (by kernel_rfl) (by kernel_rfl) (fun _ _ _ h => h) (Or.inl ⟨by rfl, ?hy25⟩) (by assumption) ?_
  case hy25 => (intro w hSw; (try dsimp only at hSw); go_simp; try with_reducible rfl)
  try simp only [Act.put, List.setIfInBounds_toArray, List.set_cons_zero, List.set_cons_succ]
  refine wpAnyH_ready (rs := [20]) (by kernel_rfl) (by simp) ?_
  refine AllReadyH.cons rfl (fun K hK => ?_) AllReadyH.nil
  go_simp
  refine hK.out _ _ ?_ (fun hHeld => ?_)
  · (try dsimp only); (first | assumption | exact box4_call (by assumption) (by simp) B5 | exact box4_set (by assumption) (by omega))
  clear hK K
  try simp only [Act.put, List.setIfInBounds_toArray, List.set_cons_zero, List.set_cons_succ]
  refine wpAnyH_done (by kernel_rfl) ?_ _
  refine NoPanic.normal ?_
  (go_wp2; exact bodyPost_end (v := .tuple #[]) (by simp [results, Try.results80, go_sem]) rfl ⟨rfl, zero_off (D5.out.set (by omega) _), grow_three G5.out⟩)
end Go.Proofs.Ytoeiijkomjlolab.walks
