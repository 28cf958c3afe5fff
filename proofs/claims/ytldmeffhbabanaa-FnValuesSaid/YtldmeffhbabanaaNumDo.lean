/-
  What the program's valueOf, do, firstNumbering and numberingOf do.
-/
import Derived.Test.YtldmeffhbabanaaProg
import Derived.Test.YtldmeffhbabanaaNumSimp
import Derived.Test.YtldmeffhbabanaaNumSet
import Derived.Test.YtldmeffhbabanaaNumPair
import Derived.WalkKit
import Derived.WalkSpells
import Derived.Below
import Derived.Handy
import Derived.Deep.RegionWith
import Derived.Deep.RegionHeld3
namespace Go.Proofs.Ytldmeffhbabanaa.nums
open Go.RowKit Go.Proofs.Ytldmeffhbabanaa.math
set_option linter.unusedVariables false
set_option linter.unusedSimpArgs false

set_option maxHeartbeats 1000000 in
theorem value_const (d a b n : Int) (nb : Nat) (W : World) :
    Calls Try.prog 51 #[.pointer (some ⟨nb, 0, none⟩), .agg #[.int .i64 1, .int .i64 d, .int .i64 a, .int .i64 b, .int .i64 n]] W fun e W' => PairAns (kon n) W e W' := by
  go_enter Try.func51, Try.ntmps51
  go_wp2
  exact bodyPost_ret (v := .agg #[.int .i64 1, .int .i64 0, .int .i64 0, .int .i64 n]) (by simp only [results, Try.results51]; go_simp) rfl ⟨rfl, by go_grown⟩
set_option maxHeartbeats 1000000 in
theorem value_copy (d b n z0 z1 z2 z3 : Int) (j : Nat) (nb : Nat) (W : World) (hnb : nb < W.heap.size) (hj : (j : Int) < 8) (c0 : W.cell? ⟨nb, 1 + j * 4, none⟩ = some (.int .i64 z0)) (c1 : W.cell? ⟨nb, 1 + j * 4 + 1, none⟩ = some (.int .i64 z1)) (c2 : W.cell? ⟨nb, 1 + j * 4 + 2, none⟩ = some (.int .i64 z2)) (c3 : W.cell? ⟨nb, 1 + j * 4 + 3, none⟩ = some (.int .i64 z3)) :
    Calls Try.prog 51 #[.pointer (some ⟨nb, 0, none⟩), .agg #[.int .i64 2, .int .i64 d, .int .i64 (j : Int), .int .i64 b, .int .i64 n]] W fun e W' => PairAns (z0, z1, z2, z3) W e W' := by
  go_enter Try.func51, Try.ntmps51
  go_wp2
  go_region
  all_goals go_wp2
  all_goals exact bodyPost_ret (v := .agg #[.int .i64 z0, .int .i64 z1, .int .i64 z2, .int .i64 z3]) (by simp only [results, Try.results51]; go_simp) rfl ⟨rfl, by go_grown⟩
set_option maxHeartbeats 800000 in
theorem value_pair (o d n x0 x1 x2 x3 y0 y1 y2 y3 z0 z1 z2 z3 : Int) (j k : Nat) (nb mb : Nat) (vs ns : List V) (W : World) (o3 : 3 ≤ o) (o7 : o ≤ 7) (hj : (j : Int) < 8) (hk : (k : Int) < 8) (hN : Hid (Num W nb mb vs ns))
    (hx : Hid (ns.getD j zV = (x0, x1, x2, x3) ∧ okV (x0, x1, x2, x3) ∧ (x0, x1, x2, x3) ∈ vs)) (hy : Hid (ns.getD k zV = (y0, y1, y2, y3) ∧ okV (y0, y1, y2, y3) ∧ (y0, y1, y2, y3) ∈ vs)) (hz : Hid (pairV vs o (x0, x1, x2, x3) (y0, y1, y2, y3) = (z0, z1, z2, z3))) :
    Calls Try.prog 51 #[.pointer (some ⟨nb, 0, none⟩), .agg #[.int .i64 o, .int .i64 d, .int .i64 (j : Int), .int .i64 (k : Int), .int .i64 n]] W fun e W' => PairAns (z0, z1, z2, z3) W e W' := by
  have hnb := hN.out.1.lt
  have q1 : (o == 1) = false := by simp; omega
  have q2 : (o == 2) = false := by simp; omega
  have c0 := num_cell hN.out (j := j) (i := 0) (by omega) (by omega)
  have c1 := num_cell hN.out (j := j) (i := 1) (by omega) (by omega)
  have c2 := num_cell hN.out (j := j) (i := 2) (by omega) (by omega)
  have c3 := num_cell hN.out (j := j) (i := 3) (by omega) (by omega)
  have g0 := num_cell hN.out (j := k) (i := 0) (by omega) (by omega)
  have g1 := num_cell hN.out (j := k) (i := 1) (by omega) (by omega)
  have g2 := num_cell hN.out (j := k) (i := 2) (by omega) (by omega)
  have g3 := num_cell hN.out (j := k) (i := 3) (by omega) (by omega)
  rw [hx.out.1] at c0 c1 c2 c3
  rw [hy.out.1] at g0 g1 g2 g3
  simp only [Nat.add_zero, fldV] at c0 c1 c2 c3 g0 g1 g2 g3
  go_enter Try.func51, Try.ntmps51
  go_wp2_with fail
  refine wp_region_noPanic ?_
  refine wp_region_held_drew (S := fun w' => (w'.cell? ⟨W.heap.size, 0, none⟩ = some (.int .i64 o) ∧ w'.cell? ⟨W.heap.size, 2, none⟩ = some (.int .i64 (j : Int)) ∧ w'.cell? ⟨W.heap.size, 3, none⟩ = some (.int .i64 (k : Int))) ∧ (w'.cell? ⟨nb, 1 + j * 4, none⟩ = some (.int .i64 x0) ∧ w'.cell? ⟨nb, 1 + j * 4 + 1, none⟩ = some (.int .i64 x1) ∧ w'.cell? ⟨nb, 1 + j * 4 + 2, none⟩ = some (.int .i64 x2) ∧ w'.cell? ⟨nb, 1 + j * 4 + 3, none⟩ = some (.int .i64 x3)) ∧ (w'.cell? ⟨nb, 1 + k * 4, none⟩ = some (.int .i64 y0) ∧ w'.cell? ⟨nb, 1 + k * 4 + 1, none⟩ = some (.int .i64 y1) ∧ w'.cell? ⟨nb, 1 + k * 4 + 2, none⟩ = some (.int .i64 y2) ∧ w'.cell? ⟨nb, 1 + k * 4 + 3, none⟩ = some (.int .i64 y3))) (by kernel_rfl) ?_ (fun hHeld => ?_)
  · (try dsimp only); (refine ⟨⟨?_, ?_, ?_⟩, ⟨?_, ?_, ?_, ?_⟩, ?_, ?_, ?_, ?_⟩ <;> go_simp)
  refine wpAnyH_take (i := 0) (v := ?v1) rfl (by kernel_rfl) (by kernel_rfl) (by kernel_rfl) (fun _ _ _ h => h) (Or.inl ⟨by rfl, ?hy1⟩) (by assumption) ?_
  case hy1 => (intro w hSw; (try dsimp only at hSw); go_simp; try with_reducible rfl)
  try simp only [Act.put, List.setIfInBounds_toArray, List.set_cons_zero, List.set_cons_succ]
  refine wpAnyH_take (i := 1) (v := ?v2) rfl (by kernel_rfl) (by kernel_rfl) (by kernel_rfl) (fun _ _ _ h => h) (Or.inl ⟨by rfl, ?hy2⟩) (by assumption) ?_
  case hy2 => (intro w hSw; (try dsimp only at hSw); go_simp; try with_reducible rfl)
  try simp only [Act.put, List.setIfInBounds_toArray, List.set_cons_zero, List.set_cons_succ]
  refine wpAnyH_take (i := 2) (v := ?v3) rfl (by kernel_rfl) (by kernel_rfl) (by kernel_rfl) (fun _ _ _ h => h) (Or.inl ⟨by rfl, ?hy3⟩) (by assumption) ?_
  case hy3 => (intro w hSw; (try dsimp only at hSw); go_simp; try with_reducible rfl)
  try simp only [Act.put, List.setIfInBounds_toArray, List.set_cons_zero, List.set_cons_succ]
  refine wpAnyH_take (i := 3) (v := ?v4) rfl (by kernel_rfl) (by kernel_rfl) (by kernel_rfl) (fun _ _ _ h => h) (Or.inl ⟨by rfl, ?hy4⟩) (by assumption) ?_
  case hy4 => (intro w hSw; (try dsimp only at hSw); go_simp; try with_reducible rfl)
  try simp only [Act.put, List.setIfInBounds_toArray, List.set_cons_zero, List.set_cons_succ]
  refine wpAnyH_take (i := 4) (v := ?v5) rfl (by kernel_rfl) (by kernel_rfl) (by kernel_rfl) (fun _ _ _ h => h) (Or.inl ⟨by rfl, ?hy5⟩) (by assumption) ?_
  case hy5 => (intro w hSw; (try dsimp only at hSw); go_simp; try with_reducible rfl)
  try simp only [Act.put, List.setIfInBounds_toArray, List.set_cons_zero, List.set_cons_succ]
  refine wpAnyH_take (i := 5) (v := ?v6) rfl (by kernel_rfl) (by kernel_rfl) (by kernel_rfl) (fun _ _ _ h => h) (Or.inl ⟨by rfl, ?hy6⟩) (by assumption) ?_
  case hy6 => (intro w hSw; (try dsimp only at hSw); go_simp; try with_reducible rfl)
  try simp only [Act.put, List.setIfInBounds_toArray, List.set_cons_zero, List.set_cons_succ]
  refine wpAnyH_take (i := 6) (v := ?v7) rfl (by kernel_rfl) (by kernel_rfl) (by kernel_rfl) (fun _ _ _ h => h) (Or.inl ⟨by rfl, ?hy7⟩) (by assumption) ?_
  case hy7 => (intro w hSw; (try dsimp only at hSw); go_simp; try with_reducible rfl)
  try simp only [Act.put, List.setIfInBounds_toArray, List.set_cons_zero, List.set_cons_succ]
  refine wpAnyH_take (i := 7) (v := ?v8) rfl (by kernel_rfl) (by kernel_rfl) (by kernel_rfl) (fun _ _ _ h => h) (Or.inl ⟨by rfl, ?hy8⟩) (by assumption) ?_
  case hy8 => (intro w hSw; (try dsimp only at hSw); go_simp; try with_reducible rfl)
  try simp only [Act.put, List.setIfInBounds_toArray, List.set_cons_zero, List.set_cons_succ]
  refine wpAnyH_take (i := 8) (v := ?v9) rfl (by kernel_rfl) (by kernel_rfl) (by kernel_rfl) (fun _ _ _ h => h) (Or.inl ⟨by rfl, ?hy9⟩) (by assumption) ?_
  case hy9 => (intro w hSw; (try dsimp only at hSw); go_simp; try with_reducible rfl)
  try simp only [Act.put, List.setIfInBounds_toArray, List.set_cons_zero, List.set_cons_succ]
  refine wpAnyH_take (i := 9) (v := ?v10) rfl (by kernel_rfl) (by kernel_rfl) (by kernel_rfl) (fun _ _ _ h => h) (Or.inl ⟨by rfl, ?hy10⟩) (by assumption) ?_
  case hy10 => (intro w hSw; (try dsimp only at hSw); go_simp; try with_reducible rfl)
  try simp only [Act.put, List.setIfInBounds_toArray, List.set_cons_zero, List.set_cons_succ]
  refine wpAnyH_take (i := 10) (v := ?v11) rfl (by kernel_rfl) (by kernel_rfl) (by kernel_rfl) (fun _ _ _ h => h) (Or.inl ⟨by rfl, ?hy11⟩) (by assumption) ?_
  case hy11 => (intro w hSw; (try dsimp only at hSw); go_simp; try with_reducible rfl)
  try simp only [Act.put, List.setIfInBounds_toArray, List.set_cons_zero, List.set_cons_succ]
  refine wpAnyH_take (i := 11) (v := ?v12) rfl (by kernel_rfl) (by kernel_rfl) (by kernel_rfl) (fun _ _ _ h => h) (Or.inl ⟨by rfl, ?hy12⟩) (by assumption) ?_
  case hy12 => (intro w hSw; (try dsimp only at hSw); go_simp; try with_reducible rfl)
  try simp only [Act.put, List.setIfInBounds_toArray, List.set_cons_zero, List.set_cons_succ]
  refine wpAnyH_take (i := 12) (v := ?v13) rfl (by kernel_rfl) (by kernel_rfl) (by kernel_rfl) (fun _ _ _ h => h) (Or.inl ⟨by rfl, ?hy13⟩) (by assumption) ?_
  case hy13 => (intro w hSw; (try dsimp only at hSw); go_simp; try with_reducible rfl)
  try simp only [Act.put, List.setIfInBounds_toArray, List.set_cons_zero, List.set_cons_succ]
  refine wpAnyH_take (i := 13) (v := ?v14) rfl (by kernel_rfl) (by kernel_rfl) (by kernel_rfl) (fun _ _ _ h => h) (Or.inl ⟨by rfl, ?hy14⟩) (by assumption) ?_
  case hy14 => (intro w hSw; (try dsimp only at hSw); go_simp; try with_reducible rfl)
  try simp only [Act.put, List.setIfInBounds_toArray, List.set_cons_zero, List.set_cons_succ]
  refine wpAnyH_take (i := 14) (v := ?v15) rfl (by kernel_rfl) (by kernel_rfl) (by kernel_rfl) (fun _ _ _ h => h) (Or.inl ⟨by rfl, ?hy15⟩) (by assumption) ?_
  case hy15 => (intro w hSw; (try dsimp only at hSw); go_simp; try with_reducible rfl)
  try simp only [Act.put, List.setIfInBounds_toArray, List.set_cons_zero, List.set_cons_succ]
  refine wpAnyH_take (i := 15) (v := ?v16) rfl (by kernel_rfl) (by kernel_rfl) (by kernel_rfl) (fun _ _ _ h => h) (Or.inl ⟨by rfl, ?hy16⟩) (by assumption) ?_
  case hy16 => (intro w hSw; (try dsimp only at hSw); go_simp; try with_reducible rfl)
  try simp only [Act.put, List.setIfInBounds_toArray, List.set_cons_zero, List.set_cons_succ]
  refine wpAnyH_take (i := 16) (v := ?v17) rfl (by kernel_rfl) (by kernel_rfl) (by kernel_rfl) (fun _ _ _ h => h) (Or.inl ⟨by rfl, ?hy17⟩) (by assumption) ?_
  case hy17 => (intro w hSw; (try dsimp only at hSw); go_simp; try with_reducible rfl)
  try simp only [Act.put, List.setIfInBounds_toArray, List.set_cons_zero, List.set_cons_succ]
  refine wpAnyH_ready (rs := [17]) (by kernel_rfl) (by simp) ?_
  refine AllReadyH.cons rfl (fun K hK => ?_) AllReadyH.nil
  go_simp
  go_at_call 62
  refine (impl_pairV o (x0, x1, x2, x3) (y0, y1, y2, y3) nb mb vs ns _ o3 o7 (((hN.out.alloc _).alloc _).drew) hx.out.2.1 hx.out.2.2 hy.out.2.1 hy.out.2.2).mono ?_
  rintro e w' ⟨he, hb⟩
  rw [hz.out] at he
  simp only [vV] at he
  subst he
  have d0 : w'.cell? ⟨W.heap.size + 1, 0, none⟩ = some (.int .i64 0) := (hb.cell (p := ⟨W.heap.size + 1, 0, none⟩) (by simp <;> omega)).trans (by go_simp)
  have f0 : w'.frozen? ⟨W.heap.size + 1, 0, none⟩ = false := (hb.frozen (p := ⟨W.heap.size + 1, 0, none⟩) (by simp <;> omega)).trans (by go_simp)
  have d1 : w'.cell? ⟨W.heap.size + 1, 1, none⟩ = some (.int .i64 0) := (hb.cell (p := ⟨W.heap.size + 1, 1, none⟩) (by simp <;> omega)).trans (by go_simp)
  have f1 : w'.frozen? ⟨W.heap.size + 1, 1, none⟩ = false := (hb.frozen (p := ⟨W.heap.size + 1, 1, none⟩) (by simp <;> omega)).trans (by go_simp)
  have d2 : w'.cell? ⟨W.heap.size + 1, 2, none⟩ = some (.int .i64 0) := (hb.cell (p := ⟨W.heap.size + 1, 2, none⟩) (by simp <;> omega)).trans (by go_simp)
  have f2 : w'.frozen? ⟨W.heap.size + 1, 2, none⟩ = false := (hb.frozen (p := ⟨W.heap.size + 1, 2, none⟩) (by simp <;> omega)).trans (by go_simp)
  have d3 : w'.cell? ⟨W.heap.size + 1, 3, none⟩ = some (.int .i64 0) := (hb.cell (p := ⟨W.heap.size + 1, 3, none⟩) (by simp <;> omega)).trans (by go_simp)
  have f3 : w'.frozen? ⟨W.heap.size + 1, 3, none⟩ = false := (hb.frozen (p := ⟨W.heap.size + 1, 3, none⟩) (by simp <;> omega)).trans (by go_simp)
  have s0 : w'.cell? ⟨W.heap.size, 0, none⟩ = some (.int .i64 o) := (hb.cell (p := ⟨W.heap.size, 0, none⟩) (by simp <;> omega)).trans (by go_simp)
  have s2 : w'.cell? ⟨W.heap.size, 2, none⟩ = some (.int .i64 (j : Int)) := (hb.cell (p := ⟨W.heap.size, 2, none⟩) (by simp <;> omega)).trans (by go_simp)
  have s3 : w'.cell? ⟨W.heap.size, 3, none⟩ = some (.int .i64 (k : Int)) := (hb.cell (p := ⟨W.heap.size, 3, none⟩) (by simp <;> omega)).trans (by go_simp)
  have u0 : w'.cell? ⟨nb, 1 + j * 4, none⟩ = some (.int .i64 x0) := (hb.cell (p := ⟨nb, 1 + j * 4, none⟩) (by simp <;> omega)).trans (by go_simp)
  have u1 : w'.cell? ⟨nb, 1 + j * 4 + 1, none⟩ = some (.int .i64 x1) := (hb.cell (p := ⟨nb, 1 + j * 4 + 1, none⟩) (by simp <;> omega)).trans (by go_simp)
  have u2 : w'.cell? ⟨nb, 1 + j * 4 + 2, none⟩ = some (.int .i64 x2) := (hb.cell (p := ⟨nb, 1 + j * 4 + 2, none⟩) (by simp <;> omega)).trans (by go_simp)
  have u3 : w'.cell? ⟨nb, 1 + j * 4 + 3, none⟩ = some (.int .i64 x3) := (hb.cell (p := ⟨nb, 1 + j * 4 + 3, none⟩) (by simp <;> omega)).trans (by go_simp)
  have v0 : w'.cell? ⟨nb, 1 + k * 4, none⟩ = some (.int .i64 y0) := (hb.cell (p := ⟨nb, 1 + k * 4, none⟩) (by simp <;> omega)).trans (by go_simp)
  have v1 : w'.cell? ⟨nb, 1 + k * 4 + 1, none⟩ = some (.int .i64 y1) := (hb.cell (p := ⟨nb, 1 + k * 4 + 1, none⟩) (by simp <;> omega)).trans (by go_simp)
  have v2 : w'.cell? ⟨nb, 1 + k * 4 + 2, none⟩ = some (.int .i64 y2) := (hb.cell (p := ⟨nb, 1 + k * 4 + 2, none⟩) (by simp <;> omega)).trans (by go_simp)
  have v3 : w'.cell? ⟨nb, 1 + k * 4 + 3, none⟩ = some (.int .i64 y3) := (hb.cell (p := ⟨nb, 1 + k * 4 + 3, none⟩) (by simp <;> omega)).trans (by go_simp)
  have hlt : W.heap.size + 1 < w'.heap.size := by have := hb.size; simp at this; omega
  have hnl : nb < w'.heap.size := by omega
  have HB : Hid (Below W.heap.size W w') := (by show Below _ _ _; refine Below.trans ?_ (hb.mono (by simp <;> omega)); go_grown)
  clear hb
  go_wp2_with fail
  refine hK.out _ _ ?_ (fun hHeld => ?_)
  · (try dsimp only); exact ⟨⟨s0, s2, s3⟩, ⟨u0, u1, u2, u3⟩, v0, v1, v2, v3⟩
  clear hK K
  try simp only [Act.put, List.setIfInBounds_toArray, List.set_cons_zero, List.set_cons_succ]
  refine wpAnyH_ready (rs := [18]) (by kernel_rfl) (by simp) ?_
  refine AllReadyH.cons rfl (fun K hK => ?_) AllReadyH.nil
  go_simp
  refine hK.out _ _ ?_ (fun hHeld => ?_)
  · (try dsimp only); refine ⟨⟨?_, ?_, ?_⟩, ⟨?_, ?_, ?_, ?_⟩, ?_, ?_, ?_, ?_⟩ <;> go_simp
  clear hK K
  try simp only [Act.put, List.setIfInBounds_toArray, List.set_cons_zero, List.set_cons_succ]
  refine wpAnyH_done (by kernel_rfl) ?_ _
  refine NoPanic.normal ?_
  go_wp2_with fail
  refine bodyPost_ret (v := .agg #[.int .i64 z0, .int .i64 z1, .int .i64 z2, .int .i64 z3]) (by simp only [results, Try.results51]; go_simp) rfl ⟨rfl, ?_⟩
  refine Below.trans HB.out ?_
  go_grown
end Go.Proofs.Ytldmeffhbabanaa.nums
