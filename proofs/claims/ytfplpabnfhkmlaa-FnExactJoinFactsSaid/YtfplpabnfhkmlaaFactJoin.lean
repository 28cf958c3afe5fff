/-
  What two facts join to, of the program and of the specification; they make new memory alone.
-/
import Derived.Test.YtfplpabnfhkmlaaProg
import Derived.Test.YtfplpabnfhkmlaaFactGood
import Derived.WalkKit
import Derived.WalkSpells
import Derived.Deep.RegionWith
import Derived.Below
namespace Go.Proofs.Ytfplpabnfhkmlaa.walks
open Go.RowKit Go.Proofs.Ytfplpabnfhkmlaa.math
set_option linter.unusedVariables false


set_option maxRecDepth 100000 in
set_option maxHeartbeats 1000000 in
theorem spec_joinF (f g : Fv) (W : World) :
    Calls Try.prog 55 #[.agg #[.bool f.t, .bool f.k, .int .i64 f.n], .agg #[.bool g.t, .bool g.k, .int .i64 g.n]] W fun e W' => e = .returned (joinF f g).val ∧ Below W.heap.size W W' := by
  have qg := eqGF
  obtain ⟨t, k, n⟩ := f
  obtain ⟨t', k', n'⟩ := g
  show Calls _ _ #[.agg #[.bool t, .bool k, .int .i64 n], .agg #[.bool t', .bool k', .int .i64 n']] W _
  cases t
  rotate_left
  · have hv : (joinF ⟨true, k, n⟩ ⟨t', k', n'⟩).val = .agg #[.bool t', .bool k', .int .i64 n'] := by simp [joinF, Fv.val]
    rw [hv]
    go_enter Try.func55, Try.ntmps55
    go_wp2
    exact bodyPost_ret (v := .agg #[.bool t', .bool k', .int .i64 n']) (by simp [results, Try.results55, go_sem]) rfl ⟨rfl, by repeat (first | exact Below.refl _ _ | refine Below.drew ?_ | refine Below.setCell ?_ (by simp; try omega) _ | refine Below.alloc ?_ (by simp; try omega) _)⟩
  cases t'
  rotate_left
  · have hv : (joinF ⟨false, k, n⟩ ⟨true, k', n'⟩).val = .agg #[.bool false, .bool k, .int .i64 n] := by simp [joinF, Fv.val]
    rw [hv]
    go_enter Try.func55, Try.ntmps55
    go_wp2
    exact bodyPost_ret (v := .agg #[.bool false, .bool k, .int .i64 n]) (by simp [results, Try.results55, go_sem]) rfl ⟨rfl, by repeat (first | exact Below.refl _ _ | refine Below.drew ?_ | refine Below.setCell ?_ (by simp; try omega) _ | refine Below.alloc ?_ (by simp; try omega) _)⟩
  by_cases h : (⟨false, k, n⟩ : Fv) = ⟨false, k', n'⟩
  · have hv : (joinF ⟨false, k, n⟩ ⟨false, k', n'⟩).val = .agg #[.bool false, .bool k, .int .i64 n] := by rw [joinF, if_neg (by simp), if_pos (Or.inr h)]; rfl
    rw [hv]
    have q : ∀ w : World, (binOp .eql 53 (.agg #[.bool false, .bool k, .int .i64 n]) (.agg #[.bool false, .bool k', .int .i64 n'])).run Try.prog w = .ok (.bool true) w := fun w => by rw [eqF, decide_eq_true h]
    clear h hv
    go_enter Try.func55, Try.ntmps55
    go_wp2
    exact bodyPost_ret (v := .agg #[.bool false, .bool k, .int .i64 n]) (by simp [results, Try.results55, go_sem]) rfl ⟨rfl, by repeat (first | exact Below.refl _ _ | refine Below.drew ?_ | refine Below.setCell ?_ (by simp; try omega) _ | refine Below.alloc ?_ (by simp; try omega) _)⟩
  · have hv : (joinF ⟨false, k, n⟩ ⟨false, k', n'⟩).val = .agg #[.bool false, .bool false, .int .i64 0] := by rw [joinF, if_neg (by simp), if_neg (by simpa using h)]; rfl
    rw [hv]
    have q : ∀ w : World, (binOp .eql 53 (.agg #[.bool false, .bool k, .int .i64 n]) (.agg #[.bool false, .bool k', .int .i64 n'])).run Try.prog w = .ok (.bool false) w := fun w => by rw [eqF, decide_eq_false h]
    clear h hv
    go_enter Try.func55, Try.ntmps55
    go_wp2
    exact bodyPost_ret (v := .agg #[.bool false, .bool false, .int .i64 0]) (by simp [results, Try.results55, go_sem]) rfl ⟨rfl, by repeat (first | exact Below.refl _ _ | refine Below.drew ?_ | refine Below.setCell ?_ (by simp; try omega) _ | refine Below.alloc ?_ (by simp; try omega) _)⟩


set_option maxRecDepth 100000 in
set_option maxHeartbeats 1000000 in
theorem impl_joinF (f g : Fv) (W : World) :
    Calls Try.prog 57 #[.agg #[.bool f.t, .bool f.k, .int .i64 f.n], .agg #[.bool g.t, .bool g.k, .int .i64 g.n]] W fun e W' => e = .returned (joinF f g).val ∧ Below W.heap.size W W' := by
  have qg := eqGF
  obtain ⟨t, k, n⟩ := f
  obtain ⟨t', k', n'⟩ := g
  show Calls _ _ #[.agg #[.bool t, .bool k, .int .i64 n], .agg #[.bool t', .bool k', .int .i64 n']] W _
  cases t
  rotate_left
  · have hv : (joinF ⟨true, k, n⟩ ⟨t', k', n'⟩).val = .agg #[.bool t', .bool k', .int .i64 n'] := by simp [joinF, Fv.val]
    rw [hv]
    go_enter Try.func57, Try.ntmps57
    go_wp2
    exact bodyPost_ret (v := .agg #[.bool t', .bool k', .int .i64 n']) (by simp [results, Try.results57, go_sem]) rfl ⟨rfl, by repeat (first | exact Below.refl _ _ | refine Below.drew ?_ | refine Below.setCell ?_ (by simp; try omega) _ | refine Below.alloc ?_ (by simp; try omega) _)⟩
  cases t'
  rotate_left
  · have hv : (joinF ⟨false, k, n⟩ ⟨true, k', n'⟩).val = .agg #[.bool false, .bool k, .int .i64 n] := by simp [joinF, Fv.val]
    rw [hv]
    go_enter Try.func57, Try.ntmps57
    go_wp2
    exact bodyPost_ret (v := .agg #[.bool false, .bool k, .int .i64 n]) (by simp [results, Try.results57, go_sem]) rfl ⟨rfl, by repeat (first | exact Below.refl _ _ | refine Below.drew ?_ | refine Below.setCell ?_ (by simp; try omega) _ | refine Below.alloc ?_ (by simp; try omega) _)⟩
  by_cases h : (⟨false, k, n⟩ : Fv) = ⟨false, k', n'⟩
  · have hv : (joinF ⟨false, k, n⟩ ⟨false, k', n'⟩).val = .agg #[.bool false, .bool k, .int .i64 n] := by rw [joinF, if_neg (by simp), if_pos (Or.inr h)]; rfl
    rw [hv]
    have q : ∀ w : World, (binOp .eql 53 (.agg #[.bool false, .bool k, .int .i64 n]) (.agg #[.bool false, .bool k', .int .i64 n'])).run Try.prog w = .ok (.bool true) w := fun w => by rw [eqF, decide_eq_true h]
    clear h hv
    go_enter Try.func57, Try.ntmps57
    go_wp2
    exact bodyPost_ret (v := .agg #[.bool false, .bool k, .int .i64 n]) (by simp [results, Try.results57, go_sem]) rfl ⟨rfl, by repeat (first | exact Below.refl _ _ | refine Below.drew ?_ | refine Below.setCell ?_ (by simp; try omega) _ | refine Below.alloc ?_ (by simp; try omega) _)⟩
  · have hv : (joinF ⟨false, k, n⟩ ⟨false, k', n'⟩).val = .agg #[.bool false, .bool false, .int .i64 0] := by rw [joinF, if_neg (by simp), if_neg (by simpa using h)]; rfl
    rw [hv]
    have q : ∀ w : World, (binOp .eql 53 (.agg #[.bool false, .bool k, .int .i64 n]) (.agg #[.bool false, .bool k', .int .i64 n'])).run Try.prog w = .ok (.bool false) w := fun w => by rw [eqF, decide_eq_false h]
    clear h hv
    go_enter Try.func57, Try.ntmps57
    go_wp2
    exact bodyPost_ret (v := .agg #[.bool false, .bool false, .int .i64 0]) (by simp [results, Try.results57, go_sem]) rfl ⟨rfl, by repeat (first | exact Below.refl _ _ | refine Below.drew ?_ | refine Below.setCell ?_ (by simp; try omega) _ | refine Below.alloc ?_ (by simp; try omega) _)⟩


set_option maxRecDepth 100000 in
set_option maxHeartbeats 1000000 in
theorem spec_joins (f g : Fv) (W : World) :
    Calls Try.prog 34 #[.agg #[.bool f.t, .bool f.k, .int .i64 f.n], .agg #[.bool g.t, .bool g.k, .int .i64 g.n]] W fun e W' => e = .returned (.tuple #[(joinsV f g).val, .bool (f.good && g.good)]) ∧ Below W.heap.size W W' := by
  go_enter Try.func34, Try.ntmps34
  go_wp2_with fail
  refine (spec_goodF _ _ _ _).mono ?_
  rintro e w1 ⟨rfl, B1⟩
  have B0 : Below W.heap.size W w1 := bel2 (by repeat (first | exact Below.refl _ _ | refine Below.drew ?_ | refine Below.setCell ?_ (by simp; try omega) _ | refine Below.alloc ?_ (by simp; try omega) _)) B1
  have hs := B1.size
  simp at hs
  obtain ⟨c1, y1⟩ := bcellF B1
  have z0w1 : w1.cell? ⟨W.heap.size + 1 + 1, 0, none⟩ = some (.bool false) := by rw [c1 (W.heap.size + 1 + 1) 0 (by simp)]; go_simp
  have x0w1 : w1.frozen? ⟨W.heap.size + 1 + 1, 0, none⟩ = false := by rw [y1 (W.heap.size + 1 + 1) 0 (by simp)]; go_simp
  have z1w1 : w1.cell? ⟨W.heap.size + 1 + 1, 1, none⟩ = some (.bool false) := by rw [c1 (W.heap.size + 1 + 1) 1 (by simp)]; go_simp
  have x1w1 : w1.frozen? ⟨W.heap.size + 1 + 1, 1, none⟩ = false := by rw [y1 (W.heap.size + 1 + 1) 1 (by simp)]; go_simp
  have z2w1 : w1.cell? ⟨W.heap.size + 1 + 1, 2, none⟩ = some (.int .i64 0) := by rw [c1 (W.heap.size + 1 + 1) 2 (by simp)]; go_simp
  have x2w1 : w1.frozen? ⟨W.heap.size + 1 + 1, 2, none⟩ = false := by rw [y1 (W.heap.size + 1 + 1) 2 (by simp)]; go_simp
  have p0w1 : w1.cell? ⟨W.heap.size, 0, none⟩ = some (.bool f.t) := by rw [c1 (W.heap.size) 0 (by simp <;> omega)]; go_simp
  have p1w1 : w1.cell? ⟨W.heap.size, 1, none⟩ = some (.bool f.k) := by rw [c1 (W.heap.size) 1 (by simp <;> omega)]; go_simp
  have p2w1 : w1.cell? ⟨W.heap.size, 2, none⟩ = some (.int .i64 f.n) := by rw [c1 (W.heap.size) 2 (by simp <;> omega)]; go_simp
  have o0w1 : w1.cell? ⟨W.heap.size + 1, 0, none⟩ = some (.bool g.t) := by rw [c1 (W.heap.size + 1) 0 (by simp <;> omega)]; go_simp
  have o1w1 : w1.cell? ⟨W.heap.size + 1, 1, none⟩ = some (.bool g.k) := by rw [c1 (W.heap.size + 1) 1 (by simp <;> omega)]; go_simp
  have o2w1 : w1.cell? ⟨W.heap.size + 1, 2, none⟩ = some (.int .i64 g.n) := by rw [c1 (W.heap.size + 1) 2 (by simp <;> omega)]; go_simp
  clear B1 c1 y1
  cases hf : goodF f.t f.k f.n
  · go_wp2
    refine bodyPost_ret (v := .tuple #[.agg #[.bool false, .bool false, .int .i64 0], .bool false]) (by simp only [results, Try.results34]; go_simp) rfl ⟨?_, by refine Below.trans B0 ?_; repeat (first | exact Below.refl _ _ | refine Below.drew ?_ | refine Below.setCell ?_ (by simp; try omega) _ | refine Below.alloc ?_ (by simp; try omega) _)⟩
    simp [joinsV, Fv.good, hf, any, Fv.val]
  go_wp2_with fail
  refine (spec_goodF _ _ _ _).mono ?_
  rintro e w2 ⟨rfl, B2⟩
  have B3 : Below W.heap.size W w2 := bel2 B0 B2
  have hs2 : W.heap.size + 1 + 1 + 1 ≤ w2.heap.size := Nat.le_trans hs B2.size
  obtain ⟨c2, y2⟩ := bcellF B2
  have z0w2 : w2.cell? ⟨W.heap.size + 1 + 1, 0, none⟩ = some (.bool false) := (c2 _ _ (by omega)).trans z0w1
  have x0w2 : w2.frozen? ⟨W.heap.size + 1 + 1, 0, none⟩ = false := (y2 _ _ (by omega)).trans x0w1
  have z1w2 : w2.cell? ⟨W.heap.size + 1 + 1, 1, none⟩ = some (.bool false) := (c2 _ _ (by omega)).trans z1w1
  have x1w2 : w2.frozen? ⟨W.heap.size + 1 + 1, 1, none⟩ = false := (y2 _ _ (by omega)).trans x1w1
  have z2w2 : w2.cell? ⟨W.heap.size + 1 + 1, 2, none⟩ = some (.int .i64 0) := (c2 _ _ (by omega)).trans z2w1
  have x2w2 : w2.frozen? ⟨W.heap.size + 1 + 1, 2, none⟩ = false := (y2 _ _ (by omega)).trans x2w1
  have p0w2 : w2.cell? ⟨W.heap.size, 0, none⟩ = some (.bool f.t) := (c2 _ _ (by omega)).trans p0w1
  have p1w2 : w2.cell? ⟨W.heap.size, 1, none⟩ = some (.bool f.k) := (c2 _ _ (by omega)).trans p1w1
  have p2w2 : w2.cell? ⟨W.heap.size, 2, none⟩ = some (.int .i64 f.n) := (c2 _ _ (by omega)).trans p2w1
  have o0w2 : w2.cell? ⟨W.heap.size + 1, 0, none⟩ = some (.bool g.t) := (c2 _ _ (by omega)).trans o0w1
  have o1w2 : w2.cell? ⟨W.heap.size + 1, 1, none⟩ = some (.bool g.k) := (c2 _ _ (by omega)).trans o1w1
  have o2w2 : w2.cell? ⟨W.heap.size + 1, 2, none⟩ = some (.int .i64 g.n) := (c2 _ _ (by omega)).trans o2w1
  clear z0w1 x0w1 p0w1 o0w1 z1w1 x1w1 p1w1 o1w1 z2w1 x2w1 p2w1 o2w1
  clear B2 c2 y2
  cases hg : goodF g.t g.k g.n
  · go_wp2
    refine bodyPost_ret (v := .tuple #[.agg #[.bool false, .bool false, .int .i64 0], .bool false]) (by simp only [results, Try.results34]; go_simp) rfl ⟨?_, by refine Below.trans B3 ?_; repeat (first | exact Below.refl _ _ | refine Below.drew ?_ | refine Below.setCell ?_ (by simp; try omega) _ | refine Below.alloc ?_ (by simp; try omega) _)⟩
    simp [joinsV, Fv.good, hf, hg, any, Fv.val]
  go_wp2_with fail
  refine (spec_joinF f g _).mono ?_
  rintro e w4 ⟨rfl, B4⟩
  have B5 : Below W.heap.size W w4 := bel2 B3 B4
  have hs4 : W.heap.size + 1 + 1 + 1 ≤ w4.heap.size := Nat.le_trans hs2 B4.size
  obtain ⟨c4, y4⟩ := bcellF B4
  have z0w4 : w4.cell? ⟨W.heap.size + 1 + 1, 0, none⟩ = some (.bool false) := (c4 _ _ (by omega)).trans z0w2
  have x0w4 : w4.frozen? ⟨W.heap.size + 1 + 1, 0, none⟩ = false := (y4 _ _ (by omega)).trans x0w2
  have z1w4 : w4.cell? ⟨W.heap.size + 1 + 1, 1, none⟩ = some (.bool false) := (c4 _ _ (by omega)).trans z1w2
  have x1w4 : w4.frozen? ⟨W.heap.size + 1 + 1, 1, none⟩ = false := (y4 _ _ (by omega)).trans x1w2
  have z2w4 : w4.cell? ⟨W.heap.size + 1 + 1, 2, none⟩ = some (.int .i64 0) := (c4 _ _ (by omega)).trans z2w2
  have x2w4 : w4.frozen? ⟨W.heap.size + 1 + 1, 2, none⟩ = false := (y4 _ _ (by omega)).trans x2w2
  have p0w4 : w4.cell? ⟨W.heap.size, 0, none⟩ = some (.bool f.t) := (c4 _ _ (by omega)).trans p0w2
  have p1w4 : w4.cell? ⟨W.heap.size, 1, none⟩ = some (.bool f.k) := (c4 _ _ (by omega)).trans p1w2
  have p2w4 : w4.cell? ⟨W.heap.size, 2, none⟩ = some (.int .i64 f.n) := (c4 _ _ (by omega)).trans p2w2
  have o0w4 : w4.cell? ⟨W.heap.size + 1, 0, none⟩ = some (.bool g.t) := (c4 _ _ (by omega)).trans o0w2
  have o1w4 : w4.cell? ⟨W.heap.size + 1, 1, none⟩ = some (.bool g.k) := (c4 _ _ (by omega)).trans o1w2
  have o2w4 : w4.cell? ⟨W.heap.size + 1, 2, none⟩ = some (.int .i64 g.n) := (c4 _ _ (by omega)).trans o2w2
  clear z0w2 x0w2 p0w2 o0w2 z1w2 x1w2 p1w2 o1w2 z2w2 x2w2 p2w2 o2w2
  clear B4 c4 y4
  rcases hj : joinF f g with ⟨t, k, n⟩
  simp only [Fv.val]
  go_wp2
  refine bodyPost_ret (v := .tuple #[.agg #[.bool t, .bool k, .int .i64 n], .bool true]) (by simp only [results, Try.results34]; go_simp) rfl ⟨?_, by refine Below.trans B5 ?_; repeat (first | exact Below.refl _ _ | refine Below.drew ?_ | refine Below.setCell ?_ (by simp; try omega) _ | refine Below.alloc ?_ (by simp; try omega) _)⟩
  simp [joinsV, Fv.good, hf, hg, hj, Fv.val]


set_option maxRecDepth 100000 in
set_option maxHeartbeats 1000000 in
theorem impl_joins (f g : Fv) (W : World) :
    Calls Try.prog 36 #[.agg #[.bool f.t, .bool f.k, .int .i64 f.n], .agg #[.bool g.t, .bool g.k, .int .i64 g.n]] W fun e W' => e = .returned (.tuple #[(joinsV f g).val, .bool (f.good && g.good)]) ∧ Below W.heap.size W W' := by
  go_enter Try.func36, Try.ntmps36
  go_wp2_with fail
  refine (impl_goodF _ _ _ _).mono ?_
  rintro e w1 ⟨rfl, B1⟩
  have B0 : Below W.heap.size W w1 := bel2 (by repeat (first | exact Below.refl _ _ | refine Below.drew ?_ | refine Below.setCell ?_ (by simp; try omega) _ | refine Below.alloc ?_ (by simp; try omega) _)) B1
  have hs := B1.size
  simp at hs
  obtain ⟨c1, y1⟩ := bcellF B1
  have z0w1 : w1.cell? ⟨W.heap.size + 1 + 1, 0, none⟩ = some (.bool false) := by rw [c1 (W.heap.size + 1 + 1) 0 (by simp)]; go_simp
  have x0w1 : w1.frozen? ⟨W.heap.size + 1 + 1, 0, none⟩ = false := by rw [y1 (W.heap.size + 1 + 1) 0 (by simp)]; go_simp
  have z1w1 : w1.cell? ⟨W.heap.size + 1 + 1, 1, none⟩ = some (.bool false) := by rw [c1 (W.heap.size + 1 + 1) 1 (by simp)]; go_simp
  have x1w1 : w1.frozen? ⟨W.heap.size + 1 + 1, 1, none⟩ = false := by rw [y1 (W.heap.size + 1 + 1) 1 (by simp)]; go_simp
  have z2w1 : w1.cell? ⟨W.heap.size + 1 + 1, 2, none⟩ = some (.int .i64 0) := by rw [c1 (W.heap.size + 1 + 1) 2 (by simp)]; go_simp
  have x2w1 : w1.frozen? ⟨W.heap.size + 1 + 1, 2, none⟩ = false := by rw [y1 (W.heap.size + 1 + 1) 2 (by simp)]; go_simp
  have p0w1 : w1.cell? ⟨W.heap.size, 0, none⟩ = some (.bool f.t) := by rw [c1 (W.heap.size) 0 (by simp <;> omega)]; go_simp
  have p1w1 : w1.cell? ⟨W.heap.size, 1, none⟩ = some (.bool f.k) := by rw [c1 (W.heap.size) 1 (by simp <;> omega)]; go_simp
  have p2w1 : w1.cell? ⟨W.heap.size, 2, none⟩ = some (.int .i64 f.n) := by rw [c1 (W.heap.size) 2 (by simp <;> omega)]; go_simp
  have o0w1 : w1.cell? ⟨W.heap.size + 1, 0, none⟩ = some (.bool g.t) := by rw [c1 (W.heap.size + 1) 0 (by simp <;> omega)]; go_simp
  have o1w1 : w1.cell? ⟨W.heap.size + 1, 1, none⟩ = some (.bool g.k) := by rw [c1 (W.heap.size + 1) 1 (by simp <;> omega)]; go_simp
  have o2w1 : w1.cell? ⟨W.heap.size + 1, 2, none⟩ = some (.int .i64 g.n) := by rw [c1 (W.heap.size + 1) 2 (by simp <;> omega)]; go_simp
  clear B1 c1 y1
  cases hf : goodF f.t f.k f.n
  · go_wp2
    refine bodyPost_ret (v := .tuple #[.agg #[.bool false, .bool false, .int .i64 0], .bool false]) (by simp only [results, Try.results36]; go_simp) rfl ⟨?_, by refine Below.trans B0 ?_; repeat (first | exact Below.refl _ _ | refine Below.drew ?_ | refine Below.setCell ?_ (by simp; try omega) _ | refine Below.alloc ?_ (by simp; try omega) _)⟩
    simp [joinsV, Fv.good, hf, any, Fv.val]
  go_wp2_with fail
  refine (impl_goodF _ _ _ _).mono ?_
  rintro e w2 ⟨rfl, B2⟩
  have B3 : Below W.heap.size W w2 := bel2 B0 B2
  have hs2 : W.heap.size + 1 + 1 + 1 ≤ w2.heap.size := Nat.le_trans hs B2.size
  obtain ⟨c2, y2⟩ := bcellF B2
  have z0w2 : w2.cell? ⟨W.heap.size + 1 + 1, 0, none⟩ = some (.bool false) := (c2 _ _ (by omega)).trans z0w1
  have x0w2 : w2.frozen? ⟨W.heap.size + 1 + 1, 0, none⟩ = false := (y2 _ _ (by omega)).trans x0w1
  have z1w2 : w2.cell? ⟨W.heap.size + 1 + 1, 1, none⟩ = some (.bool false) := (c2 _ _ (by omega)).trans z1w1
  have x1w2 : w2.frozen? ⟨W.heap.size + 1 + 1, 1, none⟩ = false := (y2 _ _ (by omega)).trans x1w1
  have z2w2 : w2.cell? ⟨W.heap.size + 1 + 1, 2, none⟩ = some (.int .i64 0) := (c2 _ _ (by omega)).trans z2w1
  have x2w2 : w2.frozen? ⟨W.heap.size + 1 + 1, 2, none⟩ = false := (y2 _ _ (by omega)).trans x2w1
  have p0w2 : w2.cell? ⟨W.heap.size, 0, none⟩ = some (.bool f.t) := (c2 _ _ (by omega)).trans p0w1
  have p1w2 : w2.cell? ⟨W.heap.size, 1, none⟩ = some (.bool f.k) := (c2 _ _ (by omega)).trans p1w1
  have p2w2 : w2.cell? ⟨W.heap.size, 2, none⟩ = some (.int .i64 f.n) := (c2 _ _ (by omega)).trans p2w1
  have o0w2 : w2.cell? ⟨W.heap.size + 1, 0, none⟩ = some (.bool g.t) := (c2 _ _ (by omega)).trans o0w1
  have o1w2 : w2.cell? ⟨W.heap.size + 1, 1, none⟩ = some (.bool g.k) := (c2 _ _ (by omega)).trans o1w1
  have o2w2 : w2.cell? ⟨W.heap.size + 1, 2, none⟩ = some (.int .i64 g.n) := (c2 _ _ (by omega)).trans o2w1
  clear z0w1 x0w1 p0w1 o0w1 z1w1 x1w1 p1w1 o1w1 z2w1 x2w1 p2w1 o2w1
  clear B2 c2 y2
  cases hg : goodF g.t g.k g.n
  · go_wp2
    refine bodyPost_ret (v := .tuple #[.agg #[.bool false, .bool false, .int .i64 0], .bool false]) (by simp only [results, Try.results36]; go_simp) rfl ⟨?_, by refine Below.trans B3 ?_; repeat (first | exact Below.refl _ _ | refine Below.drew ?_ | refine Below.setCell ?_ (by simp; try omega) _ | refine Below.alloc ?_ (by simp; try omega) _)⟩
    simp [joinsV, Fv.good, hf, hg, any, Fv.val]
  go_wp2_with fail
  refine (impl_joinF f g _).mono ?_
  rintro e w4 ⟨rfl, B4⟩
  have B5 : Below W.heap.size W w4 := bel2 B3 B4
  have hs4 : W.heap.size + 1 + 1 + 1 ≤ w4.heap.size := Nat.le_trans hs2 B4.size
  obtain ⟨c4, y4⟩ := bcellF B4
  have z0w4 : w4.cell? ⟨W.heap.size + 1 + 1, 0, none⟩ = some (.bool false) := (c4 _ _ (by omega)).trans z0w2
  have x0w4 : w4.frozen? ⟨W.heap.size + 1 + 1, 0, none⟩ = false := (y4 _ _ (by omega)).trans x0w2
  have z1w4 : w4.cell? ⟨W.heap.size + 1 + 1, 1, none⟩ = some (.bool false) := (c4 _ _ (by omega)).trans z1w2
  have x1w4 : w4.frozen? ⟨W.heap.size + 1 + 1, 1, none⟩ = false := (y4 _ _ (by omega)).trans x1w2
  have z2w4 : w4.cell? ⟨W.heap.size + 1 + 1, 2, none⟩ = some (.int .i64 0) := (c4 _ _ (by omega)).trans z2w2
  have x2w4 : w4.frozen? ⟨W.heap.size + 1 + 1, 2, none⟩ = false := (y4 _ _ (by omega)).trans x2w2
  have p0w4 : w4.cell? ⟨W.heap.size, 0, none⟩ = some (.bool f.t) := (c4 _ _ (by omega)).trans p0w2
  have p1w4 : w4.cell? ⟨W.heap.size, 1, none⟩ = some (.bool f.k) := (c4 _ _ (by omega)).trans p1w2
  have p2w4 : w4.cell? ⟨W.heap.size, 2, none⟩ = some (.int .i64 f.n) := (c4 _ _ (by omega)).trans p2w2
  have o0w4 : w4.cell? ⟨W.heap.size + 1, 0, none⟩ = some (.bool g.t) := (c4 _ _ (by omega)).trans o0w2
  have o1w4 : w4.cell? ⟨W.heap.size + 1, 1, none⟩ = some (.bool g.k) := (c4 _ _ (by omega)).trans o1w2
  have o2w4 : w4.cell? ⟨W.heap.size + 1, 2, none⟩ = some (.int .i64 g.n) := (c4 _ _ (by omega)).trans o2w2
  clear z0w2 x0w2 p0w2 o0w2 z1w2 x1w2 p1w2 o1w2 z2w2 x2w2 p2w2 o2w2
  clear B4 c4 y4
  rcases hj : joinF f g with ⟨t, k, n⟩
  simp only [Fv.val]
  go_wp2
  refine bodyPost_ret (v := .tuple #[.agg #[.bool t, .bool k, .int .i64 n], .bool true]) (by simp only [results, Try.results36]; go_simp) rfl ⟨?_, by refine Below.trans B5 ?_; repeat (first | exact Below.refl _ _ | refine Below.drew ?_ | refine Below.setCell ?_ (by simp; try omega) _ | refine Below.alloc ?_ (by simp; try omega) _)⟩
  simp [joinsV, Fv.good, hf, hg, hj, Fv.val]

end Go.Proofs.Ytfplpabnfhkmlaa.walks
