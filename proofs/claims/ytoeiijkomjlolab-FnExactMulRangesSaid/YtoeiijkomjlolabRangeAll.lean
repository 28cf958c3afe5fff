/-
  What the program and the specification answer of two ranges, at every two, and of a range and a word; they make new memory alone.
-/
import Derived.Test.YtoeiijkomjlolabProg
import Derived.Test.YtoeiijkomjlolabRangeGood
import Derived.Test.YtoeiijkomjlolabRangeOps
import Derived.Test.YtoeiijkomjlolabRangeTwo
import Derived.WalkKit
import Derived.WalkSpells
import Derived.Deep.RegionWith
import Derived.Deep.DeepFit
import Derived.Below
namespace Go.Proofs.Ytoeiijkomjlolab.walks
open Go.RowKit Go.Proofs.Ytoeiijkomjlolab.math
set_option linter.unusedVariables false
set_option linter.unusedSimpArgs false
/-- The answer where both are good, and no range where one is not. -/
def bothR (op : Rv → Rv → Rv) (f g : Rv) : Rv := if f.good = true ∧ g.good = true then op f g else ⟨false, 0, 0⟩
set_option maxRecDepth 100000 in
theorem impl_pairR (f g : Rv) (W : World) : Calls Try.prog 41 #[.agg #[.bool f.e, .int .i64 f.lo, .int .i64 f.hi], .agg #[.bool g.e, .int .i64 g.lo, .int .i64 g.hi]] W fun e W' => e = .returned (.bool (f.good && g.good)) ∧ Below W.heap.size W W' := by
  have P : ∀ W', Calls Try.prog 69 #[.agg #[.bool f.e, .int .i64 f.lo, .int .i64 f.hi]] W' fun e W'' => e = .returned (.bool f.good) ∧ Below W'.heap.size W' W'' := fun W' => impl_goodR f.e f.lo f.hi W'
  have P2 : ∀ W', Calls Try.prog 69 #[.agg #[.bool g.e, .int .i64 g.lo, .int .i64 g.hi]] W' fun e W'' => e = .returned (.bool g.good) ∧ Below W'.heap.size W' W'' := fun W' => impl_goodR g.e g.lo g.hi W'
  cases hf : f.good
  · rw [hf] at P
    go_enter Try.func41, Try.ntmps41
    go_wp2_with fail
    refine (P _).mono ?_
    rintro e w1 ⟨rfl, B1⟩
    obtain ⟨c1, y1⟩ := bcellR B1
    go_wp2
    go_ret
    exact ⟨rfl, belR (by repeat (first | exact Below.refl _ _ | refine Below.drew ?_ | refine Below.setCell ?_ (by simp; try omega) _ | refine Below.alloc ?_ (by simp; try omega) _)) B1⟩
  · rw [hf] at P
    go_enter Try.func41, Try.ntmps41
    go_wp2_with fail
    refine (P _).mono ?_
    rintro e w1 ⟨rfl, B1⟩
    obtain ⟨c1, y1⟩ := bcellR B1
    go_wp2_with fail
    refine (P2 _).mono ?_
    rintro e w2 ⟨rfl, B2⟩
    go_wp2
    go_ret
    exact ⟨by simp, belR (belR (by repeat (first | exact Below.refl _ _ | refine Below.drew ?_ | refine Below.setCell ?_ (by simp; try omega) _ | refine Below.alloc ?_ (by simp; try omega) _)) B1) B2⟩

set_option maxRecDepth 100000 in
set_option maxHeartbeats 4000000 in
theorem spec_Meet (f g : Rv) (W : World) : Calls Try.prog 9 #[.agg #[.bool f.e, .int .i64 f.lo, .int .i64 f.hi], .agg #[.bool g.e, .int .i64 g.lo, .int .i64 g.hi]] W fun e W' => e = .returned (.tuple #[.agg #[.bool (bothR meetR f g).e, .int .i64 (bothR meetR f g).lo, .int .i64 (bothR meetR f g).hi], .bool (f.good && g.good)]) ∧ Below W.heap.size W W' := by
  have P3 : ∀ W', Calls Try.prog 40 #[.agg #[.bool f.e, .int .i64 f.lo, .int .i64 f.hi], .agg #[.bool g.e, .int .i64 g.lo, .int .i64 g.hi]] W' fun e W'' => e = .returned (.agg #[.bool (meetR f g).e, .int .i64 (meetR f g).lo, .int .i64 (meetR f g).hi]) ∧ Below W'.heap.size W' W'' := fun W' => spec_meet6 f g W'
  have P : ∀ W', Calls Try.prog 39 #[.agg #[.bool f.e, .int .i64 f.lo, .int .i64 f.hi]] W' fun e W'' => e = .returned (.bool f.good) ∧ Below W'.heap.size W' W'' := fun W' => spec_goodR f.e f.lo f.hi W'
  have P2 : ∀ W', Calls Try.prog 39 #[.agg #[.bool g.e, .int .i64 g.lo, .int .i64 g.hi]] W' fun e W'' => e = .returned (.bool g.good) ∧ Below W'.heap.size W' W'' := fun W' => spec_goodR g.e g.lo g.hi W'
  go_enter Try.func9, Try.ntmps9
  go_wp2_with fail
  refine (P _).mono ?_
  rintro e w1 ⟨rfl, B1⟩
  have B0 : Below W.heap.size W w1 := belR (by repeat (first | exact Below.refl _ _ | refine Below.drew ?_ | refine Below.setCell ?_ (by simp; try omega) _ | refine Below.alloc ?_ (by simp; try omega) _)) B1
  have hs := B1.size
  simp at hs
  obtain ⟨c_w1, y_w1⟩ := bcellR B1
  have p0w1 : w1.cell? ⟨W.heap.size, 0, none⟩ = some (.bool f.e) := by rw [c_w1 (W.heap.size) 0 (by simp <;> omega)]; go_simp
  have p1w1 : w1.cell? ⟨W.heap.size, 1, none⟩ = some (.int .i64 f.lo) := by rw [c_w1 (W.heap.size) 1 (by simp <;> omega)]; go_simp
  have p2w1 : w1.cell? ⟨W.heap.size, 2, none⟩ = some (.int .i64 f.hi) := by rw [c_w1 (W.heap.size) 2 (by simp <;> omega)]; go_simp
  have o0w1 : w1.cell? ⟨W.heap.size + 1, 0, none⟩ = some (.bool g.e) := by rw [c_w1 (W.heap.size + 1) 0 (by simp <;> omega)]; go_simp
  have o1w1 : w1.cell? ⟨W.heap.size + 1, 1, none⟩ = some (.int .i64 g.lo) := by rw [c_w1 (W.heap.size + 1) 1 (by simp <;> omega)]; go_simp
  have o2w1 : w1.cell? ⟨W.heap.size + 1, 2, none⟩ = some (.int .i64 g.hi) := by rw [c_w1 (W.heap.size + 1) 2 (by simp <;> omega)]; go_simp
  have z0w1 : w1.cell? ⟨W.heap.size + 1 + 1, 0, none⟩ = some (.bool false) := by rw [c_w1 (W.heap.size + 1 + 1) 0 (by simp <;> omega)]; go_simp
  have x0w1 : w1.frozen? ⟨W.heap.size + 1 + 1, 0, none⟩ = false := by rw [y_w1 (W.heap.size + 1 + 1) 0 (by simp <;> omega)]; go_simp
  have z1w1 : w1.cell? ⟨W.heap.size + 1 + 1, 1, none⟩ = some (.int .i64 0) := by rw [c_w1 (W.heap.size + 1 + 1) 1 (by simp <;> omega)]; go_simp
  have x1w1 : w1.frozen? ⟨W.heap.size + 1 + 1, 1, none⟩ = false := by rw [y_w1 (W.heap.size + 1 + 1) 1 (by simp <;> omega)]; go_simp
  have z2w1 : w1.cell? ⟨W.heap.size + 1 + 1, 2, none⟩ = some (.int .i64 0) := by rw [c_w1 (W.heap.size + 1 + 1) 2 (by simp <;> omega)]; go_simp
  have x2w1 : w1.frozen? ⟨W.heap.size + 1 + 1, 2, none⟩ = false := by rw [y_w1 (W.heap.size + 1 + 1) 2 (by simp <;> omega)]; go_simp
  clear B1 c_w1 y_w1
  cases hf : f.good
  · go_wp2
    refine bodyPost_ret (v := .tuple #[.agg #[.bool false, .int .i64 0, .int .i64 0], .bool false]) (by simp only [results, Try.results9]; go_simp) rfl ⟨?_, by refine Below.trans B0 ?_; repeat (first | exact Below.refl _ _ | refine Below.drew ?_ | refine Below.setCell ?_ (by simp; try omega) _ | refine Below.alloc ?_ (by simp; try omega) _)⟩
    simp [bothR, hf]
  go_wp2_with fail
  refine (P2 _).mono ?_
  rintro e w2 ⟨rfl, B2⟩
  have B3 : Below W.heap.size W w2 := belR B0 B2
  have hs2 : W.heap.size + 1 + 1 + 1 ≤ w2.heap.size := Nat.le_trans hs B2.size
  obtain ⟨c_w2, y_w2⟩ := bcellR B2
  have p0w2 : w2.cell? ⟨W.heap.size, 0, none⟩ = some (.bool f.e) := (c_w2 _ _ (by omega)).trans p0w1
  have p1w2 : w2.cell? ⟨W.heap.size, 1, none⟩ = some (.int .i64 f.lo) := (c_w2 _ _ (by omega)).trans p1w1
  have p2w2 : w2.cell? ⟨W.heap.size, 2, none⟩ = some (.int .i64 f.hi) := (c_w2 _ _ (by omega)).trans p2w1
  have o0w2 : w2.cell? ⟨W.heap.size + 1, 0, none⟩ = some (.bool g.e) := (c_w2 _ _ (by omega)).trans o0w1
  have o1w2 : w2.cell? ⟨W.heap.size + 1, 1, none⟩ = some (.int .i64 g.lo) := (c_w2 _ _ (by omega)).trans o1w1
  have o2w2 : w2.cell? ⟨W.heap.size + 1, 2, none⟩ = some (.int .i64 g.hi) := (c_w2 _ _ (by omega)).trans o2w1
  have z0w2 : w2.cell? ⟨W.heap.size + 1 + 1, 0, none⟩ = some (.bool false) := (c_w2 _ _ (by omega)).trans z0w1
  have x0w2 : w2.frozen? ⟨W.heap.size + 1 + 1, 0, none⟩ = false := (y_w2 _ _ (by omega)).trans x0w1
  have z1w2 : w2.cell? ⟨W.heap.size + 1 + 1, 1, none⟩ = some (.int .i64 0) := (c_w2 _ _ (by omega)).trans z1w1
  have x1w2 : w2.frozen? ⟨W.heap.size + 1 + 1, 1, none⟩ = false := (y_w2 _ _ (by omega)).trans x1w1
  have z2w2 : w2.cell? ⟨W.heap.size + 1 + 1, 2, none⟩ = some (.int .i64 0) := (c_w2 _ _ (by omega)).trans z2w1
  have x2w2 : w2.frozen? ⟨W.heap.size + 1 + 1, 2, none⟩ = false := (y_w2 _ _ (by omega)).trans x2w1
  clear p0w1 p1w1 p2w1 o0w1 o1w1 o2w1 z0w1 z1w1 z2w1 x0w1 x1w1 x2w1
  clear B2 c_w2 y_w2
  cases hg : g.good
  · go_wp2
    refine bodyPost_ret (v := .tuple #[.agg #[.bool false, .int .i64 0, .int .i64 0], .bool false]) (by simp only [results, Try.results9]; go_simp) rfl ⟨?_, by refine Below.trans B3 ?_; repeat (first | exact Below.refl _ _ | refine Below.drew ?_ | refine Below.setCell ?_ (by simp; try omega) _ | refine Below.alloc ?_ (by simp; try omega) _)⟩
    simp [bothR, hf, hg]
  go_wp2_with fail
  refine (P3 _).mono ?_
  rintro e w4 ⟨rfl, B4⟩
  have B5 : Below W.heap.size W w4 := belR B3 B4
  have hs4 : W.heap.size + 1 + 1 + 1 ≤ w4.heap.size := Nat.le_trans hs2 B4.size
  obtain ⟨c_w4, y_w4⟩ := bcellR B4
  have p0w4 : w4.cell? ⟨W.heap.size, 0, none⟩ = some (.bool f.e) := (c_w4 _ _ (by omega)).trans p0w2
  have p1w4 : w4.cell? ⟨W.heap.size, 1, none⟩ = some (.int .i64 f.lo) := (c_w4 _ _ (by omega)).trans p1w2
  have p2w4 : w4.cell? ⟨W.heap.size, 2, none⟩ = some (.int .i64 f.hi) := (c_w4 _ _ (by omega)).trans p2w2
  have o0w4 : w4.cell? ⟨W.heap.size + 1, 0, none⟩ = some (.bool g.e) := (c_w4 _ _ (by omega)).trans o0w2
  have o1w4 : w4.cell? ⟨W.heap.size + 1, 1, none⟩ = some (.int .i64 g.lo) := (c_w4 _ _ (by omega)).trans o1w2
  have o2w4 : w4.cell? ⟨W.heap.size + 1, 2, none⟩ = some (.int .i64 g.hi) := (c_w4 _ _ (by omega)).trans o2w2
  have z0w4 : w4.cell? ⟨W.heap.size + 1 + 1, 0, none⟩ = some (.bool false) := (c_w4 _ _ (by omega)).trans z0w2
  have x0w4 : w4.frozen? ⟨W.heap.size + 1 + 1, 0, none⟩ = false := (y_w4 _ _ (by omega)).trans x0w2
  have z1w4 : w4.cell? ⟨W.heap.size + 1 + 1, 1, none⟩ = some (.int .i64 0) := (c_w4 _ _ (by omega)).trans z1w2
  have x1w4 : w4.frozen? ⟨W.heap.size + 1 + 1, 1, none⟩ = false := (y_w4 _ _ (by omega)).trans x1w2
  have z2w4 : w4.cell? ⟨W.heap.size + 1 + 1, 2, none⟩ = some (.int .i64 0) := (c_w4 _ _ (by omega)).trans z2w2
  have x2w4 : w4.frozen? ⟨W.heap.size + 1 + 1, 2, none⟩ = false := (y_w4 _ _ (by omega)).trans x2w2
  clear p0w2 p1w2 p2w2 o0w2 o1w2 o2w2 z0w2 z1w2 z2w2 x0w2 x1w2 x2w2
  clear B4 c_w4 y_w4
  clear P3
  rcases hj : meetR f g with ⟨je, jlo, jhi⟩
  simp only
  go_wp2
  refine bodyPost_ret (v := .tuple #[.agg #[.bool je, .int .i64 jlo, .int .i64 jhi], .bool true]) (by simp only [results, Try.results9]; go_simp) rfl ⟨?_, by refine Below.trans B5 ?_; repeat (first | exact Below.refl _ _ | refine Below.drew ?_ | refine Below.setCell ?_ (by simp; try omega) _ | refine Below.alloc ?_ (by simp; try omega) _)⟩
  simp [bothR, hf, hg, hj]
set_option maxRecDepth 100000 in
set_option maxHeartbeats 4000000 in
theorem impl_Meet (f g : Rv) (W : World) : Calls Try.prog 11 #[.agg #[.bool f.e, .int .i64 f.lo, .int .i64 f.hi], .agg #[.bool g.e, .int .i64 g.lo, .int .i64 g.hi]] W fun e W' => e = .returned (.tuple #[.agg #[.bool (bothR meetR f g).e, .int .i64 (bothR meetR f g).lo, .int .i64 (bothR meetR f g).hi], .bool (f.good && g.good)]) ∧ Below W.heap.size W W' := by
  have P3 : ∀ W', Calls Try.prog 42 #[.agg #[.bool f.e, .int .i64 f.lo, .int .i64 f.hi], .agg #[.bool g.e, .int .i64 g.lo, .int .i64 g.hi]] W' fun e W'' => e = .returned (.agg #[.bool (meetR f g).e, .int .i64 (meetR f g).lo, .int .i64 (meetR f g).hi]) ∧ Below W'.heap.size W' W'' := fun W' => impl_meet6 f g W'
  go_enter Try.func11, Try.ntmps11
  go_wp2_with fail
  refine (impl_pairR f g _).mono ?_
  rintro e w2 ⟨rfl, B2⟩
  have B3 : Below W.heap.size W w2 := belR (by repeat (first | exact Below.refl _ _ | refine Below.drew ?_ | refine Below.setCell ?_ (by simp; try omega) _ | refine Below.alloc ?_ (by simp; try omega) _)) B2
  have hs2 := B2.size
  simp at hs2
  obtain ⟨c_w2, y_w2⟩ := bcellR B2
  have p0w2 : w2.cell? ⟨W.heap.size, 0, none⟩ = some (.bool f.e) := by rw [c_w2 (W.heap.size) 0 (by simp <;> omega)]; go_simp
  have p1w2 : w2.cell? ⟨W.heap.size, 1, none⟩ = some (.int .i64 f.lo) := by rw [c_w2 (W.heap.size) 1 (by simp <;> omega)]; go_simp
  have p2w2 : w2.cell? ⟨W.heap.size, 2, none⟩ = some (.int .i64 f.hi) := by rw [c_w2 (W.heap.size) 2 (by simp <;> omega)]; go_simp
  have o0w2 : w2.cell? ⟨W.heap.size + 1, 0, none⟩ = some (.bool g.e) := by rw [c_w2 (W.heap.size + 1) 0 (by simp <;> omega)]; go_simp
  have o1w2 : w2.cell? ⟨W.heap.size + 1, 1, none⟩ = some (.int .i64 g.lo) := by rw [c_w2 (W.heap.size + 1) 1 (by simp <;> omega)]; go_simp
  have o2w2 : w2.cell? ⟨W.heap.size + 1, 2, none⟩ = some (.int .i64 g.hi) := by rw [c_w2 (W.heap.size + 1) 2 (by simp <;> omega)]; go_simp
  have z0w2 : w2.cell? ⟨W.heap.size + 1 + 1, 0, none⟩ = some (.bool false) := by rw [c_w2 (W.heap.size + 1 + 1) 0 (by simp <;> omega)]; go_simp
  have x0w2 : w2.frozen? ⟨W.heap.size + 1 + 1, 0, none⟩ = false := by rw [y_w2 (W.heap.size + 1 + 1) 0 (by simp <;> omega)]; go_simp
  have z1w2 : w2.cell? ⟨W.heap.size + 1 + 1, 1, none⟩ = some (.int .i64 0) := by rw [c_w2 (W.heap.size + 1 + 1) 1 (by simp <;> omega)]; go_simp
  have x1w2 : w2.frozen? ⟨W.heap.size + 1 + 1, 1, none⟩ = false := by rw [y_w2 (W.heap.size + 1 + 1) 1 (by simp <;> omega)]; go_simp
  have z2w2 : w2.cell? ⟨W.heap.size + 1 + 1, 2, none⟩ = some (.int .i64 0) := by rw [c_w2 (W.heap.size + 1 + 1) 2 (by simp <;> omega)]; go_simp
  have x2w2 : w2.frozen? ⟨W.heap.size + 1 + 1, 2, none⟩ = false := by rw [y_w2 (W.heap.size + 1 + 1) 2 (by simp <;> omega)]; go_simp
  clear B2 c_w2 y_w2
  cases hfg : (f.good && g.good)
  · go_wp2
    refine bodyPost_ret (v := .tuple #[.agg #[.bool false, .int .i64 0, .int .i64 0], .bool false]) (by simp only [results, Try.results11]; go_simp) rfl ⟨?_, by refine Below.trans B3 ?_; repeat (first | exact Below.refl _ _ | refine Below.drew ?_ | refine Below.setCell ?_ (by simp; try omega) _ | refine Below.alloc ?_ (by simp; try omega) _)⟩
    rw [show bothR meetR f g = ⟨false, 0, 0⟩ from if_neg (by rintro ⟨q1, q2⟩; rw [q1, q2] at hfg; cases hfg), hfg]
  have hf : f.good = true := ((Bool.and_eq_true _ _).mp hfg).1
  have hg : g.good = true := ((Bool.and_eq_true _ _).mp hfg).2
  go_wp2_with fail
  refine (P3 _).mono ?_
  rintro e w4 ⟨rfl, B4⟩
  have B5 : Below W.heap.size W w4 := belR B3 B4
  have hs4 : W.heap.size + 1 + 1 + 1 ≤ w4.heap.size := Nat.le_trans hs2 B4.size
  obtain ⟨c_w4, y_w4⟩ := bcellR B4
  have p0w4 : w4.cell? ⟨W.heap.size, 0, none⟩ = some (.bool f.e) := (c_w4 _ _ (by omega)).trans p0w2
  have p1w4 : w4.cell? ⟨W.heap.size, 1, none⟩ = some (.int .i64 f.lo) := (c_w4 _ _ (by omega)).trans p1w2
  have p2w4 : w4.cell? ⟨W.heap.size, 2, none⟩ = some (.int .i64 f.hi) := (c_w4 _ _ (by omega)).trans p2w2
  have o0w4 : w4.cell? ⟨W.heap.size + 1, 0, none⟩ = some (.bool g.e) := (c_w4 _ _ (by omega)).trans o0w2
  have o1w4 : w4.cell? ⟨W.heap.size + 1, 1, none⟩ = some (.int .i64 g.lo) := (c_w4 _ _ (by omega)).trans o1w2
  have o2w4 : w4.cell? ⟨W.heap.size + 1, 2, none⟩ = some (.int .i64 g.hi) := (c_w4 _ _ (by omega)).trans o2w2
  have z0w4 : w4.cell? ⟨W.heap.size + 1 + 1, 0, none⟩ = some (.bool false) := (c_w4 _ _ (by omega)).trans z0w2
  have x0w4 : w4.frozen? ⟨W.heap.size + 1 + 1, 0, none⟩ = false := (y_w4 _ _ (by omega)).trans x0w2
  have z1w4 : w4.cell? ⟨W.heap.size + 1 + 1, 1, none⟩ = some (.int .i64 0) := (c_w4 _ _ (by omega)).trans z1w2
  have x1w4 : w4.frozen? ⟨W.heap.size + 1 + 1, 1, none⟩ = false := (y_w4 _ _ (by omega)).trans x1w2
  have z2w4 : w4.cell? ⟨W.heap.size + 1 + 1, 2, none⟩ = some (.int .i64 0) := (c_w4 _ _ (by omega)).trans z2w2
  have x2w4 : w4.frozen? ⟨W.heap.size + 1 + 1, 2, none⟩ = false := (y_w4 _ _ (by omega)).trans x2w2
  clear p0w2 p1w2 p2w2 o0w2 o1w2 o2w2 z0w2 z1w2 z2w2 x0w2 x1w2 x2w2
  clear B4 c_w4 y_w4
  clear P3
  rcases hj : meetR f g with ⟨je, jlo, jhi⟩
  simp only
  go_wp2
  refine bodyPost_ret (v := .tuple #[.agg #[.bool je, .int .i64 jlo, .int .i64 jhi], .bool true]) (by simp only [results, Try.results11]; go_simp) rfl ⟨?_, by refine Below.trans B5 ?_; repeat (first | exact Below.refl _ _ | refine Below.drew ?_ | refine Below.setCell ?_ (by simp; try omega) _ | refine Below.alloc ?_ (by simp; try omega) _)⟩
  simp [bothR, hf, hg, hj]
set_option maxRecDepth 100000 in
set_option maxHeartbeats 4000000 in
theorem spec_Widen (f g : Rv) (W : World) : Calls Try.prog 13 #[.agg #[.bool f.e, .int .i64 f.lo, .int .i64 f.hi], .agg #[.bool g.e, .int .i64 g.lo, .int .i64 g.hi]] W fun e W' => e = .returned (.tuple #[.agg #[.bool (bothR widenR f g).e, .int .i64 (bothR widenR f g).lo, .int .i64 (bothR widenR f g).hi], .bool (f.good && g.good)]) ∧ Below W.heap.size W W' := by
  have P3 : ∀ W', Calls Try.prog 43 #[.agg #[.bool f.e, .int .i64 f.lo, .int .i64 f.hi], .agg #[.bool g.e, .int .i64 g.lo, .int .i64 g.hi]] W' fun e W'' => e = .returned (.agg #[.bool (widenR f g).e, .int .i64 (widenR f g).lo, .int .i64 (widenR f g).hi]) ∧ Below W'.heap.size W' W'' := fun W' => spec_widen6 f g W'
  have P : ∀ W', Calls Try.prog 39 #[.agg #[.bool f.e, .int .i64 f.lo, .int .i64 f.hi]] W' fun e W'' => e = .returned (.bool f.good) ∧ Below W'.heap.size W' W'' := fun W' => spec_goodR f.e f.lo f.hi W'
  have P2 : ∀ W', Calls Try.prog 39 #[.agg #[.bool g.e, .int .i64 g.lo, .int .i64 g.hi]] W' fun e W'' => e = .returned (.bool g.good) ∧ Below W'.heap.size W' W'' := fun W' => spec_goodR g.e g.lo g.hi W'
  go_enter Try.func13, Try.ntmps13
  go_wp2_with fail
  refine (P _).mono ?_
  rintro e w1 ⟨rfl, B1⟩
  have B0 : Below W.heap.size W w1 := belR (by repeat (first | exact Below.refl _ _ | refine Below.drew ?_ | refine Below.setCell ?_ (by simp; try omega) _ | refine Below.alloc ?_ (by simp; try omega) _)) B1
  have hs := B1.size
  simp at hs
  obtain ⟨c_w1, y_w1⟩ := bcellR B1
  have p0w1 : w1.cell? ⟨W.heap.size, 0, none⟩ = some (.bool f.e) := by rw [c_w1 (W.heap.size) 0 (by simp <;> omega)]; go_simp
  have p1w1 : w1.cell? ⟨W.heap.size, 1, none⟩ = some (.int .i64 f.lo) := by rw [c_w1 (W.heap.size) 1 (by simp <;> omega)]; go_simp
  have p2w1 : w1.cell? ⟨W.heap.size, 2, none⟩ = some (.int .i64 f.hi) := by rw [c_w1 (W.heap.size) 2 (by simp <;> omega)]; go_simp
  have o0w1 : w1.cell? ⟨W.heap.size + 1, 0, none⟩ = some (.bool g.e) := by rw [c_w1 (W.heap.size + 1) 0 (by simp <;> omega)]; go_simp
  have o1w1 : w1.cell? ⟨W.heap.size + 1, 1, none⟩ = some (.int .i64 g.lo) := by rw [c_w1 (W.heap.size + 1) 1 (by simp <;> omega)]; go_simp
  have o2w1 : w1.cell? ⟨W.heap.size + 1, 2, none⟩ = some (.int .i64 g.hi) := by rw [c_w1 (W.heap.size + 1) 2 (by simp <;> omega)]; go_simp
  have z0w1 : w1.cell? ⟨W.heap.size + 1 + 1, 0, none⟩ = some (.bool false) := by rw [c_w1 (W.heap.size + 1 + 1) 0 (by simp <;> omega)]; go_simp
  have x0w1 : w1.frozen? ⟨W.heap.size + 1 + 1, 0, none⟩ = false := by rw [y_w1 (W.heap.size + 1 + 1) 0 (by simp <;> omega)]; go_simp
  have z1w1 : w1.cell? ⟨W.heap.size + 1 + 1, 1, none⟩ = some (.int .i64 0) := by rw [c_w1 (W.heap.size + 1 + 1) 1 (by simp <;> omega)]; go_simp
  have x1w1 : w1.frozen? ⟨W.heap.size + 1 + 1, 1, none⟩ = false := by rw [y_w1 (W.heap.size + 1 + 1) 1 (by simp <;> omega)]; go_simp
  have z2w1 : w1.cell? ⟨W.heap.size + 1 + 1, 2, none⟩ = some (.int .i64 0) := by rw [c_w1 (W.heap.size + 1 + 1) 2 (by simp <;> omega)]; go_simp
  have x2w1 : w1.frozen? ⟨W.heap.size + 1 + 1, 2, none⟩ = false := by rw [y_w1 (W.heap.size + 1 + 1) 2 (by simp <;> omega)]; go_simp
  clear B1 c_w1 y_w1
  cases hf : f.good
  · go_wp2
    refine bodyPost_ret (v := .tuple #[.agg #[.bool false, .int .i64 0, .int .i64 0], .bool false]) (by simp only [results, Try.results13]; go_simp) rfl ⟨?_, by refine Below.trans B0 ?_; repeat (first | exact Below.refl _ _ | refine Below.drew ?_ | refine Below.setCell ?_ (by simp; try omega) _ | refine Below.alloc ?_ (by simp; try omega) _)⟩
    simp [bothR, hf]
  go_wp2_with fail
  refine (P2 _).mono ?_
  rintro e w2 ⟨rfl, B2⟩
  have B3 : Below W.heap.size W w2 := belR B0 B2
  have hs2 : W.heap.size + 1 + 1 + 1 ≤ w2.heap.size := Nat.le_trans hs B2.size
  obtain ⟨c_w2, y_w2⟩ := bcellR B2
  have p0w2 : w2.cell? ⟨W.heap.size, 0, none⟩ = some (.bool f.e) := (c_w2 _ _ (by omega)).trans p0w1
  have p1w2 : w2.cell? ⟨W.heap.size, 1, none⟩ = some (.int .i64 f.lo) := (c_w2 _ _ (by omega)).trans p1w1
  have p2w2 : w2.cell? ⟨W.heap.size, 2, none⟩ = some (.int .i64 f.hi) := (c_w2 _ _ (by omega)).trans p2w1
  have o0w2 : w2.cell? ⟨W.heap.size + 1, 0, none⟩ = some (.bool g.e) := (c_w2 _ _ (by omega)).trans o0w1
  have o1w2 : w2.cell? ⟨W.heap.size + 1, 1, none⟩ = some (.int .i64 g.lo) := (c_w2 _ _ (by omega)).trans o1w1
  have o2w2 : w2.cell? ⟨W.heap.size + 1, 2, none⟩ = some (.int .i64 g.hi) := (c_w2 _ _ (by omega)).trans o2w1
  have z0w2 : w2.cell? ⟨W.heap.size + 1 + 1, 0, none⟩ = some (.bool false) := (c_w2 _ _ (by omega)).trans z0w1
  have x0w2 : w2.frozen? ⟨W.heap.size + 1 + 1, 0, none⟩ = false := (y_w2 _ _ (by omega)).trans x0w1
  have z1w2 : w2.cell? ⟨W.heap.size + 1 + 1, 1, none⟩ = some (.int .i64 0) := (c_w2 _ _ (by omega)).trans z1w1
  have x1w2 : w2.frozen? ⟨W.heap.size + 1 + 1, 1, none⟩ = false := (y_w2 _ _ (by omega)).trans x1w1
  have z2w2 : w2.cell? ⟨W.heap.size + 1 + 1, 2, none⟩ = some (.int .i64 0) := (c_w2 _ _ (by omega)).trans z2w1
  have x2w2 : w2.frozen? ⟨W.heap.size + 1 + 1, 2, none⟩ = false := (y_w2 _ _ (by omega)).trans x2w1
  clear p0w1 p1w1 p2w1 o0w1 o1w1 o2w1 z0w1 z1w1 z2w1 x0w1 x1w1 x2w1
  clear B2 c_w2 y_w2
  cases hg : g.good
  · go_wp2
    refine bodyPost_ret (v := .tuple #[.agg #[.bool false, .int .i64 0, .int .i64 0], .bool false]) (by simp only [results, Try.results13]; go_simp) rfl ⟨?_, by refine Below.trans B3 ?_; repeat (first | exact Below.refl _ _ | refine Below.drew ?_ | refine Below.setCell ?_ (by simp; try omega) _ | refine Below.alloc ?_ (by simp; try omega) _)⟩
    simp [bothR, hf, hg]
  go_wp2_with fail
  refine (P3 _).mono ?_
  rintro e w4 ⟨rfl, B4⟩
  have B5 : Below W.heap.size W w4 := belR B3 B4
  have hs4 : W.heap.size + 1 + 1 + 1 ≤ w4.heap.size := Nat.le_trans hs2 B4.size
  obtain ⟨c_w4, y_w4⟩ := bcellR B4
  have p0w4 : w4.cell? ⟨W.heap.size, 0, none⟩ = some (.bool f.e) := (c_w4 _ _ (by omega)).trans p0w2
  have p1w4 : w4.cell? ⟨W.heap.size, 1, none⟩ = some (.int .i64 f.lo) := (c_w4 _ _ (by omega)).trans p1w2
  have p2w4 : w4.cell? ⟨W.heap.size, 2, none⟩ = some (.int .i64 f.hi) := (c_w4 _ _ (by omega)).trans p2w2
  have o0w4 : w4.cell? ⟨W.heap.size + 1, 0, none⟩ = some (.bool g.e) := (c_w4 _ _ (by omega)).trans o0w2
  have o1w4 : w4.cell? ⟨W.heap.size + 1, 1, none⟩ = some (.int .i64 g.lo) := (c_w4 _ _ (by omega)).trans o1w2
  have o2w4 : w4.cell? ⟨W.heap.size + 1, 2, none⟩ = some (.int .i64 g.hi) := (c_w4 _ _ (by omega)).trans o2w2
  have z0w4 : w4.cell? ⟨W.heap.size + 1 + 1, 0, none⟩ = some (.bool false) := (c_w4 _ _ (by omega)).trans z0w2
  have x0w4 : w4.frozen? ⟨W.heap.size + 1 + 1, 0, none⟩ = false := (y_w4 _ _ (by omega)).trans x0w2
  have z1w4 : w4.cell? ⟨W.heap.size + 1 + 1, 1, none⟩ = some (.int .i64 0) := (c_w4 _ _ (by omega)).trans z1w2
  have x1w4 : w4.frozen? ⟨W.heap.size + 1 + 1, 1, none⟩ = false := (y_w4 _ _ (by omega)).trans x1w2
  have z2w4 : w4.cell? ⟨W.heap.size + 1 + 1, 2, none⟩ = some (.int .i64 0) := (c_w4 _ _ (by omega)).trans z2w2
  have x2w4 : w4.frozen? ⟨W.heap.size + 1 + 1, 2, none⟩ = false := (y_w4 _ _ (by omega)).trans x2w2
  clear p0w2 p1w2 p2w2 o0w2 o1w2 o2w2 z0w2 z1w2 z2w2 x0w2 x1w2 x2w2
  clear B4 c_w4 y_w4
  clear P3
  rcases hj : widenR f g with ⟨je, jlo, jhi⟩
  simp only
  go_wp2
  refine bodyPost_ret (v := .tuple #[.agg #[.bool je, .int .i64 jlo, .int .i64 jhi], .bool true]) (by simp only [results, Try.results13]; go_simp) rfl ⟨?_, by refine Below.trans B5 ?_; repeat (first | exact Below.refl _ _ | refine Below.drew ?_ | refine Below.setCell ?_ (by simp; try omega) _ | refine Below.alloc ?_ (by simp; try omega) _)⟩
  simp [bothR, hf, hg, hj]
set_option maxRecDepth 100000 in
set_option maxHeartbeats 4000000 in
theorem impl_Widen (f g : Rv) (W : World) : Calls Try.prog 14 #[.agg #[.bool f.e, .int .i64 f.lo, .int .i64 f.hi], .agg #[.bool g.e, .int .i64 g.lo, .int .i64 g.hi]] W fun e W' => e = .returned (.tuple #[.agg #[.bool (bothR widenR f g).e, .int .i64 (bothR widenR f g).lo, .int .i64 (bothR widenR f g).hi], .bool (f.good && g.good)]) ∧ Below W.heap.size W W' := by
  have P3 : ∀ W', Calls Try.prog 44 #[.agg #[.bool f.e, .int .i64 f.lo, .int .i64 f.hi], .agg #[.bool g.e, .int .i64 g.lo, .int .i64 g.hi]] W' fun e W'' => e = .returned (.agg #[.bool (widenR f g).e, .int .i64 (widenR f g).lo, .int .i64 (widenR f g).hi]) ∧ Below W'.heap.size W' W'' := fun W' => impl_widen6 f g W'
  go_enter Try.func14, Try.ntmps14
  go_wp2_with fail
  refine (impl_pairR f g _).mono ?_
  rintro e w2 ⟨rfl, B2⟩
  have B3 : Below W.heap.size W w2 := belR (by repeat (first | exact Below.refl _ _ | refine Below.drew ?_ | refine Below.setCell ?_ (by simp; try omega) _ | refine Below.alloc ?_ (by simp; try omega) _)) B2
  have hs2 := B2.size
  simp at hs2
  obtain ⟨c_w2, y_w2⟩ := bcellR B2
  have p0w2 : w2.cell? ⟨W.heap.size, 0, none⟩ = some (.bool f.e) := by rw [c_w2 (W.heap.size) 0 (by simp <;> omega)]; go_simp
  have p1w2 : w2.cell? ⟨W.heap.size, 1, none⟩ = some (.int .i64 f.lo) := by rw [c_w2 (W.heap.size) 1 (by simp <;> omega)]; go_simp
  have p2w2 : w2.cell? ⟨W.heap.size, 2, none⟩ = some (.int .i64 f.hi) := by rw [c_w2 (W.heap.size) 2 (by simp <;> omega)]; go_simp
  have o0w2 : w2.cell? ⟨W.heap.size + 1, 0, none⟩ = some (.bool g.e) := by rw [c_w2 (W.heap.size + 1) 0 (by simp <;> omega)]; go_simp
  have o1w2 : w2.cell? ⟨W.heap.size + 1, 1, none⟩ = some (.int .i64 g.lo) := by rw [c_w2 (W.heap.size + 1) 1 (by simp <;> omega)]; go_simp
  have o2w2 : w2.cell? ⟨W.heap.size + 1, 2, none⟩ = some (.int .i64 g.hi) := by rw [c_w2 (W.heap.size + 1) 2 (by simp <;> omega)]; go_simp
  have z0w2 : w2.cell? ⟨W.heap.size + 1 + 1, 0, none⟩ = some (.bool false) := by rw [c_w2 (W.heap.size + 1 + 1) 0 (by simp <;> omega)]; go_simp
  have x0w2 : w2.frozen? ⟨W.heap.size + 1 + 1, 0, none⟩ = false := by rw [y_w2 (W.heap.size + 1 + 1) 0 (by simp <;> omega)]; go_simp
  have z1w2 : w2.cell? ⟨W.heap.size + 1 + 1, 1, none⟩ = some (.int .i64 0) := by rw [c_w2 (W.heap.size + 1 + 1) 1 (by simp <;> omega)]; go_simp
  have x1w2 : w2.frozen? ⟨W.heap.size + 1 + 1, 1, none⟩ = false := by rw [y_w2 (W.heap.size + 1 + 1) 1 (by simp <;> omega)]; go_simp
  have z2w2 : w2.cell? ⟨W.heap.size + 1 + 1, 2, none⟩ = some (.int .i64 0) := by rw [c_w2 (W.heap.size + 1 + 1) 2 (by simp <;> omega)]; go_simp
  have x2w2 : w2.frozen? ⟨W.heap.size + 1 + 1, 2, none⟩ = false := by rw [y_w2 (W.heap.size + 1 + 1) 2 (by simp <;> omega)]; go_simp
  clear B2 c_w2 y_w2
  cases hfg : (f.good && g.good)
  · go_wp2
    refine bodyPost_ret (v := .tuple #[.agg #[.bool false, .int .i64 0, .int .i64 0], .bool false]) (by simp only [results, Try.results14]; go_simp) rfl ⟨?_, by refine Below.trans B3 ?_; repeat (first | exact Below.refl _ _ | refine Below.drew ?_ | refine Below.setCell ?_ (by simp; try omega) _ | refine Below.alloc ?_ (by simp; try omega) _)⟩
    rw [show bothR widenR f g = ⟨false, 0, 0⟩ from if_neg (by rintro ⟨q1, q2⟩; rw [q1, q2] at hfg; cases hfg), hfg]
  have hf : f.good = true := ((Bool.and_eq_true _ _).mp hfg).1
  have hg : g.good = true := ((Bool.and_eq_true _ _).mp hfg).2
  go_wp2_with fail
  refine (P3 _).mono ?_
  rintro e w4 ⟨rfl, B4⟩
  have B5 : Below W.heap.size W w4 := belR B3 B4
  have hs4 : W.heap.size + 1 + 1 + 1 ≤ w4.heap.size := Nat.le_trans hs2 B4.size
  obtain ⟨c_w4, y_w4⟩ := bcellR B4
  have p0w4 : w4.cell? ⟨W.heap.size, 0, none⟩ = some (.bool f.e) := (c_w4 _ _ (by omega)).trans p0w2
  have p1w4 : w4.cell? ⟨W.heap.size, 1, none⟩ = some (.int .i64 f.lo) := (c_w4 _ _ (by omega)).trans p1w2
  have p2w4 : w4.cell? ⟨W.heap.size, 2, none⟩ = some (.int .i64 f.hi) := (c_w4 _ _ (by omega)).trans p2w2
  have o0w4 : w4.cell? ⟨W.heap.size + 1, 0, none⟩ = some (.bool g.e) := (c_w4 _ _ (by omega)).trans o0w2
  have o1w4 : w4.cell? ⟨W.heap.size + 1, 1, none⟩ = some (.int .i64 g.lo) := (c_w4 _ _ (by omega)).trans o1w2
  have o2w4 : w4.cell? ⟨W.heap.size + 1, 2, none⟩ = some (.int .i64 g.hi) := (c_w4 _ _ (by omega)).trans o2w2
  have z0w4 : w4.cell? ⟨W.heap.size + 1 + 1, 0, none⟩ = some (.bool false) := (c_w4 _ _ (by omega)).trans z0w2
  have x0w4 : w4.frozen? ⟨W.heap.size + 1 + 1, 0, none⟩ = false := (y_w4 _ _ (by omega)).trans x0w2
  have z1w4 : w4.cell? ⟨W.heap.size + 1 + 1, 1, none⟩ = some (.int .i64 0) := (c_w4 _ _ (by omega)).trans z1w2
  have x1w4 : w4.frozen? ⟨W.heap.size + 1 + 1, 1, none⟩ = false := (y_w4 _ _ (by omega)).trans x1w2
  have z2w4 : w4.cell? ⟨W.heap.size + 1 + 1, 2, none⟩ = some (.int .i64 0) := (c_w4 _ _ (by omega)).trans z2w2
  have x2w4 : w4.frozen? ⟨W.heap.size + 1 + 1, 2, none⟩ = false := (y_w4 _ _ (by omega)).trans x2w2
  clear p0w2 p1w2 p2w2 o0w2 o1w2 o2w2 z0w2 z1w2 z2w2 x0w2 x1w2 x2w2
  clear B4 c_w4 y_w4
  clear P3
  rcases hj : widenR f g with ⟨je, jlo, jhi⟩
  simp only
  go_wp2
  refine bodyPost_ret (v := .tuple #[.agg #[.bool je, .int .i64 jlo, .int .i64 jhi], .bool true]) (by simp only [results, Try.results14]; go_simp) rfl ⟨?_, by refine Below.trans B5 ?_; repeat (first | exact Below.refl _ _ | refine Below.drew ?_ | refine Below.setCell ?_ (by simp; try omega) _ | refine Below.alloc ?_ (by simp; try omega) _)⟩
  simp [bothR, hf, hg, hj]
set_option maxRecDepth 100000 in
set_option maxHeartbeats 4000000 in
theorem spec_Add (f g : Rv) (W : World) : Calls Try.prog 15 #[.agg #[.bool f.e, .int .i64 f.lo, .int .i64 f.hi], .agg #[.bool g.e, .int .i64 g.lo, .int .i64 g.hi]] W fun e W' => e = .returned (.tuple #[.agg #[.bool (bothR (twoR 3) f g).e, .int .i64 (bothR (twoR 3) f g).lo, .int .i64 (bothR (twoR 3) f g).hi], .bool (f.good && g.good)]) ∧ Below W.heap.size W W' := by
  have P3 : ∀ W', f.good = true → g.good = true → Calls Try.prog 45 #[.int .i64 3, .agg #[.bool f.e, .int .i64 f.lo, .int .i64 f.hi], .agg #[.bool g.e, .int .i64 g.lo, .int .i64 g.hi]] W' fun e W'' => e = .returned (.agg #[.bool ((twoR 3) f g).e, .int .i64 ((twoR 3) f g).lo, .int .i64 ((twoR 3) f g).hi]) ∧ Below W'.heap.size W' W'' := fun W' hf hg => spec_two6_3 f g W' hf hg
  have P : ∀ W', Calls Try.prog 39 #[.agg #[.bool f.e, .int .i64 f.lo, .int .i64 f.hi]] W' fun e W'' => e = .returned (.bool f.good) ∧ Below W'.heap.size W' W'' := fun W' => spec_goodR f.e f.lo f.hi W'
  have P2 : ∀ W', Calls Try.prog 39 #[.agg #[.bool g.e, .int .i64 g.lo, .int .i64 g.hi]] W' fun e W'' => e = .returned (.bool g.good) ∧ Below W'.heap.size W' W'' := fun W' => spec_goodR g.e g.lo g.hi W'
  go_enter Try.func15, Try.ntmps15
  go_wp2_with fail
  refine (P _).mono ?_
  rintro e w1 ⟨rfl, B1⟩
  have B0 : Below W.heap.size W w1 := belR (by repeat (first | exact Below.refl _ _ | refine Below.drew ?_ | refine Below.setCell ?_ (by simp; try omega) _ | refine Below.alloc ?_ (by simp; try omega) _)) B1
  have hs := B1.size
  simp at hs
  obtain ⟨c_w1, y_w1⟩ := bcellR B1
  have p0w1 : w1.cell? ⟨W.heap.size, 0, none⟩ = some (.bool f.e) := by rw [c_w1 (W.heap.size) 0 (by simp <;> omega)]; go_simp
  have p1w1 : w1.cell? ⟨W.heap.size, 1, none⟩ = some (.int .i64 f.lo) := by rw [c_w1 (W.heap.size) 1 (by simp <;> omega)]; go_simp
  have p2w1 : w1.cell? ⟨W.heap.size, 2, none⟩ = some (.int .i64 f.hi) := by rw [c_w1 (W.heap.size) 2 (by simp <;> omega)]; go_simp
  have o0w1 : w1.cell? ⟨W.heap.size + 1, 0, none⟩ = some (.bool g.e) := by rw [c_w1 (W.heap.size + 1) 0 (by simp <;> omega)]; go_simp
  have o1w1 : w1.cell? ⟨W.heap.size + 1, 1, none⟩ = some (.int .i64 g.lo) := by rw [c_w1 (W.heap.size + 1) 1 (by simp <;> omega)]; go_simp
  have o2w1 : w1.cell? ⟨W.heap.size + 1, 2, none⟩ = some (.int .i64 g.hi) := by rw [c_w1 (W.heap.size + 1) 2 (by simp <;> omega)]; go_simp
  have z0w1 : w1.cell? ⟨W.heap.size + 1 + 1, 0, none⟩ = some (.bool false) := by rw [c_w1 (W.heap.size + 1 + 1) 0 (by simp <;> omega)]; go_simp
  have x0w1 : w1.frozen? ⟨W.heap.size + 1 + 1, 0, none⟩ = false := by rw [y_w1 (W.heap.size + 1 + 1) 0 (by simp <;> omega)]; go_simp
  have z1w1 : w1.cell? ⟨W.heap.size + 1 + 1, 1, none⟩ = some (.int .i64 0) := by rw [c_w1 (W.heap.size + 1 + 1) 1 (by simp <;> omega)]; go_simp
  have x1w1 : w1.frozen? ⟨W.heap.size + 1 + 1, 1, none⟩ = false := by rw [y_w1 (W.heap.size + 1 + 1) 1 (by simp <;> omega)]; go_simp
  have z2w1 : w1.cell? ⟨W.heap.size + 1 + 1, 2, none⟩ = some (.int .i64 0) := by rw [c_w1 (W.heap.size + 1 + 1) 2 (by simp <;> omega)]; go_simp
  have x2w1 : w1.frozen? ⟨W.heap.size + 1 + 1, 2, none⟩ = false := by rw [y_w1 (W.heap.size + 1 + 1) 2 (by simp <;> omega)]; go_simp
  clear B1 c_w1 y_w1
  cases hf : f.good
  · go_wp2
    refine bodyPost_ret (v := .tuple #[.agg #[.bool false, .int .i64 0, .int .i64 0], .bool false]) (by simp only [results, Try.results15]; go_simp) rfl ⟨?_, by refine Below.trans B0 ?_; repeat (first | exact Below.refl _ _ | refine Below.drew ?_ | refine Below.setCell ?_ (by simp; try omega) _ | refine Below.alloc ?_ (by simp; try omega) _)⟩
    simp [bothR, hf]
  go_wp2_with fail
  refine (P2 _).mono ?_
  rintro e w2 ⟨rfl, B2⟩
  have B3 : Below W.heap.size W w2 := belR B0 B2
  have hs2 : W.heap.size + 1 + 1 + 1 ≤ w2.heap.size := Nat.le_trans hs B2.size
  obtain ⟨c_w2, y_w2⟩ := bcellR B2
  have p0w2 : w2.cell? ⟨W.heap.size, 0, none⟩ = some (.bool f.e) := (c_w2 _ _ (by omega)).trans p0w1
  have p1w2 : w2.cell? ⟨W.heap.size, 1, none⟩ = some (.int .i64 f.lo) := (c_w2 _ _ (by omega)).trans p1w1
  have p2w2 : w2.cell? ⟨W.heap.size, 2, none⟩ = some (.int .i64 f.hi) := (c_w2 _ _ (by omega)).trans p2w1
  have o0w2 : w2.cell? ⟨W.heap.size + 1, 0, none⟩ = some (.bool g.e) := (c_w2 _ _ (by omega)).trans o0w1
  have o1w2 : w2.cell? ⟨W.heap.size + 1, 1, none⟩ = some (.int .i64 g.lo) := (c_w2 _ _ (by omega)).trans o1w1
  have o2w2 : w2.cell? ⟨W.heap.size + 1, 2, none⟩ = some (.int .i64 g.hi) := (c_w2 _ _ (by omega)).trans o2w1
  have z0w2 : w2.cell? ⟨W.heap.size + 1 + 1, 0, none⟩ = some (.bool false) := (c_w2 _ _ (by omega)).trans z0w1
  have x0w2 : w2.frozen? ⟨W.heap.size + 1 + 1, 0, none⟩ = false := (y_w2 _ _ (by omega)).trans x0w1
  have z1w2 : w2.cell? ⟨W.heap.size + 1 + 1, 1, none⟩ = some (.int .i64 0) := (c_w2 _ _ (by omega)).trans z1w1
  have x1w2 : w2.frozen? ⟨W.heap.size + 1 + 1, 1, none⟩ = false := (y_w2 _ _ (by omega)).trans x1w1
  have z2w2 : w2.cell? ⟨W.heap.size + 1 + 1, 2, none⟩ = some (.int .i64 0) := (c_w2 _ _ (by omega)).trans z2w1
  have x2w2 : w2.frozen? ⟨W.heap.size + 1 + 1, 2, none⟩ = false := (y_w2 _ _ (by omega)).trans x2w1
  clear p0w1 p1w1 p2w1 o0w1 o1w1 o2w1 z0w1 z1w1 z2w1 x0w1 x1w1 x2w1
  clear B2 c_w2 y_w2
  cases hg : g.good
  · go_wp2
    refine bodyPost_ret (v := .tuple #[.agg #[.bool false, .int .i64 0, .int .i64 0], .bool false]) (by simp only [results, Try.results15]; go_simp) rfl ⟨?_, by refine Below.trans B3 ?_; repeat (first | exact Below.refl _ _ | refine Below.drew ?_ | refine Below.setCell ?_ (by simp; try omega) _ | refine Below.alloc ?_ (by simp; try omega) _)⟩
    simp [bothR, hf, hg]
  go_wp2_with fail
  refine (P3 _ hf hg).mono ?_
  rintro e w4 ⟨rfl, B4⟩
  have B5 : Below W.heap.size W w4 := belR B3 B4
  have hs4 : W.heap.size + 1 + 1 + 1 ≤ w4.heap.size := Nat.le_trans hs2 B4.size
  obtain ⟨c_w4, y_w4⟩ := bcellR B4
  have p0w4 : w4.cell? ⟨W.heap.size, 0, none⟩ = some (.bool f.e) := (c_w4 _ _ (by omega)).trans p0w2
  have p1w4 : w4.cell? ⟨W.heap.size, 1, none⟩ = some (.int .i64 f.lo) := (c_w4 _ _ (by omega)).trans p1w2
  have p2w4 : w4.cell? ⟨W.heap.size, 2, none⟩ = some (.int .i64 f.hi) := (c_w4 _ _ (by omega)).trans p2w2
  have o0w4 : w4.cell? ⟨W.heap.size + 1, 0, none⟩ = some (.bool g.e) := (c_w4 _ _ (by omega)).trans o0w2
  have o1w4 : w4.cell? ⟨W.heap.size + 1, 1, none⟩ = some (.int .i64 g.lo) := (c_w4 _ _ (by omega)).trans o1w2
  have o2w4 : w4.cell? ⟨W.heap.size + 1, 2, none⟩ = some (.int .i64 g.hi) := (c_w4 _ _ (by omega)).trans o2w2
  have z0w4 : w4.cell? ⟨W.heap.size + 1 + 1, 0, none⟩ = some (.bool false) := (c_w4 _ _ (by omega)).trans z0w2
  have x0w4 : w4.frozen? ⟨W.heap.size + 1 + 1, 0, none⟩ = false := (y_w4 _ _ (by omega)).trans x0w2
  have z1w4 : w4.cell? ⟨W.heap.size + 1 + 1, 1, none⟩ = some (.int .i64 0) := (c_w4 _ _ (by omega)).trans z1w2
  have x1w4 : w4.frozen? ⟨W.heap.size + 1 + 1, 1, none⟩ = false := (y_w4 _ _ (by omega)).trans x1w2
  have z2w4 : w4.cell? ⟨W.heap.size + 1 + 1, 2, none⟩ = some (.int .i64 0) := (c_w4 _ _ (by omega)).trans z2w2
  have x2w4 : w4.frozen? ⟨W.heap.size + 1 + 1, 2, none⟩ = false := (y_w4 _ _ (by omega)).trans x2w2
  clear p0w2 p1w2 p2w2 o0w2 o1w2 o2w2 z0w2 z1w2 z2w2 x0w2 x1w2 x2w2
  clear B4 c_w4 y_w4
  clear P3
  rcases hj : (twoR 3) f g with ⟨je, jlo, jhi⟩
  simp only
  go_wp2
  refine bodyPost_ret (v := .tuple #[.agg #[.bool je, .int .i64 jlo, .int .i64 jhi], .bool true]) (by simp only [results, Try.results15]; go_simp) rfl ⟨?_, by refine Below.trans B5 ?_; repeat (first | exact Below.refl _ _ | refine Below.drew ?_ | refine Below.setCell ?_ (by simp; try omega) _ | refine Below.alloc ?_ (by simp; try omega) _)⟩
  simp [bothR, hf, hg, hj]
set_option maxRecDepth 100000 in
set_option maxHeartbeats 4000000 in
theorem impl_Add (f g : Rv) (W : World) : Calls Try.prog 16 #[.agg #[.bool f.e, .int .i64 f.lo, .int .i64 f.hi], .agg #[.bool g.e, .int .i64 g.lo, .int .i64 g.hi]] W fun e W' => e = .returned (.tuple #[.agg #[.bool (bothR (twoR 3) f g).e, .int .i64 (bothR (twoR 3) f g).lo, .int .i64 (bothR (twoR 3) f g).hi], .bool (f.good && g.good)]) ∧ Below W.heap.size W W' := by
  have P3 : ∀ W', f.good = true → g.good = true → Calls Try.prog 46 #[.int .i64 3, .agg #[.bool f.e, .int .i64 f.lo, .int .i64 f.hi], .agg #[.bool g.e, .int .i64 g.lo, .int .i64 g.hi]] W' fun e W'' => e = .returned (.agg #[.bool ((twoR 3) f g).e, .int .i64 ((twoR 3) f g).lo, .int .i64 ((twoR 3) f g).hi]) ∧ Below W'.heap.size W' W'' := fun W' hf hg => impl_two6_3 f g W' hf hg
  go_enter Try.func16, Try.ntmps16
  go_wp2_with fail
  refine (impl_pairR f g _).mono ?_
  rintro e w2 ⟨rfl, B2⟩
  have B3 : Below W.heap.size W w2 := belR (by repeat (first | exact Below.refl _ _ | refine Below.drew ?_ | refine Below.setCell ?_ (by simp; try omega) _ | refine Below.alloc ?_ (by simp; try omega) _)) B2
  have hs2 := B2.size
  simp at hs2
  obtain ⟨c_w2, y_w2⟩ := bcellR B2
  have p0w2 : w2.cell? ⟨W.heap.size, 0, none⟩ = some (.bool f.e) := by rw [c_w2 (W.heap.size) 0 (by simp <;> omega)]; go_simp
  have p1w2 : w2.cell? ⟨W.heap.size, 1, none⟩ = some (.int .i64 f.lo) := by rw [c_w2 (W.heap.size) 1 (by simp <;> omega)]; go_simp
  have p2w2 : w2.cell? ⟨W.heap.size, 2, none⟩ = some (.int .i64 f.hi) := by rw [c_w2 (W.heap.size) 2 (by simp <;> omega)]; go_simp
  have o0w2 : w2.cell? ⟨W.heap.size + 1, 0, none⟩ = some (.bool g.e) := by rw [c_w2 (W.heap.size + 1) 0 (by simp <;> omega)]; go_simp
  have o1w2 : w2.cell? ⟨W.heap.size + 1, 1, none⟩ = some (.int .i64 g.lo) := by rw [c_w2 (W.heap.size + 1) 1 (by simp <;> omega)]; go_simp
  have o2w2 : w2.cell? ⟨W.heap.size + 1, 2, none⟩ = some (.int .i64 g.hi) := by rw [c_w2 (W.heap.size + 1) 2 (by simp <;> omega)]; go_simp
  have z0w2 : w2.cell? ⟨W.heap.size + 1 + 1, 0, none⟩ = some (.bool false) := by rw [c_w2 (W.heap.size + 1 + 1) 0 (by simp <;> omega)]; go_simp
  have x0w2 : w2.frozen? ⟨W.heap.size + 1 + 1, 0, none⟩ = false := by rw [y_w2 (W.heap.size + 1 + 1) 0 (by simp <;> omega)]; go_simp
  have z1w2 : w2.cell? ⟨W.heap.size + 1 + 1, 1, none⟩ = some (.int .i64 0) := by rw [c_w2 (W.heap.size + 1 + 1) 1 (by simp <;> omega)]; go_simp
  have x1w2 : w2.frozen? ⟨W.heap.size + 1 + 1, 1, none⟩ = false := by rw [y_w2 (W.heap.size + 1 + 1) 1 (by simp <;> omega)]; go_simp
  have z2w2 : w2.cell? ⟨W.heap.size + 1 + 1, 2, none⟩ = some (.int .i64 0) := by rw [c_w2 (W.heap.size + 1 + 1) 2 (by simp <;> omega)]; go_simp
  have x2w2 : w2.frozen? ⟨W.heap.size + 1 + 1, 2, none⟩ = false := by rw [y_w2 (W.heap.size + 1 + 1) 2 (by simp <;> omega)]; go_simp
  clear B2 c_w2 y_w2
  cases hfg : (f.good && g.good)
  · go_wp2
    refine bodyPost_ret (v := .tuple #[.agg #[.bool false, .int .i64 0, .int .i64 0], .bool false]) (by simp only [results, Try.results16]; go_simp) rfl ⟨?_, by refine Below.trans B3 ?_; repeat (first | exact Below.refl _ _ | refine Below.drew ?_ | refine Below.setCell ?_ (by simp; try omega) _ | refine Below.alloc ?_ (by simp; try omega) _)⟩
    rw [show bothR (twoR 3) f g = ⟨false, 0, 0⟩ from if_neg (by rintro ⟨q1, q2⟩; rw [q1, q2] at hfg; cases hfg), hfg]
  have hf : f.good = true := ((Bool.and_eq_true _ _).mp hfg).1
  have hg : g.good = true := ((Bool.and_eq_true _ _).mp hfg).2
  go_wp2_with fail
  refine (P3 _ hf hg).mono ?_
  rintro e w4 ⟨rfl, B4⟩
  have B5 : Below W.heap.size W w4 := belR B3 B4
  have hs4 : W.heap.size + 1 + 1 + 1 ≤ w4.heap.size := Nat.le_trans hs2 B4.size
  obtain ⟨c_w4, y_w4⟩ := bcellR B4
  have p0w4 : w4.cell? ⟨W.heap.size, 0, none⟩ = some (.bool f.e) := (c_w4 _ _ (by omega)).trans p0w2
  have p1w4 : w4.cell? ⟨W.heap.size, 1, none⟩ = some (.int .i64 f.lo) := (c_w4 _ _ (by omega)).trans p1w2
  have p2w4 : w4.cell? ⟨W.heap.size, 2, none⟩ = some (.int .i64 f.hi) := (c_w4 _ _ (by omega)).trans p2w2
  have o0w4 : w4.cell? ⟨W.heap.size + 1, 0, none⟩ = some (.bool g.e) := (c_w4 _ _ (by omega)).trans o0w2
  have o1w4 : w4.cell? ⟨W.heap.size + 1, 1, none⟩ = some (.int .i64 g.lo) := (c_w4 _ _ (by omega)).trans o1w2
  have o2w4 : w4.cell? ⟨W.heap.size + 1, 2, none⟩ = some (.int .i64 g.hi) := (c_w4 _ _ (by omega)).trans o2w2
  have z0w4 : w4.cell? ⟨W.heap.size + 1 + 1, 0, none⟩ = some (.bool false) := (c_w4 _ _ (by omega)).trans z0w2
  have x0w4 : w4.frozen? ⟨W.heap.size + 1 + 1, 0, none⟩ = false := (y_w4 _ _ (by omega)).trans x0w2
  have z1w4 : w4.cell? ⟨W.heap.size + 1 + 1, 1, none⟩ = some (.int .i64 0) := (c_w4 _ _ (by omega)).trans z1w2
  have x1w4 : w4.frozen? ⟨W.heap.size + 1 + 1, 1, none⟩ = false := (y_w4 _ _ (by omega)).trans x1w2
  have z2w4 : w4.cell? ⟨W.heap.size + 1 + 1, 2, none⟩ = some (.int .i64 0) := (c_w4 _ _ (by omega)).trans z2w2
  have x2w4 : w4.frozen? ⟨W.heap.size + 1 + 1, 2, none⟩ = false := (y_w4 _ _ (by omega)).trans x2w2
  clear p0w2 p1w2 p2w2 o0w2 o1w2 o2w2 z0w2 z1w2 z2w2 x0w2 x1w2 x2w2
  clear B4 c_w4 y_w4
  clear P3
  rcases hj : (twoR 3) f g with ⟨je, jlo, jhi⟩
  simp only
  go_wp2
  refine bodyPost_ret (v := .tuple #[.agg #[.bool je, .int .i64 jlo, .int .i64 jhi], .bool true]) (by simp only [results, Try.results16]; go_simp) rfl ⟨?_, by refine Below.trans B5 ?_; repeat (first | exact Below.refl _ _ | refine Below.drew ?_ | refine Below.setCell ?_ (by simp; try omega) _ | refine Below.alloc ?_ (by simp; try omega) _)⟩
  simp [bothR, hf, hg, hj]
set_option maxRecDepth 100000 in
set_option maxHeartbeats 4000000 in
theorem spec_Mul (f g : Rv) (W : World) : Calls Try.prog 17 #[.agg #[.bool f.e, .int .i64 f.lo, .int .i64 f.hi], .agg #[.bool g.e, .int .i64 g.lo, .int .i64 g.hi]] W fun e W' => e = .returned (.tuple #[.agg #[.bool (bothR (twoR 5) f g).e, .int .i64 (bothR (twoR 5) f g).lo, .int .i64 (bothR (twoR 5) f g).hi], .bool (f.good && g.good)]) ∧ Below W.heap.size W W' := by
  have P3 : ∀ W', f.good = true → g.good = true → Calls Try.prog 45 #[.int .i64 5, .agg #[.bool f.e, .int .i64 f.lo, .int .i64 f.hi], .agg #[.bool g.e, .int .i64 g.lo, .int .i64 g.hi]] W' fun e W'' => e = .returned (.agg #[.bool ((twoR 5) f g).e, .int .i64 ((twoR 5) f g).lo, .int .i64 ((twoR 5) f g).hi]) ∧ Below W'.heap.size W' W'' := fun W' hf hg => spec_two6_5 f g W' hf hg
  have P : ∀ W', Calls Try.prog 39 #[.agg #[.bool f.e, .int .i64 f.lo, .int .i64 f.hi]] W' fun e W'' => e = .returned (.bool f.good) ∧ Below W'.heap.size W' W'' := fun W' => spec_goodR f.e f.lo f.hi W'
  have P2 : ∀ W', Calls Try.prog 39 #[.agg #[.bool g.e, .int .i64 g.lo, .int .i64 g.hi]] W' fun e W'' => e = .returned (.bool g.good) ∧ Below W'.heap.size W' W'' := fun W' => spec_goodR g.e g.lo g.hi W'
  go_enter Try.func17, Try.ntmps17
  go_wp2_with fail
  refine (P _).mono ?_
  rintro e w1 ⟨rfl, B1⟩
  have B0 : Below W.heap.size W w1 := belR (by repeat (first | exact Below.refl _ _ | refine Below.drew ?_ | refine Below.setCell ?_ (by simp; try omega) _ | refine Below.alloc ?_ (by simp; try omega) _)) B1
  have hs := B1.size
  simp at hs
  obtain ⟨c_w1, y_w1⟩ := bcellR B1
  have p0w1 : w1.cell? ⟨W.heap.size, 0, none⟩ = some (.bool f.e) := by rw [c_w1 (W.heap.size) 0 (by simp <;> omega)]; go_simp
  have p1w1 : w1.cell? ⟨W.heap.size, 1, none⟩ = some (.int .i64 f.lo) := by rw [c_w1 (W.heap.size) 1 (by simp <;> omega)]; go_simp
  have p2w1 : w1.cell? ⟨W.heap.size, 2, none⟩ = some (.int .i64 f.hi) := by rw [c_w1 (W.heap.size) 2 (by simp <;> omega)]; go_simp
  have o0w1 : w1.cell? ⟨W.heap.size + 1, 0, none⟩ = some (.bool g.e) := by rw [c_w1 (W.heap.size + 1) 0 (by simp <;> omega)]; go_simp
  have o1w1 : w1.cell? ⟨W.heap.size + 1, 1, none⟩ = some (.int .i64 g.lo) := by rw [c_w1 (W.heap.size + 1) 1 (by simp <;> omega)]; go_simp
  have o2w1 : w1.cell? ⟨W.heap.size + 1, 2, none⟩ = some (.int .i64 g.hi) := by rw [c_w1 (W.heap.size + 1) 2 (by simp <;> omega)]; go_simp
  have z0w1 : w1.cell? ⟨W.heap.size + 1 + 1, 0, none⟩ = some (.bool false) := by rw [c_w1 (W.heap.size + 1 + 1) 0 (by simp <;> omega)]; go_simp
  have x0w1 : w1.frozen? ⟨W.heap.size + 1 + 1, 0, none⟩ = false := by rw [y_w1 (W.heap.size + 1 + 1) 0 (by simp <;> omega)]; go_simp
  have z1w1 : w1.cell? ⟨W.heap.size + 1 + 1, 1, none⟩ = some (.int .i64 0) := by rw [c_w1 (W.heap.size + 1 + 1) 1 (by simp <;> omega)]; go_simp
  have x1w1 : w1.frozen? ⟨W.heap.size + 1 + 1, 1, none⟩ = false := by rw [y_w1 (W.heap.size + 1 + 1) 1 (by simp <;> omega)]; go_simp
  have z2w1 : w1.cell? ⟨W.heap.size + 1 + 1, 2, none⟩ = some (.int .i64 0) := by rw [c_w1 (W.heap.size + 1 + 1) 2 (by simp <;> omega)]; go_simp
  have x2w1 : w1.frozen? ⟨W.heap.size + 1 + 1, 2, none⟩ = false := by rw [y_w1 (W.heap.size + 1 + 1) 2 (by simp <;> omega)]; go_simp
  clear B1 c_w1 y_w1
  cases hf : f.good
  · go_wp2
    refine bodyPost_ret (v := .tuple #[.agg #[.bool false, .int .i64 0, .int .i64 0], .bool false]) (by simp only [results, Try.results17]; go_simp) rfl ⟨?_, by refine Below.trans B0 ?_; repeat (first | exact Below.refl _ _ | refine Below.drew ?_ | refine Below.setCell ?_ (by simp; try omega) _ | refine Below.alloc ?_ (by simp; try omega) _)⟩
    simp [bothR, hf]
  go_wp2_with fail
  refine (P2 _).mono ?_
  rintro e w2 ⟨rfl, B2⟩
  have B3 : Below W.heap.size W w2 := belR B0 B2
  have hs2 : W.heap.size + 1 + 1 + 1 ≤ w2.heap.size := Nat.le_trans hs B2.size
  obtain ⟨c_w2, y_w2⟩ := bcellR B2
  have p0w2 : w2.cell? ⟨W.heap.size, 0, none⟩ = some (.bool f.e) := (c_w2 _ _ (by omega)).trans p0w1
  have p1w2 : w2.cell? ⟨W.heap.size, 1, none⟩ = some (.int .i64 f.lo) := (c_w2 _ _ (by omega)).trans p1w1
  have p2w2 : w2.cell? ⟨W.heap.size, 2, none⟩ = some (.int .i64 f.hi) := (c_w2 _ _ (by omega)).trans p2w1
  have o0w2 : w2.cell? ⟨W.heap.size + 1, 0, none⟩ = some (.bool g.e) := (c_w2 _ _ (by omega)).trans o0w1
  have o1w2 : w2.cell? ⟨W.heap.size + 1, 1, none⟩ = some (.int .i64 g.lo) := (c_w2 _ _ (by omega)).trans o1w1
  have o2w2 : w2.cell? ⟨W.heap.size + 1, 2, none⟩ = some (.int .i64 g.hi) := (c_w2 _ _ (by omega)).trans o2w1
  have z0w2 : w2.cell? ⟨W.heap.size + 1 + 1, 0, none⟩ = some (.bool false) := (c_w2 _ _ (by omega)).trans z0w1
  have x0w2 : w2.frozen? ⟨W.heap.size + 1 + 1, 0, none⟩ = false := (y_w2 _ _ (by omega)).trans x0w1
  have z1w2 : w2.cell? ⟨W.heap.size + 1 + 1, 1, none⟩ = some (.int .i64 0) := (c_w2 _ _ (by omega)).trans z1w1
  have x1w2 : w2.frozen? ⟨W.heap.size + 1 + 1, 1, none⟩ = false := (y_w2 _ _ (by omega)).trans x1w1
  have z2w2 : w2.cell? ⟨W.heap.size + 1 + 1, 2, none⟩ = some (.int .i64 0) := (c_w2 _ _ (by omega)).trans z2w1
  have x2w2 : w2.frozen? ⟨W.heap.size + 1 + 1, 2, none⟩ = false := (y_w2 _ _ (by omega)).trans x2w1
  clear p0w1 p1w1 p2w1 o0w1 o1w1 o2w1 z0w1 z1w1 z2w1 x0w1 x1w1 x2w1
  clear B2 c_w2 y_w2
  cases hg : g.good
  · go_wp2
    refine bodyPost_ret (v := .tuple #[.agg #[.bool false, .int .i64 0, .int .i64 0], .bool false]) (by simp only [results, Try.results17]; go_simp) rfl ⟨?_, by refine Below.trans B3 ?_; repeat (first | exact Below.refl _ _ | refine Below.drew ?_ | refine Below.setCell ?_ (by simp; try omega) _ | refine Below.alloc ?_ (by simp; try omega) _)⟩
    simp [bothR, hf, hg]
  go_wp2_with fail
  refine (P3 _ hf hg).mono ?_
  rintro e w4 ⟨rfl, B4⟩
  have B5 : Below W.heap.size W w4 := belR B3 B4
  have hs4 : W.heap.size + 1 + 1 + 1 ≤ w4.heap.size := Nat.le_trans hs2 B4.size
  obtain ⟨c_w4, y_w4⟩ := bcellR B4
  have p0w4 : w4.cell? ⟨W.heap.size, 0, none⟩ = some (.bool f.e) := (c_w4 _ _ (by omega)).trans p0w2
  have p1w4 : w4.cell? ⟨W.heap.size, 1, none⟩ = some (.int .i64 f.lo) := (c_w4 _ _ (by omega)).trans p1w2
  have p2w4 : w4.cell? ⟨W.heap.size, 2, none⟩ = some (.int .i64 f.hi) := (c_w4 _ _ (by omega)).trans p2w2
  have o0w4 : w4.cell? ⟨W.heap.size + 1, 0, none⟩ = some (.bool g.e) := (c_w4 _ _ (by omega)).trans o0w2
  have o1w4 : w4.cell? ⟨W.heap.size + 1, 1, none⟩ = some (.int .i64 g.lo) := (c_w4 _ _ (by omega)).trans o1w2
  have o2w4 : w4.cell? ⟨W.heap.size + 1, 2, none⟩ = some (.int .i64 g.hi) := (c_w4 _ _ (by omega)).trans o2w2
  have z0w4 : w4.cell? ⟨W.heap.size + 1 + 1, 0, none⟩ = some (.bool false) := (c_w4 _ _ (by omega)).trans z0w2
  have x0w4 : w4.frozen? ⟨W.heap.size + 1 + 1, 0, none⟩ = false := (y_w4 _ _ (by omega)).trans x0w2
  have z1w4 : w4.cell? ⟨W.heap.size + 1 + 1, 1, none⟩ = some (.int .i64 0) := (c_w4 _ _ (by omega)).trans z1w2
  have x1w4 : w4.frozen? ⟨W.heap.size + 1 + 1, 1, none⟩ = false := (y_w4 _ _ (by omega)).trans x1w2
  have z2w4 : w4.cell? ⟨W.heap.size + 1 + 1, 2, none⟩ = some (.int .i64 0) := (c_w4 _ _ (by omega)).trans z2w2
  have x2w4 : w4.frozen? ⟨W.heap.size + 1 + 1, 2, none⟩ = false := (y_w4 _ _ (by omega)).trans x2w2
  clear p0w2 p1w2 p2w2 o0w2 o1w2 o2w2 z0w2 z1w2 z2w2 x0w2 x1w2 x2w2
  clear B4 c_w4 y_w4
  clear P3
  rcases hj : (twoR 5) f g with ⟨je, jlo, jhi⟩
  simp only
  go_wp2
  refine bodyPost_ret (v := .tuple #[.agg #[.bool je, .int .i64 jlo, .int .i64 jhi], .bool true]) (by simp only [results, Try.results17]; go_simp) rfl ⟨?_, by refine Below.trans B5 ?_; repeat (first | exact Below.refl _ _ | refine Below.drew ?_ | refine Below.setCell ?_ (by simp; try omega) _ | refine Below.alloc ?_ (by simp; try omega) _)⟩
  simp [bothR, hf, hg, hj]
set_option maxRecDepth 100000 in
set_option maxHeartbeats 4000000 in
theorem impl_Mul (f g : Rv) (W : World) : Calls Try.prog 18 #[.agg #[.bool f.e, .int .i64 f.lo, .int .i64 f.hi], .agg #[.bool g.e, .int .i64 g.lo, .int .i64 g.hi]] W fun e W' => e = .returned (.tuple #[.agg #[.bool (bothR (twoR 5) f g).e, .int .i64 (bothR (twoR 5) f g).lo, .int .i64 (bothR (twoR 5) f g).hi], .bool (f.good && g.good)]) ∧ Below W.heap.size W W' := by
  have P3 : ∀ W', f.good = true → g.good = true → Calls Try.prog 46 #[.int .i64 5, .agg #[.bool f.e, .int .i64 f.lo, .int .i64 f.hi], .agg #[.bool g.e, .int .i64 g.lo, .int .i64 g.hi]] W' fun e W'' => e = .returned (.agg #[.bool ((twoR 5) f g).e, .int .i64 ((twoR 5) f g).lo, .int .i64 ((twoR 5) f g).hi]) ∧ Below W'.heap.size W' W'' := fun W' hf hg => impl_two6_5 f g W' hf hg
  go_enter Try.func18, Try.ntmps18
  go_wp2_with fail
  refine (impl_pairR f g _).mono ?_
  rintro e w2 ⟨rfl, B2⟩
  have B3 : Below W.heap.size W w2 := belR (by repeat (first | exact Below.refl _ _ | refine Below.drew ?_ | refine Below.setCell ?_ (by simp; try omega) _ | refine Below.alloc ?_ (by simp; try omega) _)) B2
  have hs2 := B2.size
  simp at hs2
  obtain ⟨c_w2, y_w2⟩ := bcellR B2
  have p0w2 : w2.cell? ⟨W.heap.size, 0, none⟩ = some (.bool f.e) := by rw [c_w2 (W.heap.size) 0 (by simp <;> omega)]; go_simp
  have p1w2 : w2.cell? ⟨W.heap.size, 1, none⟩ = some (.int .i64 f.lo) := by rw [c_w2 (W.heap.size) 1 (by simp <;> omega)]; go_simp
  have p2w2 : w2.cell? ⟨W.heap.size, 2, none⟩ = some (.int .i64 f.hi) := by rw [c_w2 (W.heap.size) 2 (by simp <;> omega)]; go_simp
  have o0w2 : w2.cell? ⟨W.heap.size + 1, 0, none⟩ = some (.bool g.e) := by rw [c_w2 (W.heap.size + 1) 0 (by simp <;> omega)]; go_simp
  have o1w2 : w2.cell? ⟨W.heap.size + 1, 1, none⟩ = some (.int .i64 g.lo) := by rw [c_w2 (W.heap.size + 1) 1 (by simp <;> omega)]; go_simp
  have o2w2 : w2.cell? ⟨W.heap.size + 1, 2, none⟩ = some (.int .i64 g.hi) := by rw [c_w2 (W.heap.size + 1) 2 (by simp <;> omega)]; go_simp
  have z0w2 : w2.cell? ⟨W.heap.size + 1 + 1, 0, none⟩ = some (.bool false) := by rw [c_w2 (W.heap.size + 1 + 1) 0 (by simp <;> omega)]; go_simp
  have x0w2 : w2.frozen? ⟨W.heap.size + 1 + 1, 0, none⟩ = false := by rw [y_w2 (W.heap.size + 1 + 1) 0 (by simp <;> omega)]; go_simp
  have z1w2 : w2.cell? ⟨W.heap.size + 1 + 1, 1, none⟩ = some (.int .i64 0) := by rw [c_w2 (W.heap.size + 1 + 1) 1 (by simp <;> omega)]; go_simp
  have x1w2 : w2.frozen? ⟨W.heap.size + 1 + 1, 1, none⟩ = false := by rw [y_w2 (W.heap.size + 1 + 1) 1 (by simp <;> omega)]; go_simp
  have z2w2 : w2.cell? ⟨W.heap.size + 1 + 1, 2, none⟩ = some (.int .i64 0) := by rw [c_w2 (W.heap.size + 1 + 1) 2 (by simp <;> omega)]; go_simp
  have x2w2 : w2.frozen? ⟨W.heap.size + 1 + 1, 2, none⟩ = false := by rw [y_w2 (W.heap.size + 1 + 1) 2 (by simp <;> omega)]; go_simp
  clear B2 c_w2 y_w2
  cases hfg : (f.good && g.good)
  · go_wp2
    refine bodyPost_ret (v := .tuple #[.agg #[.bool false, .int .i64 0, .int .i64 0], .bool false]) (by simp only [results, Try.results18]; go_simp) rfl ⟨?_, by refine Below.trans B3 ?_; repeat (first | exact Below.refl _ _ | refine Below.drew ?_ | refine Below.setCell ?_ (by simp; try omega) _ | refine Below.alloc ?_ (by simp; try omega) _)⟩
    rw [show bothR (twoR 5) f g = ⟨false, 0, 0⟩ from if_neg (by rintro ⟨q1, q2⟩; rw [q1, q2] at hfg; cases hfg), hfg]
  have hf : f.good = true := ((Bool.and_eq_true _ _).mp hfg).1
  have hg : g.good = true := ((Bool.and_eq_true _ _).mp hfg).2
  go_wp2_with fail
  refine (P3 _ hf hg).mono ?_
  rintro e w4 ⟨rfl, B4⟩
  have B5 : Below W.heap.size W w4 := belR B3 B4
  have hs4 : W.heap.size + 1 + 1 + 1 ≤ w4.heap.size := Nat.le_trans hs2 B4.size
  obtain ⟨c_w4, y_w4⟩ := bcellR B4
  have p0w4 : w4.cell? ⟨W.heap.size, 0, none⟩ = some (.bool f.e) := (c_w4 _ _ (by omega)).trans p0w2
  have p1w4 : w4.cell? ⟨W.heap.size, 1, none⟩ = some (.int .i64 f.lo) := (c_w4 _ _ (by omega)).trans p1w2
  have p2w4 : w4.cell? ⟨W.heap.size, 2, none⟩ = some (.int .i64 f.hi) := (c_w4 _ _ (by omega)).trans p2w2
  have o0w4 : w4.cell? ⟨W.heap.size + 1, 0, none⟩ = some (.bool g.e) := (c_w4 _ _ (by omega)).trans o0w2
  have o1w4 : w4.cell? ⟨W.heap.size + 1, 1, none⟩ = some (.int .i64 g.lo) := (c_w4 _ _ (by omega)).trans o1w2
  have o2w4 : w4.cell? ⟨W.heap.size + 1, 2, none⟩ = some (.int .i64 g.hi) := (c_w4 _ _ (by omega)).trans o2w2
  have z0w4 : w4.cell? ⟨W.heap.size + 1 + 1, 0, none⟩ = some (.bool false) := (c_w4 _ _ (by omega)).trans z0w2
  have x0w4 : w4.frozen? ⟨W.heap.size + 1 + 1, 0, none⟩ = false := (y_w4 _ _ (by omega)).trans x0w2
  have z1w4 : w4.cell? ⟨W.heap.size + 1 + 1, 1, none⟩ = some (.int .i64 0) := (c_w4 _ _ (by omega)).trans z1w2
  have x1w4 : w4.frozen? ⟨W.heap.size + 1 + 1, 1, none⟩ = false := (y_w4 _ _ (by omega)).trans x1w2
  have z2w4 : w4.cell? ⟨W.heap.size + 1 + 1, 2, none⟩ = some (.int .i64 0) := (c_w4 _ _ (by omega)).trans z2w2
  have x2w4 : w4.frozen? ⟨W.heap.size + 1 + 1, 2, none⟩ = false := (y_w4 _ _ (by omega)).trans x2w2
  clear p0w2 p1w2 p2w2 o0w2 o1w2 o2w2 z0w2 z1w2 z2w2 x0w2 x1w2 x2w2
  clear B4 c_w4 y_w4
  clear P3
  rcases hj : (twoR 5) f g with ⟨je, jlo, jhi⟩
  simp only
  go_wp2
  refine bodyPost_ret (v := .tuple #[.agg #[.bool je, .int .i64 jlo, .int .i64 jhi], .bool true]) (by simp only [results, Try.results18]; go_simp) rfl ⟨?_, by refine Below.trans B5 ?_; repeat (first | exact Below.refl _ _ | refine Below.drew ?_ | refine Below.setCell ?_ (by simp; try omega) _ | refine Below.alloc ?_ (by simp; try omega) _)⟩
  simp [bothR, hf, hg, hj]
def hasR (e : Bool) (lo hi n : Int) : Bool := goodR e lo hi && inR n 0 65535 && !e && inR n lo hi
end Go.Proofs.Ytoeiijkomjlolab.walks
