/-
  The fact of a step of two, of the specification and of the program; they make new memory alone.
-/
import Derived.Test.YtfplpabnfhkmlabProg
import Derived.Test.YtfplpabnfhkmlabFactRun
import Derived.Test.YtfplpabnfhkmlabFactEq
import Derived.Test.YtfplpabnfhkmlabFactGood
import Derived.Test.YtfplpabnfhkmlabTwoWords
import Derived.WalkKit
import Derived.WalkSpells
import Derived.Deep.RegionWith
import Derived.Below
namespace Go.Proofs.Ytfplpabnfhkmlab.walks
open Go.RowKit Go.Proofs.Ytfplpabnfhkmlab.math
set_option linter.unusedVariables false

theorem impl_knownF (n : Int) (W : World) : Calls Try.prog 35 #[.int .i64 n] W fun e W' => e = .returned (.agg #[.bool false, .bool true, .int .i64 n]) ∧ Below W.heap.size W W' := by
  go_enter Try.func35, Try.ntmps35
  go_wp2
  exact bodyPost_ret (v := .agg #[.bool false, .bool true, .int .i64 n]) (by simp [results, Try.results35, go_sem]) rfl ⟨rfl, by
    repeat (first | exact Below.refl _ _ | refine Below.drew ?_ | refine Below.setCell ?_ (by simp; try omega) _ | refine Below.alloc ?_ (by simp; try omega) _)⟩


set_option maxRecDepth 100000 in
set_option maxHeartbeats 4000000 in
theorem spec_two5 (o : Int) (f h : Fv) (W : World) (o3 : 3 ≤ o) (o7 : o ≤ 7) (hf : f.come = true) (hh : h.come = true) :
    Calls Try.prog 33 #[.int .i64 o, .agg #[.bool f.t, .bool f.k, .int .i64 f.n], .agg #[.bool h.t, .bool h.k, .int .i64 h.n]] W fun e W' => e = .returned (twoF o f h).val ∧ Below W.heap.size W W' := by
  have qg := eqGF
  obtain ⟨tf, wf, ef⟩ := come_out hf
  obtain ⟨th, wh, eh⟩ := come_out hh
  clear hf hh
  obtain ⟨t, k, n⟩ := f
  obtain ⟨t', k', m⟩ := h
  simp only at tf th wf wh ef eh
  subst tf th
  show Calls _ _ #[.int .i64 o, .agg #[.bool false, .bool k, .int .i64 n], .agg #[.bool false, .bool k', .int .i64 m]] W _
  cases k <;> cases k'
  · clear wf wh
    by_cases h5 : o = 5
    rotate_left
    · have d5 : (o == 5) = false := by simpa using h5
      have e5 : decide (o = 5) = false := by simpa using h5
      rw [show (twoF o ⟨false, false, n⟩ ⟨false, false, m⟩).val = .agg #[.bool false, .bool false, .int .i64 0] by simp [twoF, h5, Fv.val, any]]
      go_enter Try.func33, Try.ntmps33
      go_wp2
      exact bodyPost_ret (v := .agg #[.bool false, .bool false, .int .i64 0]) (by simp only [results, Try.results33]; go_simp) rfl ⟨rfl, by repeat (first | exact Below.refl _ _ | refine Below.drew ?_ | refine Below.setCell ?_ (by simp; try omega) _ | refine Below.alloc ?_ (by simp; try omega) _)⟩
    subst h5
    have q1 : ∀ w : World, (binOp .eql 40 (.agg #[.bool false, .bool false, .int .i64 n]) (.agg #[.bool false, .bool true, .int .i64 0])).run Try.prog w = .ok (.bool false) w := fun w => by rw [eqF]; simp
    have q2 : ∀ w : World, (binOp .eql 40 (.agg #[.bool false, .bool false, .int .i64 m]) (.agg #[.bool false, .bool true, .int .i64 0])).run Try.prog w = .ok (.bool false) w := fun w => by rw [eqF]; simp
    rw [show (twoF 5 ⟨false, false, n⟩ ⟨false, false, m⟩).val = .agg #[.bool false, .bool false, .int .i64 0] by simp [twoF, Fv.val, any, zeroF]]
    go_enter Try.func33, Try.ntmps33
    go_wp2
    exact bodyPost_ret (v := .agg #[.bool false, .bool false, .int .i64 0]) (by simp only [results, Try.results33]; go_simp) rfl ⟨rfl, by repeat (first | exact Below.refl _ _ | refine Below.drew ?_ | refine Below.setCell ?_ (by simp; try omega) _ | refine Below.alloc ?_ (by simp; try omega) _)⟩
  · clear wf wh
    by_cases h5 : o = 5
    rotate_left
    · have d5 : (o == 5) = false := by simpa using h5
      have e5 : decide (o = 5) = false := by simpa using h5
      rw [show (twoF o ⟨false, false, n⟩ ⟨false, true, m⟩).val = .agg #[.bool false, .bool false, .int .i64 0] by simp [twoF, h5, Fv.val, any]]
      go_enter Try.func33, Try.ntmps33
      go_wp2
      exact bodyPost_ret (v := .agg #[.bool false, .bool false, .int .i64 0]) (by simp only [results, Try.results33]; go_simp) rfl ⟨rfl, by repeat (first | exact Below.refl _ _ | refine Below.drew ?_ | refine Below.setCell ?_ (by simp; try omega) _ | refine Below.alloc ?_ (by simp; try omega) _)⟩
    subst h5
    by_cases hz : m = 0
    · subst hz
      have q1 : ∀ w : World, (binOp .eql 40 (.agg #[.bool false, .bool false, .int .i64 n]) (.agg #[.bool false, .bool true, .int .i64 0])).run Try.prog w = .ok (.bool false) w := fun w => by rw [eqF]; simp
      have q2 : ∀ w : World, (binOp .eql 40 (.agg #[.bool false, .bool true, .int .i64 0]) (.agg #[.bool false, .bool true, .int .i64 0])).run Try.prog w = .ok (.bool true) w := fun w => by rw [eqF]; simp
      rw [show (twoF 5 ⟨false, false, n⟩ ⟨false, true, 0⟩).val = .agg #[.bool false, .bool true, .int .i64 0] by simp [twoF, Fv.val, zeroF]]
      go_enter Try.func33, Try.ntmps33
      go_wp2
      exact bodyPost_ret (v := .agg #[.bool false, .bool true, .int .i64 0]) (by simp only [results, Try.results33]; go_simp) rfl ⟨rfl, by repeat (first | exact Below.refl _ _ | refine Below.drew ?_ | refine Below.setCell ?_ (by simp; try omega) _ | refine Below.alloc ?_ (by simp; try omega) _)⟩
    · have q1 : ∀ w : World, (binOp .eql 40 (.agg #[.bool false, .bool false, .int .i64 n]) (.agg #[.bool false, .bool true, .int .i64 0])).run Try.prog w = .ok (.bool false) w := fun w => by rw [eqF]; simp
      have q2 : ∀ w : World, (binOp .eql 40 (.agg #[.bool false, .bool true, .int .i64 m]) (.agg #[.bool false, .bool true, .int .i64 0])).run Try.prog w = .ok (.bool false) w := fun w => by rw [eqF]; simp [hz]
      rw [show (twoF 5 ⟨false, false, n⟩ ⟨false, true, m⟩).val = .agg #[.bool false, .bool false, .int .i64 0] by simp [twoF, Fv.val, any, zeroF, hz]]
      go_enter Try.func33, Try.ntmps33
      go_wp2
      exact bodyPost_ret (v := .agg #[.bool false, .bool false, .int .i64 0]) (by simp only [results, Try.results33]; go_simp) rfl ⟨rfl, by repeat (first | exact Below.refl _ _ | refine Below.drew ?_ | refine Below.setCell ?_ (by simp; try omega) _ | refine Below.alloc ?_ (by simp; try omega) _)⟩
  · clear wf wh
    by_cases h5 : o = 5
    rotate_left
    · have d5 : (o == 5) = false := by simpa using h5
      have e5 : decide (o = 5) = false := by simpa using h5
      rw [show (twoF o ⟨false, true, n⟩ ⟨false, false, m⟩).val = .agg #[.bool false, .bool false, .int .i64 0] by simp [twoF, h5, Fv.val, any]]
      go_enter Try.func33, Try.ntmps33
      go_wp2
      exact bodyPost_ret (v := .agg #[.bool false, .bool false, .int .i64 0]) (by simp only [results, Try.results33]; go_simp) rfl ⟨rfl, by repeat (first | exact Below.refl _ _ | refine Below.drew ?_ | refine Below.setCell ?_ (by simp; try omega) _ | refine Below.alloc ?_ (by simp; try omega) _)⟩
    subst h5
    by_cases hz : n = 0
    · subst hz
      have q1 : ∀ w : World, (binOp .eql 40 (.agg #[.bool false, .bool true, .int .i64 0]) (.agg #[.bool false, .bool true, .int .i64 0])).run Try.prog w = .ok (.bool true) w := fun w => by rw [eqF]; simp
      have q2 : ∀ w : World, (binOp .eql 40 (.agg #[.bool false, .bool false, .int .i64 m]) (.agg #[.bool false, .bool true, .int .i64 0])).run Try.prog w = .ok (.bool false) w := fun w => by rw [eqF]; simp
      rw [show (twoF 5 ⟨false, true, 0⟩ ⟨false, false, m⟩).val = .agg #[.bool false, .bool true, .int .i64 0] by simp [twoF, Fv.val, zeroF]]
      go_enter Try.func33, Try.ntmps33
      go_wp2
      exact bodyPost_ret (v := .agg #[.bool false, .bool true, .int .i64 0]) (by simp only [results, Try.results33]; go_simp) rfl ⟨rfl, by repeat (first | exact Below.refl _ _ | refine Below.drew ?_ | refine Below.setCell ?_ (by simp; try omega) _ | refine Below.alloc ?_ (by simp; try omega) _)⟩
    · have q1 : ∀ w : World, (binOp .eql 40 (.agg #[.bool false, .bool true, .int .i64 n]) (.agg #[.bool false, .bool true, .int .i64 0])).run Try.prog w = .ok (.bool false) w := fun w => by rw [eqF]; simp [hz]
      have q2 : ∀ w : World, (binOp .eql 40 (.agg #[.bool false, .bool false, .int .i64 m]) (.agg #[.bool false, .bool true, .int .i64 0])).run Try.prog w = .ok (.bool false) w := fun w => by rw [eqF]; simp
      rw [show (twoF 5 ⟨false, true, n⟩ ⟨false, false, m⟩).val = .agg #[.bool false, .bool false, .int .i64 0] by simp [twoF, Fv.val, any, zeroF, hz]]
      go_enter Try.func33, Try.ntmps33
      go_wp2
      exact bodyPost_ret (v := .agg #[.bool false, .bool false, .int .i64 0]) (by simp only [results, Try.results33]; go_simp) rfl ⟨rfl, by repeat (first | exact Below.refl _ _ | refine Below.drew ?_ | refine Below.setCell ?_ (by simp; try omega) _ | refine Below.alloc ?_ (by simp; try omega) _)⟩
  · obtain ⟨p0, p1⟩ := wf rfl
    obtain ⟨r0, r1⟩ := wh rfl
    clear wf wh ef eh
    rw [show (twoF o ⟨false, true, n⟩ ⟨false, true, m⟩).val = .agg #[.bool false, .bool true, .int .i64 (doV o n m)] by simp [twoF, Fv.val]]
    go_enter Try.func33, Try.ntmps33
    go_wp2_with fail
    refine (spec_do2 _ _ _ _ o3 o7 p0 p1 r0 r1).mono ?_
    rintro e w1 ⟨rfl, rfl⟩
    go_wp2
    exact bodyPost_ret (v := .agg #[.bool false, .bool true, .int .i64 (doV o n m)]) (by simp only [results, Try.results33]; go_simp) rfl ⟨rfl, by repeat (first | exact Below.refl _ _ | refine Below.drew ?_ | refine Below.setCell ?_ (by simp; try omega) _ | refine Below.alloc ?_ (by simp; try omega) _)⟩

set_option maxRecDepth 100000 in
set_option maxHeartbeats 4000000 in
theorem impl_two5 (o : Int) (f h : Fv) (W : World) (o3 : 3 ≤ o) (o7 : o ≤ 7) (hf : f.come = true) (hh : h.come = true) :
    Calls Try.prog 36 #[.int .i64 o, .agg #[.bool f.t, .bool f.k, .int .i64 f.n], .agg #[.bool h.t, .bool h.k, .int .i64 h.n]] W fun e W' => e = .returned (twoF o f h).val ∧ Below W.heap.size W W' := by
  have qg := eqGF
  obtain ⟨tf, wf, ef⟩ := come_out hf
  obtain ⟨th, wh, eh⟩ := come_out hh
  clear hf hh
  obtain ⟨t, k, n⟩ := f
  obtain ⟨t', k', m⟩ := h
  simp only at tf th wf wh ef eh
  subst tf th
  show Calls _ _ #[.int .i64 o, .agg #[.bool false, .bool k, .int .i64 n], .agg #[.bool false, .bool k', .int .i64 m]] W _
  cases k <;> cases k'
  · clear wf wh
    by_cases h5 : o = 5
    rotate_left
    · have d5 : (o == 5) = false := by simpa using h5
      have e5 : decide (o = 5) = false := by simpa using h5
      rw [show (twoF o ⟨false, false, n⟩ ⟨false, false, m⟩).val = .agg #[.bool false, .bool false, .int .i64 0] by simp [twoF, h5, Fv.val, any]]
      go_enter Try.func36, Try.ntmps36
      go_wp2_with fail
      refine (impl_knownF _ _).mono ?_
      rintro e w1 ⟨rfl, B1⟩
      have B0 : Below W.heap.size W w1 := bel2 (by repeat (first | exact Below.refl _ _ | refine Below.drew ?_ | refine Below.setCell ?_ (by simp; try omega) _ | refine Below.alloc ?_ (by simp; try omega) _)) B1
      have hs := B1.size
      simp at hs
      have l1 : W.heap.size < w1.heap.size := by omega
      have l2 : W.heap.size + 1 < w1.heap.size := by omega
      have l3 : W.heap.size + 1 + 1 < w1.heap.size := by omega
      obtain ⟨c1, y1⟩ := bcellF B1
      have a0 : w1.cell? ⟨W.heap.size, 0, none⟩ = some (.bool false) := by rw [c1 (W.heap.size) 0 (by simp <;> omega)]; go_simp
      have a1 : w1.cell? ⟨W.heap.size, 1, none⟩ = some (.bool false) := by rw [c1 (W.heap.size) 1 (by simp <;> omega)]; go_simp
      have a2 : w1.cell? ⟨W.heap.size, 2, none⟩ = some (.int .i64 n) := by rw [c1 (W.heap.size) 2 (by simp <;> omega)]; go_simp
      have b0 : w1.cell? ⟨W.heap.size + 1, 0, none⟩ = some (.bool false) := by rw [c1 (W.heap.size + 1) 0 (by simp <;> omega)]; go_simp
      have b1 : w1.cell? ⟨W.heap.size + 1, 1, none⟩ = some (.bool false) := by rw [c1 (W.heap.size + 1) 1 (by simp <;> omega)]; go_simp
      have b2 : w1.cell? ⟨W.heap.size + 1, 2, none⟩ = some (.int .i64 m) := by rw [c1 (W.heap.size + 1) 2 (by simp <;> omega)]; go_simp
      have z0 : w1.cell? ⟨W.heap.size + 1 + 1, 0, none⟩ = some (.bool false) := by rw [c1 (W.heap.size + 1 + 1) 0 (by simp <;> omega)]; go_simp
      have yz0 : w1.frozen? ⟨W.heap.size + 1 + 1, 0, none⟩ = false := by rw [y1 (W.heap.size + 1 + 1) 0 (by simp <;> omega)]; go_simp
      have z1 : w1.cell? ⟨W.heap.size + 1 + 1, 1, none⟩ = some (.bool false) := by rw [c1 (W.heap.size + 1 + 1) 1 (by simp <;> omega)]; go_simp
      have yz1 : w1.frozen? ⟨W.heap.size + 1 + 1, 1, none⟩ = false := by rw [y1 (W.heap.size + 1 + 1) 1 (by simp <;> omega)]; go_simp
      have z2 : w1.cell? ⟨W.heap.size + 1 + 1, 2, none⟩ = some (.int .i64 0) := by rw [c1 (W.heap.size + 1 + 1) 2 (by simp <;> omega)]; go_simp
      have yz2 : w1.frozen? ⟨W.heap.size + 1 + 1, 2, none⟩ = false := by rw [y1 (W.heap.size + 1 + 1) 2 (by simp <;> omega)]; go_simp
      clear B1 c1 y1
      go_wp2
      exact bodyPost_ret (v := .agg #[.bool false, .bool false, .int .i64 0]) (by simp only [results, Try.results36]; go_simp) rfl ⟨rfl, by refine Below.trans B0 ?_; repeat (first | exact Below.refl _ _ | refine Below.drew ?_ | refine Below.setCell ?_ (by simp; try omega) _ | refine Below.alloc ?_ (by simp; try omega) _)⟩
    subst h5
    have q1 : ∀ w : World, (binOp .eql 40 (.agg #[.bool false, .bool false, .int .i64 n]) (.agg #[.bool false, .bool true, .int .i64 0])).run Try.prog w = .ok (.bool false) w := fun w => by rw [eqF]; simp
    have q2 : ∀ w : World, (binOp .eql 40 (.agg #[.bool false, .bool false, .int .i64 m]) (.agg #[.bool false, .bool true, .int .i64 0])).run Try.prog w = .ok (.bool false) w := fun w => by rw [eqF]; simp
    rw [show (twoF 5 ⟨false, false, n⟩ ⟨false, false, m⟩).val = .agg #[.bool false, .bool false, .int .i64 0] by simp [twoF, Fv.val, any, zeroF]]
    go_enter Try.func36, Try.ntmps36
    go_wp2_with fail
    refine (impl_knownF _ _).mono ?_
    rintro e w1 ⟨rfl, B1⟩
    have B0 : Below W.heap.size W w1 := bel2 (by repeat (first | exact Below.refl _ _ | refine Below.drew ?_ | refine Below.setCell ?_ (by simp; try omega) _ | refine Below.alloc ?_ (by simp; try omega) _)) B1
    have hs := B1.size
    simp at hs
    have l1 : W.heap.size < w1.heap.size := by omega
    have l2 : W.heap.size + 1 < w1.heap.size := by omega
    have l3 : W.heap.size + 1 + 1 < w1.heap.size := by omega
    obtain ⟨c1, y1⟩ := bcellF B1
    have a0 : w1.cell? ⟨W.heap.size, 0, none⟩ = some (.bool false) := by rw [c1 (W.heap.size) 0 (by simp <;> omega)]; go_simp
    have a1 : w1.cell? ⟨W.heap.size, 1, none⟩ = some (.bool false) := by rw [c1 (W.heap.size) 1 (by simp <;> omega)]; go_simp
    have a2 : w1.cell? ⟨W.heap.size, 2, none⟩ = some (.int .i64 n) := by rw [c1 (W.heap.size) 2 (by simp <;> omega)]; go_simp
    have b0 : w1.cell? ⟨W.heap.size + 1, 0, none⟩ = some (.bool false) := by rw [c1 (W.heap.size + 1) 0 (by simp <;> omega)]; go_simp
    have b1 : w1.cell? ⟨W.heap.size + 1, 1, none⟩ = some (.bool false) := by rw [c1 (W.heap.size + 1) 1 (by simp <;> omega)]; go_simp
    have b2 : w1.cell? ⟨W.heap.size + 1, 2, none⟩ = some (.int .i64 m) := by rw [c1 (W.heap.size + 1) 2 (by simp <;> omega)]; go_simp
    have z0 : w1.cell? ⟨W.heap.size + 1 + 1, 0, none⟩ = some (.bool false) := by rw [c1 (W.heap.size + 1 + 1) 0 (by simp <;> omega)]; go_simp
    have yz0 : w1.frozen? ⟨W.heap.size + 1 + 1, 0, none⟩ = false := by rw [y1 (W.heap.size + 1 + 1) 0 (by simp <;> omega)]; go_simp
    have z1 : w1.cell? ⟨W.heap.size + 1 + 1, 1, none⟩ = some (.bool false) := by rw [c1 (W.heap.size + 1 + 1) 1 (by simp <;> omega)]; go_simp
    have yz1 : w1.frozen? ⟨W.heap.size + 1 + 1, 1, none⟩ = false := by rw [y1 (W.heap.size + 1 + 1) 1 (by simp <;> omega)]; go_simp
    have z2 : w1.cell? ⟨W.heap.size + 1 + 1, 2, none⟩ = some (.int .i64 0) := by rw [c1 (W.heap.size + 1 + 1) 2 (by simp <;> omega)]; go_simp
    have yz2 : w1.frozen? ⟨W.heap.size + 1 + 1, 2, none⟩ = false := by rw [y1 (W.heap.size + 1 + 1) 2 (by simp <;> omega)]; go_simp
    clear B1 c1 y1
    go_wp2
    exact bodyPost_ret (v := .agg #[.bool false, .bool false, .int .i64 0]) (by simp only [results, Try.results36]; go_simp) rfl ⟨rfl, by refine Below.trans B0 ?_; repeat (first | exact Below.refl _ _ | refine Below.drew ?_ | refine Below.setCell ?_ (by simp; try omega) _ | refine Below.alloc ?_ (by simp; try omega) _)⟩
  · clear wf wh
    by_cases h5 : o = 5
    rotate_left
    · have d5 : (o == 5) = false := by simpa using h5
      have e5 : decide (o = 5) = false := by simpa using h5
      rw [show (twoF o ⟨false, false, n⟩ ⟨false, true, m⟩).val = .agg #[.bool false, .bool false, .int .i64 0] by simp [twoF, h5, Fv.val, any]]
      go_enter Try.func36, Try.ntmps36
      go_wp2_with fail
      refine (impl_knownF _ _).mono ?_
      rintro e w1 ⟨rfl, B1⟩
      have B0 : Below W.heap.size W w1 := bel2 (by repeat (first | exact Below.refl _ _ | refine Below.drew ?_ | refine Below.setCell ?_ (by simp; try omega) _ | refine Below.alloc ?_ (by simp; try omega) _)) B1
      have hs := B1.size
      simp at hs
      have l1 : W.heap.size < w1.heap.size := by omega
      have l2 : W.heap.size + 1 < w1.heap.size := by omega
      have l3 : W.heap.size + 1 + 1 < w1.heap.size := by omega
      obtain ⟨c1, y1⟩ := bcellF B1
      have a0 : w1.cell? ⟨W.heap.size, 0, none⟩ = some (.bool false) := by rw [c1 (W.heap.size) 0 (by simp <;> omega)]; go_simp
      have a1 : w1.cell? ⟨W.heap.size, 1, none⟩ = some (.bool false) := by rw [c1 (W.heap.size) 1 (by simp <;> omega)]; go_simp
      have a2 : w1.cell? ⟨W.heap.size, 2, none⟩ = some (.int .i64 n) := by rw [c1 (W.heap.size) 2 (by simp <;> omega)]; go_simp
      have b0 : w1.cell? ⟨W.heap.size + 1, 0, none⟩ = some (.bool false) := by rw [c1 (W.heap.size + 1) 0 (by simp <;> omega)]; go_simp
      have b1 : w1.cell? ⟨W.heap.size + 1, 1, none⟩ = some (.bool true) := by rw [c1 (W.heap.size + 1) 1 (by simp <;> omega)]; go_simp
      have b2 : w1.cell? ⟨W.heap.size + 1, 2, none⟩ = some (.int .i64 m) := by rw [c1 (W.heap.size + 1) 2 (by simp <;> omega)]; go_simp
      have z0 : w1.cell? ⟨W.heap.size + 1 + 1, 0, none⟩ = some (.bool false) := by rw [c1 (W.heap.size + 1 + 1) 0 (by simp <;> omega)]; go_simp
      have yz0 : w1.frozen? ⟨W.heap.size + 1 + 1, 0, none⟩ = false := by rw [y1 (W.heap.size + 1 + 1) 0 (by simp <;> omega)]; go_simp
      have z1 : w1.cell? ⟨W.heap.size + 1 + 1, 1, none⟩ = some (.bool false) := by rw [c1 (W.heap.size + 1 + 1) 1 (by simp <;> omega)]; go_simp
      have yz1 : w1.frozen? ⟨W.heap.size + 1 + 1, 1, none⟩ = false := by rw [y1 (W.heap.size + 1 + 1) 1 (by simp <;> omega)]; go_simp
      have z2 : w1.cell? ⟨W.heap.size + 1 + 1, 2, none⟩ = some (.int .i64 0) := by rw [c1 (W.heap.size + 1 + 1) 2 (by simp <;> omega)]; go_simp
      have yz2 : w1.frozen? ⟨W.heap.size + 1 + 1, 2, none⟩ = false := by rw [y1 (W.heap.size + 1 + 1) 2 (by simp <;> omega)]; go_simp
      clear B1 c1 y1
      go_wp2
      exact bodyPost_ret (v := .agg #[.bool false, .bool false, .int .i64 0]) (by simp only [results, Try.results36]; go_simp) rfl ⟨rfl, by refine Below.trans B0 ?_; repeat (first | exact Below.refl _ _ | refine Below.drew ?_ | refine Below.setCell ?_ (by simp; try omega) _ | refine Below.alloc ?_ (by simp; try omega) _)⟩
    subst h5
    by_cases hz : m = 0
    · subst hz
      have q1 : ∀ w : World, (binOp .eql 40 (.agg #[.bool false, .bool false, .int .i64 n]) (.agg #[.bool false, .bool true, .int .i64 0])).run Try.prog w = .ok (.bool false) w := fun w => by rw [eqF]; simp
      have q2 : ∀ w : World, (binOp .eql 40 (.agg #[.bool false, .bool true, .int .i64 0]) (.agg #[.bool false, .bool true, .int .i64 0])).run Try.prog w = .ok (.bool true) w := fun w => by rw [eqF]; simp
      rw [show (twoF 5 ⟨false, false, n⟩ ⟨false, true, 0⟩).val = .agg #[.bool false, .bool true, .int .i64 0] by simp [twoF, Fv.val, zeroF]]
      go_enter Try.func36, Try.ntmps36
      go_wp2_with fail
      refine (impl_knownF _ _).mono ?_
      rintro e w1 ⟨rfl, B1⟩
      have B0 : Below W.heap.size W w1 := bel2 (by repeat (first | exact Below.refl _ _ | refine Below.drew ?_ | refine Below.setCell ?_ (by simp; try omega) _ | refine Below.alloc ?_ (by simp; try omega) _)) B1
      have hs := B1.size
      simp at hs
      have l1 : W.heap.size < w1.heap.size := by omega
      have l2 : W.heap.size + 1 < w1.heap.size := by omega
      have l3 : W.heap.size + 1 + 1 < w1.heap.size := by omega
      obtain ⟨c1, y1⟩ := bcellF B1
      have a0 : w1.cell? ⟨W.heap.size, 0, none⟩ = some (.bool false) := by rw [c1 (W.heap.size) 0 (by simp <;> omega)]; go_simp
      have a1 : w1.cell? ⟨W.heap.size, 1, none⟩ = some (.bool false) := by rw [c1 (W.heap.size) 1 (by simp <;> omega)]; go_simp
      have a2 : w1.cell? ⟨W.heap.size, 2, none⟩ = some (.int .i64 n) := by rw [c1 (W.heap.size) 2 (by simp <;> omega)]; go_simp
      have b0 : w1.cell? ⟨W.heap.size + 1, 0, none⟩ = some (.bool false) := by rw [c1 (W.heap.size + 1) 0 (by simp <;> omega)]; go_simp
      have b1 : w1.cell? ⟨W.heap.size + 1, 1, none⟩ = some (.bool true) := by rw [c1 (W.heap.size + 1) 1 (by simp <;> omega)]; go_simp
      have b2 : w1.cell? ⟨W.heap.size + 1, 2, none⟩ = some (.int .i64 0) := by rw [c1 (W.heap.size + 1) 2 (by simp <;> omega)]; go_simp
      have z0 : w1.cell? ⟨W.heap.size + 1 + 1, 0, none⟩ = some (.bool false) := by rw [c1 (W.heap.size + 1 + 1) 0 (by simp <;> omega)]; go_simp
      have yz0 : w1.frozen? ⟨W.heap.size + 1 + 1, 0, none⟩ = false := by rw [y1 (W.heap.size + 1 + 1) 0 (by simp <;> omega)]; go_simp
      have z1 : w1.cell? ⟨W.heap.size + 1 + 1, 1, none⟩ = some (.bool false) := by rw [c1 (W.heap.size + 1 + 1) 1 (by simp <;> omega)]; go_simp
      have yz1 : w1.frozen? ⟨W.heap.size + 1 + 1, 1, none⟩ = false := by rw [y1 (W.heap.size + 1 + 1) 1 (by simp <;> omega)]; go_simp
      have z2 : w1.cell? ⟨W.heap.size + 1 + 1, 2, none⟩ = some (.int .i64 0) := by rw [c1 (W.heap.size + 1 + 1) 2 (by simp <;> omega)]; go_simp
      have yz2 : w1.frozen? ⟨W.heap.size + 1 + 1, 2, none⟩ = false := by rw [y1 (W.heap.size + 1 + 1) 2 (by simp <;> omega)]; go_simp
      clear B1 c1 y1
      go_wp2
      exact bodyPost_ret (v := .agg #[.bool false, .bool true, .int .i64 0]) (by simp only [results, Try.results36]; go_simp) rfl ⟨rfl, by refine Below.trans B0 ?_; repeat (first | exact Below.refl _ _ | refine Below.drew ?_ | refine Below.setCell ?_ (by simp; try omega) _ | refine Below.alloc ?_ (by simp; try omega) _)⟩
    · have q1 : ∀ w : World, (binOp .eql 40 (.agg #[.bool false, .bool false, .int .i64 n]) (.agg #[.bool false, .bool true, .int .i64 0])).run Try.prog w = .ok (.bool false) w := fun w => by rw [eqF]; simp
      have q2 : ∀ w : World, (binOp .eql 40 (.agg #[.bool false, .bool true, .int .i64 m]) (.agg #[.bool false, .bool true, .int .i64 0])).run Try.prog w = .ok (.bool false) w := fun w => by rw [eqF]; simp [hz]
      rw [show (twoF 5 ⟨false, false, n⟩ ⟨false, true, m⟩).val = .agg #[.bool false, .bool false, .int .i64 0] by simp [twoF, Fv.val, any, zeroF, hz]]
      go_enter Try.func36, Try.ntmps36
      go_wp2_with fail
      refine (impl_knownF _ _).mono ?_
      rintro e w1 ⟨rfl, B1⟩
      have B0 : Below W.heap.size W w1 := bel2 (by repeat (first | exact Below.refl _ _ | refine Below.drew ?_ | refine Below.setCell ?_ (by simp; try omega) _ | refine Below.alloc ?_ (by simp; try omega) _)) B1
      have hs := B1.size
      simp at hs
      have l1 : W.heap.size < w1.heap.size := by omega
      have l2 : W.heap.size + 1 < w1.heap.size := by omega
      have l3 : W.heap.size + 1 + 1 < w1.heap.size := by omega
      obtain ⟨c1, y1⟩ := bcellF B1
      have a0 : w1.cell? ⟨W.heap.size, 0, none⟩ = some (.bool false) := by rw [c1 (W.heap.size) 0 (by simp <;> omega)]; go_simp
      have a1 : w1.cell? ⟨W.heap.size, 1, none⟩ = some (.bool false) := by rw [c1 (W.heap.size) 1 (by simp <;> omega)]; go_simp
      have a2 : w1.cell? ⟨W.heap.size, 2, none⟩ = some (.int .i64 n) := by rw [c1 (W.heap.size) 2 (by simp <;> omega)]; go_simp
      have b0 : w1.cell? ⟨W.heap.size + 1, 0, none⟩ = some (.bool false) := by rw [c1 (W.heap.size + 1) 0 (by simp <;> omega)]; go_simp
      have b1 : w1.cell? ⟨W.heap.size + 1, 1, none⟩ = some (.bool true) := by rw [c1 (W.heap.size + 1) 1 (by simp <;> omega)]; go_simp
      have b2 : w1.cell? ⟨W.heap.size + 1, 2, none⟩ = some (.int .i64 m) := by rw [c1 (W.heap.size + 1) 2 (by simp <;> omega)]; go_simp
      have z0 : w1.cell? ⟨W.heap.size + 1 + 1, 0, none⟩ = some (.bool false) := by rw [c1 (W.heap.size + 1 + 1) 0 (by simp <;> omega)]; go_simp
      have yz0 : w1.frozen? ⟨W.heap.size + 1 + 1, 0, none⟩ = false := by rw [y1 (W.heap.size + 1 + 1) 0 (by simp <;> omega)]; go_simp
      have z1 : w1.cell? ⟨W.heap.size + 1 + 1, 1, none⟩ = some (.bool false) := by rw [c1 (W.heap.size + 1 + 1) 1 (by simp <;> omega)]; go_simp
      have yz1 : w1.frozen? ⟨W.heap.size + 1 + 1, 1, none⟩ = false := by rw [y1 (W.heap.size + 1 + 1) 1 (by simp <;> omega)]; go_simp
      have z2 : w1.cell? ⟨W.heap.size + 1 + 1, 2, none⟩ = some (.int .i64 0) := by rw [c1 (W.heap.size + 1 + 1) 2 (by simp <;> omega)]; go_simp
      have yz2 : w1.frozen? ⟨W.heap.size + 1 + 1, 2, none⟩ = false := by rw [y1 (W.heap.size + 1 + 1) 2 (by simp <;> omega)]; go_simp
      clear B1 c1 y1
      go_wp2
      exact bodyPost_ret (v := .agg #[.bool false, .bool false, .int .i64 0]) (by simp only [results, Try.results36]; go_simp) rfl ⟨rfl, by refine Below.trans B0 ?_; repeat (first | exact Below.refl _ _ | refine Below.drew ?_ | refine Below.setCell ?_ (by simp; try omega) _ | refine Below.alloc ?_ (by simp; try omega) _)⟩
  · clear wf wh
    by_cases h5 : o = 5
    rotate_left
    · have d5 : (o == 5) = false := by simpa using h5
      have e5 : decide (o = 5) = false := by simpa using h5
      rw [show (twoF o ⟨false, true, n⟩ ⟨false, false, m⟩).val = .agg #[.bool false, .bool false, .int .i64 0] by simp [twoF, h5, Fv.val, any]]
      go_enter Try.func36, Try.ntmps36
      go_wp2_with fail
      refine (impl_knownF _ _).mono ?_
      rintro e w1 ⟨rfl, B1⟩
      have B0 : Below W.heap.size W w1 := bel2 (by repeat (first | exact Below.refl _ _ | refine Below.drew ?_ | refine Below.setCell ?_ (by simp; try omega) _ | refine Below.alloc ?_ (by simp; try omega) _)) B1
      have hs := B1.size
      simp at hs
      have l1 : W.heap.size < w1.heap.size := by omega
      have l2 : W.heap.size + 1 < w1.heap.size := by omega
      have l3 : W.heap.size + 1 + 1 < w1.heap.size := by omega
      obtain ⟨c1, y1⟩ := bcellF B1
      have a0 : w1.cell? ⟨W.heap.size, 0, none⟩ = some (.bool false) := by rw [c1 (W.heap.size) 0 (by simp <;> omega)]; go_simp
      have a1 : w1.cell? ⟨W.heap.size, 1, none⟩ = some (.bool true) := by rw [c1 (W.heap.size) 1 (by simp <;> omega)]; go_simp
      have a2 : w1.cell? ⟨W.heap.size, 2, none⟩ = some (.int .i64 n) := by rw [c1 (W.heap.size) 2 (by simp <;> omega)]; go_simp
      have b0 : w1.cell? ⟨W.heap.size + 1, 0, none⟩ = some (.bool false) := by rw [c1 (W.heap.size + 1) 0 (by simp <;> omega)]; go_simp
      have b1 : w1.cell? ⟨W.heap.size + 1, 1, none⟩ = some (.bool false) := by rw [c1 (W.heap.size + 1) 1 (by simp <;> omega)]; go_simp
      have b2 : w1.cell? ⟨W.heap.size + 1, 2, none⟩ = some (.int .i64 m) := by rw [c1 (W.heap.size + 1) 2 (by simp <;> omega)]; go_simp
      have z0 : w1.cell? ⟨W.heap.size + 1 + 1, 0, none⟩ = some (.bool false) := by rw [c1 (W.heap.size + 1 + 1) 0 (by simp <;> omega)]; go_simp
      have yz0 : w1.frozen? ⟨W.heap.size + 1 + 1, 0, none⟩ = false := by rw [y1 (W.heap.size + 1 + 1) 0 (by simp <;> omega)]; go_simp
      have z1 : w1.cell? ⟨W.heap.size + 1 + 1, 1, none⟩ = some (.bool false) := by rw [c1 (W.heap.size + 1 + 1) 1 (by simp <;> omega)]; go_simp
      have yz1 : w1.frozen? ⟨W.heap.size + 1 + 1, 1, none⟩ = false := by rw [y1 (W.heap.size + 1 + 1) 1 (by simp <;> omega)]; go_simp
      have z2 : w1.cell? ⟨W.heap.size + 1 + 1, 2, none⟩ = some (.int .i64 0) := by rw [c1 (W.heap.size + 1 + 1) 2 (by simp <;> omega)]; go_simp
      have yz2 : w1.frozen? ⟨W.heap.size + 1 + 1, 2, none⟩ = false := by rw [y1 (W.heap.size + 1 + 1) 2 (by simp <;> omega)]; go_simp
      clear B1 c1 y1
      go_wp2
      exact bodyPost_ret (v := .agg #[.bool false, .bool false, .int .i64 0]) (by simp only [results, Try.results36]; go_simp) rfl ⟨rfl, by refine Below.trans B0 ?_; repeat (first | exact Below.refl _ _ | refine Below.drew ?_ | refine Below.setCell ?_ (by simp; try omega) _ | refine Below.alloc ?_ (by simp; try omega) _)⟩
    subst h5
    by_cases hz : n = 0
    · subst hz
      have q1 : ∀ w : World, (binOp .eql 40 (.agg #[.bool false, .bool true, .int .i64 0]) (.agg #[.bool false, .bool true, .int .i64 0])).run Try.prog w = .ok (.bool true) w := fun w => by rw [eqF]; simp
      have q2 : ∀ w : World, (binOp .eql 40 (.agg #[.bool false, .bool false, .int .i64 m]) (.agg #[.bool false, .bool true, .int .i64 0])).run Try.prog w = .ok (.bool false) w := fun w => by rw [eqF]; simp
      rw [show (twoF 5 ⟨false, true, 0⟩ ⟨false, false, m⟩).val = .agg #[.bool false, .bool true, .int .i64 0] by simp [twoF, Fv.val, zeroF]]
      go_enter Try.func36, Try.ntmps36
      go_wp2_with fail
      refine (impl_knownF _ _).mono ?_
      rintro e w1 ⟨rfl, B1⟩
      have B0 : Below W.heap.size W w1 := bel2 (by repeat (first | exact Below.refl _ _ | refine Below.drew ?_ | refine Below.setCell ?_ (by simp; try omega) _ | refine Below.alloc ?_ (by simp; try omega) _)) B1
      have hs := B1.size
      simp at hs
      have l1 : W.heap.size < w1.heap.size := by omega
      have l2 : W.heap.size + 1 < w1.heap.size := by omega
      have l3 : W.heap.size + 1 + 1 < w1.heap.size := by omega
      obtain ⟨c1, y1⟩ := bcellF B1
      have a0 : w1.cell? ⟨W.heap.size, 0, none⟩ = some (.bool false) := by rw [c1 (W.heap.size) 0 (by simp <;> omega)]; go_simp
      have a1 : w1.cell? ⟨W.heap.size, 1, none⟩ = some (.bool true) := by rw [c1 (W.heap.size) 1 (by simp <;> omega)]; go_simp
      have a2 : w1.cell? ⟨W.heap.size, 2, none⟩ = some (.int .i64 0) := by rw [c1 (W.heap.size) 2 (by simp <;> omega)]; go_simp
      have b0 : w1.cell? ⟨W.heap.size + 1, 0, none⟩ = some (.bool false) := by rw [c1 (W.heap.size + 1) 0 (by simp <;> omega)]; go_simp
      have b1 : w1.cell? ⟨W.heap.size + 1, 1, none⟩ = some (.bool false) := by rw [c1 (W.heap.size + 1) 1 (by simp <;> omega)]; go_simp
      have b2 : w1.cell? ⟨W.heap.size + 1, 2, none⟩ = some (.int .i64 m) := by rw [c1 (W.heap.size + 1) 2 (by simp <;> omega)]; go_simp
      have z0 : w1.cell? ⟨W.heap.size + 1 + 1, 0, none⟩ = some (.bool false) := by rw [c1 (W.heap.size + 1 + 1) 0 (by simp <;> omega)]; go_simp
      have yz0 : w1.frozen? ⟨W.heap.size + 1 + 1, 0, none⟩ = false := by rw [y1 (W.heap.size + 1 + 1) 0 (by simp <;> omega)]; go_simp
      have z1 : w1.cell? ⟨W.heap.size + 1 + 1, 1, none⟩ = some (.bool false) := by rw [c1 (W.heap.size + 1 + 1) 1 (by simp <;> omega)]; go_simp
      have yz1 : w1.frozen? ⟨W.heap.size + 1 + 1, 1, none⟩ = false := by rw [y1 (W.heap.size + 1 + 1) 1 (by simp <;> omega)]; go_simp
      have z2 : w1.cell? ⟨W.heap.size + 1 + 1, 2, none⟩ = some (.int .i64 0) := by rw [c1 (W.heap.size + 1 + 1) 2 (by simp <;> omega)]; go_simp
      have yz2 : w1.frozen? ⟨W.heap.size + 1 + 1, 2, none⟩ = false := by rw [y1 (W.heap.size + 1 + 1) 2 (by simp <;> omega)]; go_simp
      clear B1 c1 y1
      go_wp2
      exact bodyPost_ret (v := .agg #[.bool false, .bool true, .int .i64 0]) (by simp only [results, Try.results36]; go_simp) rfl ⟨rfl, by refine Below.trans B0 ?_; repeat (first | exact Below.refl _ _ | refine Below.drew ?_ | refine Below.setCell ?_ (by simp; try omega) _ | refine Below.alloc ?_ (by simp; try omega) _)⟩
    · have q1 : ∀ w : World, (binOp .eql 40 (.agg #[.bool false, .bool true, .int .i64 n]) (.agg #[.bool false, .bool true, .int .i64 0])).run Try.prog w = .ok (.bool false) w := fun w => by rw [eqF]; simp [hz]
      have q2 : ∀ w : World, (binOp .eql 40 (.agg #[.bool false, .bool false, .int .i64 m]) (.agg #[.bool false, .bool true, .int .i64 0])).run Try.prog w = .ok (.bool false) w := fun w => by rw [eqF]; simp
      rw [show (twoF 5 ⟨false, true, n⟩ ⟨false, false, m⟩).val = .agg #[.bool false, .bool false, .int .i64 0] by simp [twoF, Fv.val, any, zeroF, hz]]
      go_enter Try.func36, Try.ntmps36
      go_wp2_with fail
      refine (impl_knownF _ _).mono ?_
      rintro e w1 ⟨rfl, B1⟩
      have B0 : Below W.heap.size W w1 := bel2 (by repeat (first | exact Below.refl _ _ | refine Below.drew ?_ | refine Below.setCell ?_ (by simp; try omega) _ | refine Below.alloc ?_ (by simp; try omega) _)) B1
      have hs := B1.size
      simp at hs
      have l1 : W.heap.size < w1.heap.size := by omega
      have l2 : W.heap.size + 1 < w1.heap.size := by omega
      have l3 : W.heap.size + 1 + 1 < w1.heap.size := by omega
      obtain ⟨c1, y1⟩ := bcellF B1
      have a0 : w1.cell? ⟨W.heap.size, 0, none⟩ = some (.bool false) := by rw [c1 (W.heap.size) 0 (by simp <;> omega)]; go_simp
      have a1 : w1.cell? ⟨W.heap.size, 1, none⟩ = some (.bool true) := by rw [c1 (W.heap.size) 1 (by simp <;> omega)]; go_simp
      have a2 : w1.cell? ⟨W.heap.size, 2, none⟩ = some (.int .i64 n) := by rw [c1 (W.heap.size) 2 (by simp <;> omega)]; go_simp
      have b0 : w1.cell? ⟨W.heap.size + 1, 0, none⟩ = some (.bool false) := by rw [c1 (W.heap.size + 1) 0 (by simp <;> omega)]; go_simp
      have b1 : w1.cell? ⟨W.heap.size + 1, 1, none⟩ = some (.bool false) := by rw [c1 (W.heap.size + 1) 1 (by simp <;> omega)]; go_simp
      have b2 : w1.cell? ⟨W.heap.size + 1, 2, none⟩ = some (.int .i64 m) := by rw [c1 (W.heap.size + 1) 2 (by simp <;> omega)]; go_simp
      have z0 : w1.cell? ⟨W.heap.size + 1 + 1, 0, none⟩ = some (.bool false) := by rw [c1 (W.heap.size + 1 + 1) 0 (by simp <;> omega)]; go_simp
      have yz0 : w1.frozen? ⟨W.heap.size + 1 + 1, 0, none⟩ = false := by rw [y1 (W.heap.size + 1 + 1) 0 (by simp <;> omega)]; go_simp
      have z1 : w1.cell? ⟨W.heap.size + 1 + 1, 1, none⟩ = some (.bool false) := by rw [c1 (W.heap.size + 1 + 1) 1 (by simp <;> omega)]; go_simp
      have yz1 : w1.frozen? ⟨W.heap.size + 1 + 1, 1, none⟩ = false := by rw [y1 (W.heap.size + 1 + 1) 1 (by simp <;> omega)]; go_simp
      have z2 : w1.cell? ⟨W.heap.size + 1 + 1, 2, none⟩ = some (.int .i64 0) := by rw [c1 (W.heap.size + 1 + 1) 2 (by simp <;> omega)]; go_simp
      have yz2 : w1.frozen? ⟨W.heap.size + 1 + 1, 2, none⟩ = false := by rw [y1 (W.heap.size + 1 + 1) 2 (by simp <;> omega)]; go_simp
      clear B1 c1 y1
      go_wp2
      exact bodyPost_ret (v := .agg #[.bool false, .bool false, .int .i64 0]) (by simp only [results, Try.results36]; go_simp) rfl ⟨rfl, by refine Below.trans B0 ?_; repeat (first | exact Below.refl _ _ | refine Below.drew ?_ | refine Below.setCell ?_ (by simp; try omega) _ | refine Below.alloc ?_ (by simp; try omega) _)⟩
  · obtain ⟨p0, p1⟩ := wf rfl
    obtain ⟨r0, r1⟩ := wh rfl
    clear wf wh ef eh
    rw [show (twoF o ⟨false, true, n⟩ ⟨false, true, m⟩).val = .agg #[.bool false, .bool true, .int .i64 (doV o n m)] by simp [twoF, Fv.val]]
    go_enter Try.func36, Try.ntmps36
    go_wp2_with fail
    refine (impl_knownF _ _).mono ?_
    rintro e w1 ⟨rfl, B1⟩
    have B0 : Below W.heap.size W w1 := bel2 (by repeat (first | exact Below.refl _ _ | refine Below.drew ?_ | refine Below.setCell ?_ (by simp; try omega) _ | refine Below.alloc ?_ (by simp; try omega) _)) B1
    have hs := B1.size
    simp at hs
    have l1 : W.heap.size < w1.heap.size := by omega
    have l2 : W.heap.size + 1 < w1.heap.size := by omega
    have l3 : W.heap.size + 1 + 1 < w1.heap.size := by omega
    obtain ⟨c1, y1⟩ := bcellF B1
    have a0 : w1.cell? ⟨W.heap.size, 0, none⟩ = some (.bool false) := by rw [c1 (W.heap.size) 0 (by simp <;> omega)]; go_simp
    have a1 : w1.cell? ⟨W.heap.size, 1, none⟩ = some (.bool true) := by rw [c1 (W.heap.size) 1 (by simp <;> omega)]; go_simp
    have a2 : w1.cell? ⟨W.heap.size, 2, none⟩ = some (.int .i64 n) := by rw [c1 (W.heap.size) 2 (by simp <;> omega)]; go_simp
    have b0 : w1.cell? ⟨W.heap.size + 1, 0, none⟩ = some (.bool false) := by rw [c1 (W.heap.size + 1) 0 (by simp <;> omega)]; go_simp
    have b1 : w1.cell? ⟨W.heap.size + 1, 1, none⟩ = some (.bool true) := by rw [c1 (W.heap.size + 1) 1 (by simp <;> omega)]; go_simp
    have b2 : w1.cell? ⟨W.heap.size + 1, 2, none⟩ = some (.int .i64 m) := by rw [c1 (W.heap.size + 1) 2 (by simp <;> omega)]; go_simp
    have z0 : w1.cell? ⟨W.heap.size + 1 + 1, 0, none⟩ = some (.bool false) := by rw [c1 (W.heap.size + 1 + 1) 0 (by simp <;> omega)]; go_simp
    have yz0 : w1.frozen? ⟨W.heap.size + 1 + 1, 0, none⟩ = false := by rw [y1 (W.heap.size + 1 + 1) 0 (by simp <;> omega)]; go_simp
    have z1 : w1.cell? ⟨W.heap.size + 1 + 1, 1, none⟩ = some (.bool false) := by rw [c1 (W.heap.size + 1 + 1) 1 (by simp <;> omega)]; go_simp
    have yz1 : w1.frozen? ⟨W.heap.size + 1 + 1, 1, none⟩ = false := by rw [y1 (W.heap.size + 1 + 1) 1 (by simp <;> omega)]; go_simp
    have z2 : w1.cell? ⟨W.heap.size + 1 + 1, 2, none⟩ = some (.int .i64 0) := by rw [c1 (W.heap.size + 1 + 1) 2 (by simp <;> omega)]; go_simp
    have yz2 : w1.frozen? ⟨W.heap.size + 1 + 1, 2, none⟩ = false := by rw [y1 (W.heap.size + 1 + 1) 2 (by simp <;> omega)]; go_simp
    clear B1 c1 y1
    go_wp2_with fail
    refine (impl_pair _ _ _ _ o3 o7 p0 p1 r0 r1).mono ?_
    rintro e w2 ⟨rfl, hw2⟩
    rw [hw2]
    clear hw2 w2
    go_wp2_with fail
    refine (impl_knownF _ _).mono ?_
    rintro e w3 ⟨rfl, B3⟩
    have B4 : Below W.heap.size W w3 := bel2 (B0.alloc (by omega) _) B3
    have hs3 := B3.size
    simp at hs3
    have l4 : W.heap.size + 1 + 1 < w3.heap.size := by omega
    obtain ⟨c3, y3⟩ := bcellF B3
    have x0 : w3.cell? ⟨W.heap.size + 1 + 1, 0, none⟩ = some (.bool false) := by rw [c3 (W.heap.size + 1 + 1) 0 (by simp <;> omega)]; go_simp
    have yx0 : w3.frozen? ⟨W.heap.size + 1 + 1, 0, none⟩ = false := by rw [y3 (W.heap.size + 1 + 1) 0 (by simp <;> omega)]; go_simp
    have x1 : w3.cell? ⟨W.heap.size + 1 + 1, 1, none⟩ = some (.bool false) := by rw [c3 (W.heap.size + 1 + 1) 1 (by simp <;> omega)]; go_simp
    have yx1 : w3.frozen? ⟨W.heap.size + 1 + 1, 1, none⟩ = false := by rw [y3 (W.heap.size + 1 + 1) 1 (by simp <;> omega)]; go_simp
    have x2 : w3.cell? ⟨W.heap.size + 1 + 1, 2, none⟩ = some (.int .i64 0) := by rw [c3 (W.heap.size + 1 + 1) 2 (by simp <;> omega)]; go_simp
    have yx2 : w3.frozen? ⟨W.heap.size + 1 + 1, 2, none⟩ = false := by rw [y3 (W.heap.size + 1 + 1) 2 (by simp <;> omega)]; go_simp
    clear B3 c3 y3
    go_wp2
    exact bodyPost_ret (v := .agg #[.bool false, .bool true, .int .i64 (doV o n m)]) (by simp only [results, Try.results36]; go_simp) rfl ⟨rfl, by refine Below.trans B4 ?_; repeat (first | exact Below.refl _ _ | refine Below.drew ?_ | refine Below.setCell ?_ (by simp; try omega) _ | refine Below.alloc ?_ (by simp; try omega) _)⟩
end Go.Proofs.Ytfplpabnfhkmlab.walks
