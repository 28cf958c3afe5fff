/-
  What the program's constValue, isConst, isEitherWay and simplerValue answer.
-/
import Derived.Test.YtldmeffhbabanaaProg
import Derived.Test.YtldmeffhbabanaaNumEq
import Derived.WalkKit
import Derived.WalkSpells
import Derived.Below
import Derived.Handy
namespace Go.Proofs.Ytldmeffhbabanaa.nums
open Go.RowKit Go.Proofs.Ytldmeffhbabanaa.math
set_option linter.unusedVariables false

theorem impl_const (n : Int) (W : World) : Calls Try.prog 61 #[.int .i64 n] W fun e W' => e = .returned (vV (kon n)) ∧ Below W.heap.size W W' := by
  go_enter Try.func61, Try.ntmps61
  go_wp2
  exact bodyPost_ret (v := .agg #[.int .i64 1, .int .i64 0, .int .i64 0, .int .i64 n]) (by simp [results, Try.results61, go_sem]) rfl ⟨rfl, by go_grown⟩
theorem impl_isConst (v : V) (W : World) : Calls Try.prog 42 #[vV v] W fun e W' => e = .returned (.bool (decide (v.1 = 1))) ∧ Below W.heap.size W W' := by
  obtain ⟨x0, x1, x2, x3⟩ := v
  unfold vV
  go_enter Try.func42, Try.ntmps42
  go_wp2
  go_ret
  exact ⟨by by_cases hx : x0 = 1 <;> simp [hx], by go_grown⟩
theorem impl_either (o : Int) (W : World) (h0 : 3 ≤ o) (h1 : o ≤ 7) : Calls Try.prog 70 #[.int .i64 o] W fun e W' => e = .returned (.bool (eitherB o)) ∧ W' = W := by
  obtain rfl | rfl | rfl | rfl | rfl : o = 3 ∨ o = 4 ∨ o = 5 ∨ o = 6 ∨ o = 7 := by omega
  all_goals clear h0 h1
  all_goals go_enter Try.func70, Try.ntmps70
  all_goals go_wp2
  all_goals go_ret
  all_goals exact ⟨rfl, rfl⟩
/-- What simplerValue answers. -/
def SimpAns (o : Int) (x y : V) (W : World) (e : Ending) (W' : World) : Prop := e = .returned (.tuple #[vV ((simpV o x y).getD zV), .bool (simpV o x y).isSome]) ∧ Below W.heap.size W W'
theorem sv_3_0 (x y : V) (hx0 : x = kon 0) : simpV 3 x y = some y := by
  unfold simpV
  repeat' split
  all_goals simp_all
set_option maxHeartbeats 1000000 in
theorem simp_3_0 (x0 x1 x2 x3 y0 y1 y2 y3 : Int) (W : World) (hx0 : ((x0, x1, x2, x3) : V) = kon 0) : Calls Try.prog 69 #[.int .i64 3, .agg #[.int .i64 x0, .int .i64 x1, .int .i64 x2, .int .i64 x3], .agg #[.int .i64 y0, .int .i64 y1, .int .i64 y2, .int .i64 y3]] W fun e W' => SimpAns 3 (x0, x1, x2, x3) (y0, y1, y2, y3) W e W' := by
  have HE : Hid (simpV 3 (x0, x1, x2, x3) (y0, y1, y2, y3) = some (((y0, y1, y2, y3) : V))) := sv_3_0 _ _ hx0
  have qx0 : ∀ w : World, (binOp .eql 49 (.agg #[.int .i64 x0, .int .i64 x1, .int .i64 x2, .int .i64 x3]) (.agg #[.int .i64 1, .int .i64 0, .int .i64 0, .int .i64 0])).run Try.prog w = .ok (.bool true) w := by intro w; rw [eqV]; exact congrArg (fun c => Result.ok (Value.bool c) w) (decide_eq_true hx0)
  have qg := eqG
  clear hx0
  go_enter Try.func69, Try.ntmps69
  go_wp2
  refine bodyPost_ret (v := .tuple #[.agg #[.int .i64 y0, .int .i64 y1, .int .i64 y2, .int .i64 y3], .bool true]) (by simp [results, Try.results69, go_sem]) rfl ⟨?_, by go_grown⟩
  rw [HE.out]
  rfl
theorem sv_3_1 (x y : V) (hx0 : x ≠ kon 0) (hy0 : y = kon 0) : simpV 3 x y = some x := by
  unfold simpV
  repeat' split
  all_goals simp_all
set_option maxHeartbeats 1000000 in
theorem simp_3_1 (x0 x1 x2 x3 y0 y1 y2 y3 : Int) (W : World) (hx0 : ((x0, x1, x2, x3) : V) ≠ kon 0) (hy0 : ((y0, y1, y2, y3) : V) = kon 0) : Calls Try.prog 69 #[.int .i64 3, .agg #[.int .i64 x0, .int .i64 x1, .int .i64 x2, .int .i64 x3], .agg #[.int .i64 y0, .int .i64 y1, .int .i64 y2, .int .i64 y3]] W fun e W' => SimpAns 3 (x0, x1, x2, x3) (y0, y1, y2, y3) W e W' := by
  have HE : Hid (simpV 3 (x0, x1, x2, x3) (y0, y1, y2, y3) = some (((x0, x1, x2, x3) : V))) := sv_3_1 _ _ hx0 hy0
  have qx0 : ∀ w : World, (binOp .eql 49 (.agg #[.int .i64 x0, .int .i64 x1, .int .i64 x2, .int .i64 x3]) (.agg #[.int .i64 1, .int .i64 0, .int .i64 0, .int .i64 0])).run Try.prog w = .ok (.bool false) w := by intro w; rw [eqV]; exact congrArg (fun c => Result.ok (Value.bool c) w) (decide_eq_false hx0)
  have qy0 : ∀ w : World, (binOp .eql 49 (.agg #[.int .i64 y0, .int .i64 y1, .int .i64 y2, .int .i64 y3]) (.agg #[.int .i64 1, .int .i64 0, .int .i64 0, .int .i64 0])).run Try.prog w = .ok (.bool true) w := by intro w; rw [eqV]; exact congrArg (fun c => Result.ok (Value.bool c) w) (decide_eq_true hy0)
  have qg := eqG
  clear hx0 hy0
  go_enter Try.func69, Try.ntmps69
  go_wp2
  refine bodyPost_ret (v := .tuple #[.agg #[.int .i64 x0, .int .i64 x1, .int .i64 x2, .int .i64 x3], .bool true]) (by simp [results, Try.results69, go_sem]) rfl ⟨?_, by go_grown⟩
  rw [HE.out]
  rfl
theorem sv_3_2 (x y : V) (hx0 : x ≠ kon 0) (hy0 : y ≠ kon 0) : simpV 3 x y = none := by
  unfold simpV
  repeat' split
  all_goals simp_all
set_option maxHeartbeats 1000000 in
theorem simp_3_2 (x0 x1 x2 x3 y0 y1 y2 y3 : Int) (W : World) (hx0 : ((x0, x1, x2, x3) : V) ≠ kon 0) (hy0 : ((y0, y1, y2, y3) : V) ≠ kon 0) : Calls Try.prog 69 #[.int .i64 3, .agg #[.int .i64 x0, .int .i64 x1, .int .i64 x2, .int .i64 x3], .agg #[.int .i64 y0, .int .i64 y1, .int .i64 y2, .int .i64 y3]] W fun e W' => SimpAns 3 (x0, x1, x2, x3) (y0, y1, y2, y3) W e W' := by
  have HE : Hid (simpV 3 (x0, x1, x2, x3) (y0, y1, y2, y3) = none) := sv_3_2 _ _ hx0 hy0
  have qx0 : ∀ w : World, (binOp .eql 49 (.agg #[.int .i64 x0, .int .i64 x1, .int .i64 x2, .int .i64 x3]) (.agg #[.int .i64 1, .int .i64 0, .int .i64 0, .int .i64 0])).run Try.prog w = .ok (.bool false) w := by intro w; rw [eqV]; exact congrArg (fun c => Result.ok (Value.bool c) w) (decide_eq_false hx0)
  have qy0 : ∀ w : World, (binOp .eql 49 (.agg #[.int .i64 y0, .int .i64 y1, .int .i64 y2, .int .i64 y3]) (.agg #[.int .i64 1, .int .i64 0, .int .i64 0, .int .i64 0])).run Try.prog w = .ok (.bool false) w := by intro w; rw [eqV]; exact congrArg (fun c => Result.ok (Value.bool c) w) (decide_eq_false hy0)
  have qg := eqG
  clear hx0 hy0
  go_enter Try.func69, Try.ntmps69
  go_wp2
  refine bodyPost_ret (v := .tuple #[.agg #[.int .i64 0, .int .i64 0, .int .i64 0, .int .i64 0], .bool false]) (by simp [results, Try.results69, go_sem]) rfl ⟨?_, by go_grown⟩
  rw [HE.out]
  rfl
theorem sv_4_0 (x y : V) (hxy : x = y) : simpV 4 x y = some (kon 0) := by
  unfold simpV
  repeat' split
  all_goals simp_all
set_option maxHeartbeats 1000000 in
theorem simp_4_0 (x0 x1 x2 x3 y0 y1 y2 y3 : Int) (W : World) (hxy : ((x0, x1, x2, x3) : V) = ((y0, y1, y2, y3) : V)) : Calls Try.prog 69 #[.int .i64 4, .agg #[.int .i64 x0, .int .i64 x1, .int .i64 x2, .int .i64 x3], .agg #[.int .i64 y0, .int .i64 y1, .int .i64 y2, .int .i64 y3]] W fun e W' => SimpAns 4 (x0, x1, x2, x3) (y0, y1, y2, y3) W e W' := by
  have HE : Hid (simpV 4 (x0, x1, x2, x3) (y0, y1, y2, y3) = some (kon 0)) := sv_4_0 _ _ hxy
  have qxy : ∀ w : World, (binOp .eql 49 (.agg #[.int .i64 x0, .int .i64 x1, .int .i64 x2, .int .i64 x3]) (.agg #[.int .i64 y0, .int .i64 y1, .int .i64 y2, .int .i64 y3])).run Try.prog w = .ok (.bool true) w := by intro w; rw [eqV]; rw [decide_eq_true (show ((x0, x1, x2, x3) : V) = ((y0, y1, y2, y3) : V) from hxy)]
  have qg := eqG
  clear hxy
  go_enter Try.func69, Try.ntmps69
  go_wp2
  refine bodyPost_ret (v := .tuple #[.agg #[.int .i64 1, .int .i64 0, .int .i64 0, .int .i64 0], .bool true]) (by simp [results, Try.results69, go_sem]) rfl ⟨?_, by go_grown⟩
  rw [HE.out]
  rfl
theorem sv_4_1 (x y : V) (hxy : x ≠ y) (hy0 : y = kon 0) : simpV 4 x y = some x := by
  unfold simpV
  repeat' split
  all_goals simp_all
set_option maxHeartbeats 1000000 in
theorem simp_4_1 (x0 x1 x2 x3 y0 y1 y2 y3 : Int) (W : World) (hxy : ((x0, x1, x2, x3) : V) ≠ ((y0, y1, y2, y3) : V)) (hy0 : ((y0, y1, y2, y3) : V) = kon 0) : Calls Try.prog 69 #[.int .i64 4, .agg #[.int .i64 x0, .int .i64 x1, .int .i64 x2, .int .i64 x3], .agg #[.int .i64 y0, .int .i64 y1, .int .i64 y2, .int .i64 y3]] W fun e W' => SimpAns 4 (x0, x1, x2, x3) (y0, y1, y2, y3) W e W' := by
  have HE : Hid (simpV 4 (x0, x1, x2, x3) (y0, y1, y2, y3) = some (((x0, x1, x2, x3) : V))) := sv_4_1 _ _ hxy hy0
  have qxy : ∀ w : World, (binOp .eql 49 (.agg #[.int .i64 x0, .int .i64 x1, .int .i64 x2, .int .i64 x3]) (.agg #[.int .i64 y0, .int .i64 y1, .int .i64 y2, .int .i64 y3])).run Try.prog w = .ok (.bool false) w := by intro w; rw [eqV]; rw [decide_eq_false (show ¬ ((x0, x1, x2, x3) : V) = ((y0, y1, y2, y3) : V) from hxy)]
  have qy0 : ∀ w : World, (binOp .eql 49 (.agg #[.int .i64 y0, .int .i64 y1, .int .i64 y2, .int .i64 y3]) (.agg #[.int .i64 1, .int .i64 0, .int .i64 0, .int .i64 0])).run Try.prog w = .ok (.bool true) w := by intro w; rw [eqV]; exact congrArg (fun c => Result.ok (Value.bool c) w) (decide_eq_true hy0)
  have qg := eqG
  clear hxy hy0
  go_enter Try.func69, Try.ntmps69
  go_wp2
  refine bodyPost_ret (v := .tuple #[.agg #[.int .i64 x0, .int .i64 x1, .int .i64 x2, .int .i64 x3], .bool true]) (by simp [results, Try.results69, go_sem]) rfl ⟨?_, by go_grown⟩
  rw [HE.out]
  rfl
theorem sv_4_2 (x y : V) (hxy : x ≠ y) (hy0 : y ≠ kon 0) : simpV 4 x y = none := by
  unfold simpV
  repeat' split
  all_goals simp_all
set_option maxHeartbeats 1000000 in
theorem simp_4_2 (x0 x1 x2 x3 y0 y1 y2 y3 : Int) (W : World) (hxy : ((x0, x1, x2, x3) : V) ≠ ((y0, y1, y2, y3) : V)) (hy0 : ((y0, y1, y2, y3) : V) ≠ kon 0) : Calls Try.prog 69 #[.int .i64 4, .agg #[.int .i64 x0, .int .i64 x1, .int .i64 x2, .int .i64 x3], .agg #[.int .i64 y0, .int .i64 y1, .int .i64 y2, .int .i64 y3]] W fun e W' => SimpAns 4 (x0, x1, x2, x3) (y0, y1, y2, y3) W e W' := by
  have HE : Hid (simpV 4 (x0, x1, x2, x3) (y0, y1, y2, y3) = none) := sv_4_2 _ _ hxy hy0
  have qxy : ∀ w : World, (binOp .eql 49 (.agg #[.int .i64 x0, .int .i64 x1, .int .i64 x2, .int .i64 x3]) (.agg #[.int .i64 y0, .int .i64 y1, .int .i64 y2, .int .i64 y3])).run Try.prog w = .ok (.bool false) w := by intro w; rw [eqV]; rw [decide_eq_false (show ¬ ((x0, x1, x2, x3) : V) = ((y0, y1, y2, y3) : V) from hxy)]
  have qy0 : ∀ w : World, (binOp .eql 49 (.agg #[.int .i64 y0, .int .i64 y1, .int .i64 y2, .int .i64 y3]) (.agg #[.int .i64 1, .int .i64 0, .int .i64 0, .int .i64 0])).run Try.prog w = .ok (.bool false) w := by intro w; rw [eqV]; exact congrArg (fun c => Result.ok (Value.bool c) w) (decide_eq_false hy0)
  have qg := eqG
  clear hxy hy0
  go_enter Try.func69, Try.ntmps69
  go_wp2
  refine bodyPost_ret (v := .tuple #[.agg #[.int .i64 0, .int .i64 0, .int .i64 0, .int .i64 0], .bool false]) (by simp [results, Try.results69, go_sem]) rfl ⟨?_, by go_grown⟩
  rw [HE.out]
  rfl
theorem sv_5_0 (x y : V) (hx1 : x = kon 1) : simpV 5 x y = some y := by
  unfold simpV
  repeat' split
  all_goals simp_all
set_option maxHeartbeats 1000000 in
theorem simp_5_0 (x0 x1 x2 x3 y0 y1 y2 y3 : Int) (W : World) (hx1 : ((x0, x1, x2, x3) : V) = kon 1) : Calls Try.prog 69 #[.int .i64 5, .agg #[.int .i64 x0, .int .i64 x1, .int .i64 x2, .int .i64 x3], .agg #[.int .i64 y0, .int .i64 y1, .int .i64 y2, .int .i64 y3]] W fun e W' => SimpAns 5 (x0, x1, x2, x3) (y0, y1, y2, y3) W e W' := by
  have HE : Hid (simpV 5 (x0, x1, x2, x3) (y0, y1, y2, y3) = some (((y0, y1, y2, y3) : V))) := sv_5_0 _ _ hx1
  have qx1 : ∀ w : World, (binOp .eql 49 (.agg #[.int .i64 x0, .int .i64 x1, .int .i64 x2, .int .i64 x3]) (.agg #[.int .i64 1, .int .i64 0, .int .i64 0, .int .i64 1])).run Try.prog w = .ok (.bool true) w := by intro w; rw [eqV]; exact congrArg (fun c => Result.ok (Value.bool c) w) (decide_eq_true hx1)
  have qg := eqG
  clear hx1
  go_enter Try.func69, Try.ntmps69
  go_wp2
  refine bodyPost_ret (v := .tuple #[.agg #[.int .i64 y0, .int .i64 y1, .int .i64 y2, .int .i64 y3], .bool true]) (by simp [results, Try.results69, go_sem]) rfl ⟨?_, by go_grown⟩
  rw [HE.out]
  rfl
theorem sv_5_1 (x y : V) (hx1 : x ≠ kon 1) (hy1 : y = kon 1) : simpV 5 x y = some x := by
  unfold simpV
  repeat' split
  all_goals simp_all
set_option maxHeartbeats 1000000 in
theorem simp_5_1 (x0 x1 x2 x3 y0 y1 y2 y3 : Int) (W : World) (hx1 : ((x0, x1, x2, x3) : V) ≠ kon 1) (hy1 : ((y0, y1, y2, y3) : V) = kon 1) : Calls Try.prog 69 #[.int .i64 5, .agg #[.int .i64 x0, .int .i64 x1, .int .i64 x2, .int .i64 x3], .agg #[.int .i64 y0, .int .i64 y1, .int .i64 y2, .int .i64 y3]] W fun e W' => SimpAns 5 (x0, x1, x2, x3) (y0, y1, y2, y3) W e W' := by
  have HE : Hid (simpV 5 (x0, x1, x2, x3) (y0, y1, y2, y3) = some (((x0, x1, x2, x3) : V))) := sv_5_1 _ _ hx1 hy1
  have qx1 : ∀ w : World, (binOp .eql 49 (.agg #[.int .i64 x0, .int .i64 x1, .int .i64 x2, .int .i64 x3]) (.agg #[.int .i64 1, .int .i64 0, .int .i64 0, .int .i64 1])).run Try.prog w = .ok (.bool false) w := by intro w; rw [eqV]; exact congrArg (fun c => Result.ok (Value.bool c) w) (decide_eq_false hx1)
  have qy1 : ∀ w : World, (binOp .eql 49 (.agg #[.int .i64 y0, .int .i64 y1, .int .i64 y2, .int .i64 y3]) (.agg #[.int .i64 1, .int .i64 0, .int .i64 0, .int .i64 1])).run Try.prog w = .ok (.bool true) w := by intro w; rw [eqV]; exact congrArg (fun c => Result.ok (Value.bool c) w) (decide_eq_true hy1)
  have qg := eqG
  clear hx1 hy1
  go_enter Try.func69, Try.ntmps69
  go_wp2
  refine bodyPost_ret (v := .tuple #[.agg #[.int .i64 x0, .int .i64 x1, .int .i64 x2, .int .i64 x3], .bool true]) (by simp [results, Try.results69, go_sem]) rfl ⟨?_, by go_grown⟩
  rw [HE.out]
  rfl
theorem sv_5_2 (x y : V) (hx1 : x ≠ kon 1) (hy1 : y ≠ kon 1) (hx0 : x = kon 0) : simpV 5 x y = some (kon 0) := by
  unfold simpV
  repeat' split
  all_goals simp_all
set_option maxHeartbeats 1000000 in
theorem simp_5_2 (x0 x1 x2 x3 y0 y1 y2 y3 : Int) (W : World) (hx1 : ((x0, x1, x2, x3) : V) ≠ kon 1) (hy1 : ((y0, y1, y2, y3) : V) ≠ kon 1) (hx0 : ((x0, x1, x2, x3) : V) = kon 0) : Calls Try.prog 69 #[.int .i64 5, .agg #[.int .i64 x0, .int .i64 x1, .int .i64 x2, .int .i64 x3], .agg #[.int .i64 y0, .int .i64 y1, .int .i64 y2, .int .i64 y3]] W fun e W' => SimpAns 5 (x0, x1, x2, x3) (y0, y1, y2, y3) W e W' := by
  have HE : Hid (simpV 5 (x0, x1, x2, x3) (y0, y1, y2, y3) = some (kon 0)) := sv_5_2 _ _ hx1 hy1 hx0
  have qx1 : ∀ w : World, (binOp .eql 49 (.agg #[.int .i64 x0, .int .i64 x1, .int .i64 x2, .int .i64 x3]) (.agg #[.int .i64 1, .int .i64 0, .int .i64 0, .int .i64 1])).run Try.prog w = .ok (.bool false) w := by intro w; rw [eqV]; exact congrArg (fun c => Result.ok (Value.bool c) w) (decide_eq_false hx1)
  have qy1 : ∀ w : World, (binOp .eql 49 (.agg #[.int .i64 y0, .int .i64 y1, .int .i64 y2, .int .i64 y3]) (.agg #[.int .i64 1, .int .i64 0, .int .i64 0, .int .i64 1])).run Try.prog w = .ok (.bool false) w := by intro w; rw [eqV]; exact congrArg (fun c => Result.ok (Value.bool c) w) (decide_eq_false hy1)
  have qx0 : ∀ w : World, (binOp .eql 49 (.agg #[.int .i64 x0, .int .i64 x1, .int .i64 x2, .int .i64 x3]) (.agg #[.int .i64 1, .int .i64 0, .int .i64 0, .int .i64 0])).run Try.prog w = .ok (.bool true) w := by intro w; rw [eqV]; exact congrArg (fun c => Result.ok (Value.bool c) w) (decide_eq_true hx0)
  have qg := eqG
  clear hx1 hy1 hx0
  go_enter Try.func69, Try.ntmps69
  go_wp2
  refine bodyPost_ret (v := .tuple #[.agg #[.int .i64 1, .int .i64 0, .int .i64 0, .int .i64 0], .bool true]) (by simp [results, Try.results69, go_sem]) rfl ⟨?_, by go_grown⟩
  rw [HE.out]
  rfl
theorem sv_5_3 (x y : V) (hx1 : x ≠ kon 1) (hy1 : y ≠ kon 1) (hx0 : x ≠ kon 0) (hy0 : y = kon 0) : simpV 5 x y = some (kon 0) := by
  unfold simpV
  repeat' split
  all_goals simp_all
set_option maxHeartbeats 1000000 in
theorem simp_5_3 (x0 x1 x2 x3 y0 y1 y2 y3 : Int) (W : World) (hx1 : ((x0, x1, x2, x3) : V) ≠ kon 1) (hy1 : ((y0, y1, y2, y3) : V) ≠ kon 1) (hx0 : ((x0, x1, x2, x3) : V) ≠ kon 0) (hy0 : ((y0, y1, y2, y3) : V) = kon 0) : Calls Try.prog 69 #[.int .i64 5, .agg #[.int .i64 x0, .int .i64 x1, .int .i64 x2, .int .i64 x3], .agg #[.int .i64 y0, .int .i64 y1, .int .i64 y2, .int .i64 y3]] W fun e W' => SimpAns 5 (x0, x1, x2, x3) (y0, y1, y2, y3) W e W' := by
  have HE : Hid (simpV 5 (x0, x1, x2, x3) (y0, y1, y2, y3) = some (kon 0)) := sv_5_3 _ _ hx1 hy1 hx0 hy0
  have qx1 : ∀ w : World, (binOp .eql 49 (.agg #[.int .i64 x0, .int .i64 x1, .int .i64 x2, .int .i64 x3]) (.agg #[.int .i64 1, .int .i64 0, .int .i64 0, .int .i64 1])).run Try.prog w = .ok (.bool false) w := by intro w; rw [eqV]; exact congrArg (fun c => Result.ok (Value.bool c) w) (decide_eq_false hx1)
  have qy1 : ∀ w : World, (binOp .eql 49 (.agg #[.int .i64 y0, .int .i64 y1, .int .i64 y2, .int .i64 y3]) (.agg #[.int .i64 1, .int .i64 0, .int .i64 0, .int .i64 1])).run Try.prog w = .ok (.bool false) w := by intro w; rw [eqV]; exact congrArg (fun c => Result.ok (Value.bool c) w) (decide_eq_false hy1)
  have qx0 : ∀ w : World, (binOp .eql 49 (.agg #[.int .i64 x0, .int .i64 x1, .int .i64 x2, .int .i64 x3]) (.agg #[.int .i64 1, .int .i64 0, .int .i64 0, .int .i64 0])).run Try.prog w = .ok (.bool false) w := by intro w; rw [eqV]; exact congrArg (fun c => Result.ok (Value.bool c) w) (decide_eq_false hx0)
  have qy0 : ∀ w : World, (binOp .eql 49 (.agg #[.int .i64 y0, .int .i64 y1, .int .i64 y2, .int .i64 y3]) (.agg #[.int .i64 1, .int .i64 0, .int .i64 0, .int .i64 0])).run Try.prog w = .ok (.bool true) w := by intro w; rw [eqV]; exact congrArg (fun c => Result.ok (Value.bool c) w) (decide_eq_true hy0)
  have qg := eqG
  clear hx1 hy1 hx0 hy0
  go_enter Try.func69, Try.ntmps69
  go_wp2
  refine bodyPost_ret (v := .tuple #[.agg #[.int .i64 1, .int .i64 0, .int .i64 0, .int .i64 0], .bool true]) (by simp [results, Try.results69, go_sem]) rfl ⟨?_, by go_grown⟩
  rw [HE.out]
  rfl
theorem sv_5_4 (x y : V) (hx1 : x ≠ kon 1) (hy1 : y ≠ kon 1) (hx0 : x ≠ kon 0) (hy0 : y ≠ kon 0) : simpV 5 x y = none := by
  unfold simpV
  repeat' split
  all_goals simp_all
set_option maxHeartbeats 1000000 in
theorem simp_5_4 (x0 x1 x2 x3 y0 y1 y2 y3 : Int) (W : World) (hx1 : ((x0, x1, x2, x3) : V) ≠ kon 1) (hy1 : ((y0, y1, y2, y3) : V) ≠ kon 1) (hx0 : ((x0, x1, x2, x3) : V) ≠ kon 0) (hy0 : ((y0, y1, y2, y3) : V) ≠ kon 0) : Calls Try.prog 69 #[.int .i64 5, .agg #[.int .i64 x0, .int .i64 x1, .int .i64 x2, .int .i64 x3], .agg #[.int .i64 y0, .int .i64 y1, .int .i64 y2, .int .i64 y3]] W fun e W' => SimpAns 5 (x0, x1, x2, x3) (y0, y1, y2, y3) W e W' := by
  have HE : Hid (simpV 5 (x0, x1, x2, x3) (y0, y1, y2, y3) = none) := sv_5_4 _ _ hx1 hy1 hx0 hy0
  have qx1 : ∀ w : World, (binOp .eql 49 (.agg #[.int .i64 x0, .int .i64 x1, .int .i64 x2, .int .i64 x3]) (.agg #[.int .i64 1, .int .i64 0, .int .i64 0, .int .i64 1])).run Try.prog w = .ok (.bool false) w := by intro w; rw [eqV]; exact congrArg (fun c => Result.ok (Value.bool c) w) (decide_eq_false hx1)
  have qy1 : ∀ w : World, (binOp .eql 49 (.agg #[.int .i64 y0, .int .i64 y1, .int .i64 y2, .int .i64 y3]) (.agg #[.int .i64 1, .int .i64 0, .int .i64 0, .int .i64 1])).run Try.prog w = .ok (.bool false) w := by intro w; rw [eqV]; exact congrArg (fun c => Result.ok (Value.bool c) w) (decide_eq_false hy1)
  have qx0 : ∀ w : World, (binOp .eql 49 (.agg #[.int .i64 x0, .int .i64 x1, .int .i64 x2, .int .i64 x3]) (.agg #[.int .i64 1, .int .i64 0, .int .i64 0, .int .i64 0])).run Try.prog w = .ok (.bool false) w := by intro w; rw [eqV]; exact congrArg (fun c => Result.ok (Value.bool c) w) (decide_eq_false hx0)
  have qy0 : ∀ w : World, (binOp .eql 49 (.agg #[.int .i64 y0, .int .i64 y1, .int .i64 y2, .int .i64 y3]) (.agg #[.int .i64 1, .int .i64 0, .int .i64 0, .int .i64 0])).run Try.prog w = .ok (.bool false) w := by intro w; rw [eqV]; exact congrArg (fun c => Result.ok (Value.bool c) w) (decide_eq_false hy0)
  have qg := eqG
  clear hx1 hy1 hx0 hy0
  go_enter Try.func69, Try.ntmps69
  go_wp2
  refine bodyPost_ret (v := .tuple #[.agg #[.int .i64 0, .int .i64 0, .int .i64 0, .int .i64 0], .bool false]) (by simp [results, Try.results69, go_sem]) rfl ⟨?_, by go_grown⟩
  rw [HE.out]
  rfl
theorem sv_6_0 (x y : V) (hxy : x = y) : simpV 6 x y = some (kon 0) := by
  unfold simpV
  repeat' split
  all_goals simp_all
set_option maxHeartbeats 1000000 in
theorem simp_6_0 (x0 x1 x2 x3 y0 y1 y2 y3 : Int) (W : World) (hxy : ((x0, x1, x2, x3) : V) = ((y0, y1, y2, y3) : V)) : Calls Try.prog 69 #[.int .i64 6, .agg #[.int .i64 x0, .int .i64 x1, .int .i64 x2, .int .i64 x3], .agg #[.int .i64 y0, .int .i64 y1, .int .i64 y2, .int .i64 y3]] W fun e W' => SimpAns 6 (x0, x1, x2, x3) (y0, y1, y2, y3) W e W' := by
  have HE : Hid (simpV 6 (x0, x1, x2, x3) (y0, y1, y2, y3) = some (kon 0)) := sv_6_0 _ _ hxy
  have qxy : ∀ w : World, (binOp .eql 49 (.agg #[.int .i64 x0, .int .i64 x1, .int .i64 x2, .int .i64 x3]) (.agg #[.int .i64 y0, .int .i64 y1, .int .i64 y2, .int .i64 y3])).run Try.prog w = .ok (.bool true) w := by intro w; rw [eqV]; rw [decide_eq_true (show ((x0, x1, x2, x3) : V) = ((y0, y1, y2, y3) : V) from hxy)]
  have qg := eqG
  clear hxy
  go_enter Try.func69, Try.ntmps69
  go_wp2
  refine bodyPost_ret (v := .tuple #[.agg #[.int .i64 1, .int .i64 0, .int .i64 0, .int .i64 0], .bool true]) (by simp [results, Try.results69, go_sem]) rfl ⟨?_, by go_grown⟩
  rw [HE.out]
  rfl
theorem sv_6_1 (x y : V) (hxy : x ≠ y) : simpV 6 x y = none := by
  unfold simpV
  repeat' split
  all_goals simp_all
set_option maxHeartbeats 1000000 in
theorem simp_6_1 (x0 x1 x2 x3 y0 y1 y2 y3 : Int) (W : World) (hxy : ((x0, x1, x2, x3) : V) ≠ ((y0, y1, y2, y3) : V)) : Calls Try.prog 69 #[.int .i64 6, .agg #[.int .i64 x0, .int .i64 x1, .int .i64 x2, .int .i64 x3], .agg #[.int .i64 y0, .int .i64 y1, .int .i64 y2, .int .i64 y3]] W fun e W' => SimpAns 6 (x0, x1, x2, x3) (y0, y1, y2, y3) W e W' := by
  have HE : Hid (simpV 6 (x0, x1, x2, x3) (y0, y1, y2, y3) = none) := sv_6_1 _ _ hxy
  have qxy : ∀ w : World, (binOp .eql 49 (.agg #[.int .i64 x0, .int .i64 x1, .int .i64 x2, .int .i64 x3]) (.agg #[.int .i64 y0, .int .i64 y1, .int .i64 y2, .int .i64 y3])).run Try.prog w = .ok (.bool false) w := by intro w; rw [eqV]; rw [decide_eq_false (show ¬ ((x0, x1, x2, x3) : V) = ((y0, y1, y2, y3) : V) from hxy)]
  have qg := eqG
  clear hxy
  go_enter Try.func69, Try.ntmps69
  go_wp2
  refine bodyPost_ret (v := .tuple #[.agg #[.int .i64 0, .int .i64 0, .int .i64 0, .int .i64 0], .bool false]) (by simp [results, Try.results69, go_sem]) rfl ⟨?_, by go_grown⟩
  rw [HE.out]
  rfl
theorem sv_7_0 (x y : V) (hxy : x = y) : simpV 7 x y = some (kon 1) := by
  unfold simpV
  repeat' split
  all_goals simp_all
set_option maxHeartbeats 1000000 in
theorem simp_7_0 (x0 x1 x2 x3 y0 y1 y2 y3 : Int) (W : World) (hxy : ((x0, x1, x2, x3) : V) = ((y0, y1, y2, y3) : V)) : Calls Try.prog 69 #[.int .i64 7, .agg #[.int .i64 x0, .int .i64 x1, .int .i64 x2, .int .i64 x3], .agg #[.int .i64 y0, .int .i64 y1, .int .i64 y2, .int .i64 y3]] W fun e W' => SimpAns 7 (x0, x1, x2, x3) (y0, y1, y2, y3) W e W' := by
  have HE : Hid (simpV 7 (x0, x1, x2, x3) (y0, y1, y2, y3) = some (kon 1)) := sv_7_0 _ _ hxy
  have qxy : ∀ w : World, (binOp .eql 49 (.agg #[.int .i64 x0, .int .i64 x1, .int .i64 x2, .int .i64 x3]) (.agg #[.int .i64 y0, .int .i64 y1, .int .i64 y2, .int .i64 y3])).run Try.prog w = .ok (.bool true) w := by intro w; rw [eqV]; rw [decide_eq_true (show ((x0, x1, x2, x3) : V) = ((y0, y1, y2, y3) : V) from hxy)]
  have qg := eqG
  clear hxy
  go_enter Try.func69, Try.ntmps69
  go_wp2
  refine bodyPost_ret (v := .tuple #[.agg #[.int .i64 1, .int .i64 0, .int .i64 0, .int .i64 1], .bool true]) (by simp [results, Try.results69, go_sem]) rfl ⟨?_, by go_grown⟩
  rw [HE.out]
  rfl
theorem sv_7_1 (x y : V) (hxy : x ≠ y) : simpV 7 x y = none := by
  unfold simpV
  repeat' split
  all_goals simp_all
set_option maxHeartbeats 1000000 in
theorem simp_7_1 (x0 x1 x2 x3 y0 y1 y2 y3 : Int) (W : World) (hxy : ((x0, x1, x2, x3) : V) ≠ ((y0, y1, y2, y3) : V)) : Calls Try.prog 69 #[.int .i64 7, .agg #[.int .i64 x0, .int .i64 x1, .int .i64 x2, .int .i64 x3], .agg #[.int .i64 y0, .int .i64 y1, .int .i64 y2, .int .i64 y3]] W fun e W' => SimpAns 7 (x0, x1, x2, x3) (y0, y1, y2, y3) W e W' := by
  have HE : Hid (simpV 7 (x0, x1, x2, x3) (y0, y1, y2, y3) = none) := sv_7_1 _ _ hxy
  have qxy : ∀ w : World, (binOp .eql 49 (.agg #[.int .i64 x0, .int .i64 x1, .int .i64 x2, .int .i64 x3]) (.agg #[.int .i64 y0, .int .i64 y1, .int .i64 y2, .int .i64 y3])).run Try.prog w = .ok (.bool false) w := by intro w; rw [eqV]; rw [decide_eq_false (show ¬ ((x0, x1, x2, x3) : V) = ((y0, y1, y2, y3) : V) from hxy)]
  have qg := eqG
  clear hxy
  go_enter Try.func69, Try.ntmps69
  go_wp2
  refine bodyPost_ret (v := .tuple #[.agg #[.int .i64 0, .int .i64 0, .int .i64 0, .int .i64 0], .bool false]) (by simp [results, Try.results69, go_sem]) rfl ⟨?_, by go_grown⟩
  rw [HE.out]
  rfl
theorem impl_simpler (o : Int) (x y : V) (W : World) (h0 : 3 ≤ o) (h1 : o ≤ 7) : Calls Try.prog 69 #[.int .i64 o, vV x, vV y] W fun e W' => SimpAns o x y W e W' := by
  obtain ⟨x0, x1, x2, x3⟩ := x
  obtain ⟨y0, y1, y2, y3⟩ := y
  obtain rfl | rfl | rfl | rfl | rfl : o = 3 ∨ o = 4 ∨ o = 5 ∨ o = 6 ∨ o = 7 := by omega
  · clear h0 h1
    by_cases hx0 : ((x0, x1, x2, x3) : V) = kon 0
    · skip
      exact simp_3_0 x0 x1 x2 x3 y0 y1 y2 y3 W hx0
    · skip
      by_cases hy0 : ((y0, y1, y2, y3) : V) = kon 0
      · skip
        exact simp_3_1 x0 x1 x2 x3 y0 y1 y2 y3 W hx0 hy0
      · skip
        exact simp_3_2 x0 x1 x2 x3 y0 y1 y2 y3 W hx0 hy0
  · clear h0 h1
    by_cases hxy : ((x0, x1, x2, x3) : V) = ((y0, y1, y2, y3) : V)
    · skip
      exact simp_4_0 x0 x1 x2 x3 y0 y1 y2 y3 W hxy
    · skip
      by_cases hy0 : ((y0, y1, y2, y3) : V) = kon 0
      · skip
        exact simp_4_1 x0 x1 x2 x3 y0 y1 y2 y3 W hxy hy0
      · skip
        exact simp_4_2 x0 x1 x2 x3 y0 y1 y2 y3 W hxy hy0
  · clear h0 h1
    by_cases hx1 : ((x0, x1, x2, x3) : V) = kon 1
    · skip
      exact simp_5_0 x0 x1 x2 x3 y0 y1 y2 y3 W hx1
    · skip
      by_cases hy1 : ((y0, y1, y2, y3) : V) = kon 1
      · skip
        exact simp_5_1 x0 x1 x2 x3 y0 y1 y2 y3 W hx1 hy1
      · skip
        by_cases hx0 : ((x0, x1, x2, x3) : V) = kon 0
        · skip
          exact simp_5_2 x0 x1 x2 x3 y0 y1 y2 y3 W hx1 hy1 hx0
        · skip
          by_cases hy0 : ((y0, y1, y2, y3) : V) = kon 0
          · skip
            exact simp_5_3 x0 x1 x2 x3 y0 y1 y2 y3 W hx1 hy1 hx0 hy0
          · skip
            exact simp_5_4 x0 x1 x2 x3 y0 y1 y2 y3 W hx1 hy1 hx0 hy0
  · clear h0 h1
    by_cases hxy : ((x0, x1, x2, x3) : V) = ((y0, y1, y2, y3) : V)
    · skip
      exact simp_6_0 x0 x1 x2 x3 y0 y1 y2 y3 W hxy
    · skip
      exact simp_6_1 x0 x1 x2 x3 y0 y1 y2 y3 W hxy
  · clear h0 h1
    by_cases hxy : ((x0, x1, x2, x3) : V) = ((y0, y1, y2, y3) : V)
    · skip
      exact simp_7_0 x0 x1 x2 x3 y0 y1 y2 y3 W hxy
    · skip
      exact simp_7_1 x0 x1 x2 x3 y0 y1 y2 y3 W hxy
end Go.Proofs.Ytldmeffhbabanaa.nums
