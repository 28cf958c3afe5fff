/-
  A magic is held against itself.
-/
import Derived.Test.YthfakhkoagdcjaaProg
import Derived.Test.YthfakhkoagdcjaaMagMath
import Derived.Laws.StructEq
import Derived.WalkKit
namespace Go.Proofs.Ythfakhkoagdcjaa.cur
open Go Go.RowKit Go.Proofs.Ythfakhkoagdcjaa.math
set_option linter.unusedVariables false

theorem fieldsM : Try.prog.underlying 25 = some (.struct (Try.prog.fieldsOf 25)) := by kernel_rfl
theorem stoodM : Try.prog.stoodInHeld 25 = false := by kernel_rfl
theorem guardM : Try.prog.eqGuardType Try.prog.depth 25 = false := by kernel_rfl
theorem neGM (x y : Operand) (xs ys : Array Value) (w : World) : (eqGuard .neq 25 x y (.agg xs) (.agg ys)).run Try.prog w = .ok () w := run_eqGuard_agg w _ _ _ _ _ _ guardM
theorem list3m {α : Type} {l : List α} (h : l.length = 3) : ∃ a b c, l = [a, b, c] := by
  match l, h with
  | [a, b, c], _ => exact ⟨a, b, c, rfl⟩
theorem mp0 (a b c : Int) (w : World) : (part 3 #[.int .i64 a, .int .i64 b, .int .i64 c] 0).run Try.prog w = .ok (.int .i64 a) w := by kernel_rfl
theorem mp1 (a b c : Int) (w : World) : (part 3 #[.int .i64 a, .int .i64 b, .int .i64 c] 1).run Try.prog w = .ok (.int .i64 b) w := by kernel_rfl
theorem mp2 (a b c : Int) (w : World) : (part 3 #[.int .i64 a, .int .i64 b, .int .i64 c] 2).run Try.prog w = .ok (.int .i64 c) w := by kernel_rfl
theorem fields3m : ∃ f0 f1 f2 : Field, (Try.prog.fieldsOf 25).toList = [f0, f1, f2] ∧ (f0.name = "By" ∧ f0.type = 3 ∧ f0.offset = 0) ∧ (f1.name = "Mul" ∧ f1.type = 3 ∧ f1.offset = 1) ∧ (f2.name = "Shift" ∧ f2.type = 3 ∧ f2.offset = 2) := by
  have hf : (Try.prog.fieldsOf 25).toList.map (fun f => (f.name, f.type, f.offset)) = [("By", 3, 0), ("Mul", 3, 1), ("Shift", 3, 2)] := by kernel_rfl
  generalize (Try.prog.fieldsOf 25).toList = fs at hf
  have hl : fs.length = 3 := by
    have := congrArg List.length hf
    simpa using this
  obtain ⟨f0, f1, f2, rfl⟩ := list3m hl
  simp only [List.map_cons, List.map_nil, List.cons.injEq, Prod.mk.injEq, and_true] at hf
  exact ⟨f0, f1, f2, rfl, hf.1, hf.2.1, hf.2.2⟩
theorem eqNM (d : Nat) (a b : Int) (w : World) : (Op.equalIn (d + 1) 3 (.int .i64 a) (.int .i64 b)).run Try.prog w = .ok (a == b) w := run_equalIn_int w d 3 .i64 .i64 a b Try.underlying3
theorem neM (x0 x1 x2 : Int) (w : World) : (binOp .neq 25 (.agg #[.int .i64 x0, .int .i64 x1, .int .i64 x2]) (.agg #[.int .i64 x0, .int .i64 x1, .int .i64 x2])).run Try.prog w = .ok (.bool false) w := by
  rw [run_neq_struct, run_equalIn_struct (P := Try.prog) w 9999 25 _ _ fieldsM stoodM]
  obtain ⟨f0, f1, f2, hfs, ⟨n0, t0, o0⟩, ⟨n1, t1, o1⟩, n2, t2, o2⟩ := fields3m
  rw [hfs]
  have q0 : ("By" : String) ≠ "_" := by decide
  have q1 : ("Mul" : String) ≠ "_" := by decide
  have q2 : ("Shift" : String) ≠ "_" := by decide
  simp only [Op.eqFields, n0, t0, o0, n1, t1, o1, n2, t2, o2]
  rw [if_pos q0, if_pos q1, if_pos q2]
  simp [mp0, mp1, mp2, eqNM 9998]
end Go.Proofs.Ythfakhkoagdcjaa.cur
