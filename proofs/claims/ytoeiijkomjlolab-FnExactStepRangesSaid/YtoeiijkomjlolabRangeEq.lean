/-
  Two ranges are held against each other.
-/
import Derived.Test.YtoeiijkomjlolabProg
import Derived.Test.YtoeiijkomjlolabRangeMath
import Derived.Laws.StructEq
import Derived.WalkKit
namespace Go.Proofs.Ytoeiijkomjlolab.walks
open Go Go.RowKit Go.Proofs.Ytoeiijkomjlolab.math
set_option linter.unusedVariables false

theorem fieldsR : Try.prog.underlying 24 = some (.struct (Try.prog.fieldsOf 24)) := by kernel_rfl
theorem stoodR : Try.prog.stoodInHeld 24 = false := by kernel_rfl
theorem guardR : Try.prog.eqGuardType Try.prog.depth 24 = false := by kernel_rfl
theorem eqGR (x y : Operand) (xs ys : Array Value) (w : World) : (eqGuard .eql 24 x y (.agg xs) (.agg ys)).run Try.prog w = .ok () w := run_eqGuard_agg w _ _ _ _ _ _ guardR
theorem rpart0 (a : Bool) (b c : Int) (w : World) : (part 4 #[.bool a, .int .i64 b, .int .i64 c] 0).run Try.prog w = .ok (.bool a) w := by kernel_rfl
theorem rpart1 (a : Bool) (b c : Int) (w : World) : (part 3 #[.bool a, .int .i64 b, .int .i64 c] 1).run Try.prog w = .ok (.int .i64 b) w := by kernel_rfl
theorem rpart2 (a : Bool) (b c : Int) (w : World) : (part 3 #[.bool a, .int .i64 b, .int .i64 c] 2).run Try.prog w = .ok (.int .i64 c) w := by kernel_rfl
theorem list3r {α : Type} {l : List α} (h : l.length = 3) : ∃ a b c, l = [a, b, c] := by
  match l, h with
  | [a, b, c], _ => exact ⟨a, b, c, rfl⟩
theorem fields3r : ∃ f0 f1 f2 : Field, (Try.prog.fieldsOf 24).toList = [f0, f1, f2] ∧ (f0.name = "Empty" ∧ f0.type = 4 ∧ f0.offset = 0) ∧ (f1.name = "Lo" ∧ f1.type = 3 ∧ f1.offset = 1) ∧ (f2.name = "Hi" ∧ f2.type = 3 ∧ f2.offset = 2) := by
  have hf : (Try.prog.fieldsOf 24).toList.map (fun f => (f.name, f.type, f.offset)) = [("Empty", 4, 0), ("Lo", 3, 1), ("Hi", 3, 2)] := by kernel_rfl
  generalize (Try.prog.fieldsOf 24).toList = fs at hf
  have hl : fs.length = 3 := by
    have := congrArg List.length hf
    simpa using this
  obtain ⟨f0, f1, f2, rfl⟩ := list3r hl
  simp only [List.map_cons, List.map_nil, List.cons.injEq, Prod.mk.injEq, and_true] at hf
  exact ⟨f0, f1, f2, rfl, hf.1, hf.2.1, hf.2.2⟩
theorem eqIR (d : Nat) (a b : Int) (w : World) : (Op.equalIn (d + 1) 3 (.int .i64 a) (.int .i64 b)).run Try.prog w = .ok (a == b) w := run_equalIn_int w d 3 .i64 .i64 a b Try.underlying3
theorem eqBR (d : Nat) (a b : Bool) (w : World) : (Op.equalIn (d + 1) 4 (.bool a) (.bool b)).run Try.prog w = .ok (a == b) w := run_equalIn_bool' w d 4 a b Try.underlying4
/-- .. in whatever the ranges stand. -/
theorem eqInR (d : Nat) (x0 y0 : Bool) (x1 x2 y1 y2 : Int) (w : World) : (Op.equalIn (d + 2) 24 (.agg #[.bool x0, .int .i64 x1, .int .i64 x2]) (.agg #[.bool y0, .int .i64 y1, .int .i64 y2])).run Try.prog w = .ok (decide ((⟨x0, x1, x2⟩ : Rv) = ⟨y0, y1, y2⟩)) w := by
  rw [run_equalIn_struct (P := Try.prog) w (d + 1) 24 _ _ fieldsR stoodR]
  obtain ⟨f0, f1, f2, hfs, ⟨n0, t0, o0⟩, ⟨n1, t1, o1⟩, n2, t2, o2⟩ := fields3r
  rw [hfs]
  have q0 : ("Empty" : String) ≠ "_" := by decide
  have q1 : ("Lo" : String) ≠ "_" := by decide
  have q2 : ("Hi" : String) ≠ "_" := by decide
  simp only [Op.eqFields, n0, t0, o0, n1, t1, o1, n2, t2, o2]
  rw [if_pos q0, if_pos q1, if_pos q2]
  by_cases e0 : x0 = y0
  · by_cases e1 : x1 = y1
    · by_cases e2 : x2 = y2
      · subst e0; subst e1; subst e2
        simp [rpart0, rpart1, rpart2, eqIR d, eqBR d]
      · subst e0; subst e1
        simp [rpart0, rpart1, rpart2, eqIR d, eqBR d, e2]
    · subst e0
      simp [rpart0, rpart1, eqIR d, eqBR d, e1]
  · simp [rpart0, eqBR d, e0]
theorem eqR (x0 y0 : Bool) (x1 x2 y1 y2 : Int) (w : World) : (binOp .eql 24 (.agg #[.bool x0, .int .i64 x1, .int .i64 x2]) (.agg #[.bool y0, .int .i64 y1, .int .i64 y2])).run Try.prog w = .ok (.bool (decide ((⟨x0, x1, x2⟩ : Rv) = ⟨y0, y1, y2⟩))) w := by
  rw [run_eql_struct]
  rw [eqInR 9998]
  rfl
end Go.Proofs.Ytoeiijkomjlolab.walks
