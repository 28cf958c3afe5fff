/-
  Two facts are held against each other.
-/
import Derived.Test.YtfplpabnfhkmlaaProg
import Derived.Test.YtfplpabnfhkmlaaFactMath
import Derived.Laws.StructEq
import Derived.WalkKit
namespace Go.Proofs.Ytfplpabnfhkmlaa.walks
open Go Go.RowKit Go.Proofs.Ytfplpabnfhkmlaa.math
set_option linter.unusedVariables false

theorem fieldsF : Try.prog.underlying 53 = some (.struct (Try.prog.fieldsOf 53)) := by kernel_rfl
theorem stoodF : Try.prog.stoodInHeld 53 = false := by kernel_rfl
theorem guardF : Try.prog.eqGuardType Try.prog.depth 53 = false := by kernel_rfl
theorem eqGF (x y : Operand) (xs ys : Array Value) (w : World) : (eqGuard .eql 53 x y (.agg xs) (.agg ys)).run Try.prog w = .ok () w := run_eqGuard_agg w _ _ _ _ _ _ guardF
theorem fpart0 (a b : Bool) (c : Int) (w : World) : (part 4 #[.bool a, .bool b, .int .i64 c] 0).run Try.prog w = .ok (.bool a) w := by kernel_rfl
theorem fpart1 (a b : Bool) (c : Int) (w : World) : (part 4 #[.bool a, .bool b, .int .i64 c] 1).run Try.prog w = .ok (.bool b) w := by kernel_rfl
theorem fpart2 (a b : Bool) (c : Int) (w : World) : (part 3 #[.bool a, .bool b, .int .i64 c] 2).run Try.prog w = .ok (.int .i64 c) w := by kernel_rfl
theorem list3 {α : Type} {l : List α} (h : l.length = 3) : ∃ a b c, l = [a, b, c] := by
  match l, h with
  | [a, b, c], _ => exact ⟨a, b, c, rfl⟩
theorem fields3 : ∃ f0 f1 f2 : Field, (Try.prog.fieldsOf 53).toList = [f0, f1, f2] ∧ (f0.name = "Top" ∧ f0.type = 4 ∧ f0.offset = 0) ∧ (f1.name = "Known" ∧ f1.type = 4 ∧ f1.offset = 1) ∧ (f2.name = "N" ∧ f2.type = 3 ∧ f2.offset = 2) := by
  have hf : (Try.prog.fieldsOf 53).toList.map (fun f => (f.name, f.type, f.offset)) = [("Top", 4, 0), ("Known", 4, 1), ("N", 3, 2)] := by kernel_rfl
  generalize (Try.prog.fieldsOf 53).toList = fs at hf
  have hl : fs.length = 3 := by
    have := congrArg List.length hf
    simpa using this
  obtain ⟨f0, f1, f2, rfl⟩ := list3 hl
  simp only [List.map_cons, List.map_nil, List.cons.injEq, Prod.mk.injEq, and_true] at hf
  exact ⟨f0, f1, f2, rfl, hf.1, hf.2.1, hf.2.2⟩
theorem eqIF (d : Nat) (a b : Int) (w : World) : (Op.equalIn (d + 1) 3 (.int .i64 a) (.int .i64 b)).run Try.prog w = .ok (a == b) w := run_equalIn_int w d 3 .i64 .i64 a b Try.underlying3
theorem eqBF (d : Nat) (a b : Bool) (w : World) : (Op.equalIn (d + 1) 4 (.bool a) (.bool b)).run Try.prog w = .ok (a == b) w := run_equalIn_bool' w d 4 a b Try.underlying4
/-- .. in whatever the facts stand. -/
theorem eqInF (d : Nat) (x0 x1 y0 y1 : Bool) (x2 y2 : Int) (w : World) : (Op.equalIn (d + 2) 53 (.agg #[.bool x0, .bool x1, .int .i64 x2]) (.agg #[.bool y0, .bool y1, .int .i64 y2])).run Try.prog w = .ok (decide ((⟨x0, x1, x2⟩ : Fv) = ⟨y0, y1, y2⟩)) w := by
  rw [run_equalIn_struct (P := Try.prog) w (d + 1) 53 _ _ fieldsF stoodF]
  obtain ⟨f0, f1, f2, hfs, ⟨n0, t0, o0⟩, ⟨n1, t1, o1⟩, n2, t2, o2⟩ := fields3
  rw [hfs]
  have q0 : ("Top" : String) ≠ "_" := by decide
  have q1 : ("Known" : String) ≠ "_" := by decide
  have q2 : ("N" : String) ≠ "_" := by decide
  simp only [Op.eqFields, n0, t0, o0, n1, t1, o1, n2, t2, o2]
  rw [if_pos q0, if_pos q1, if_pos q2]
  by_cases e0 : x0 = y0
  · by_cases e1 : x1 = y1
    · by_cases e2 : x2 = y2
      · subst e0; subst e1; subst e2
        simp [fpart0, fpart1, fpart2, eqIF d, eqBF d]
      · subst e0; subst e1
        simp [fpart0, fpart1, fpart2, eqIF d, eqBF d, e2]
    · subst e0
      simp [fpart0, fpart1, eqBF d, e1]
  · simp [fpart0, eqBF d, e0]
theorem eqF (x0 x1 y0 y1 : Bool) (x2 y2 : Int) (w : World) : (binOp .eql 53 (.agg #[.bool x0, .bool x1, .int .i64 x2]) (.agg #[.bool y0, .bool y1, .int .i64 y2])).run Try.prog w = .ok (.bool (decide ((⟨x0, x1, x2⟩ : Fv) = ⟨y0, y1, y2⟩))) w := by
  rw [run_eql_struct]
  rw [eqInF 9998]
  rfl
end Go.Proofs.Ytfplpabnfhkmlaa.walks
