/-
  Two values are held against each other.
-/
import Derived.Test.YtldmeffhbabanaaProg
import Derived.Test.YtldmeffhbabanaaNumMap
import Derived.Laws.StructEq
import Derived.WalkKit
namespace Go.Proofs.Ytldmeffhbabanaa.nums
open Go Go.RowKit
set_option linter.unusedVariables false

theorem fieldsV : Try.prog.underlying 49 = some (.struct (Try.prog.fieldsOf 49)) := by kernel_rfl
theorem stoodV : Try.prog.stoodInHeld 49 = false := by kernel_rfl
theorem guardV : Try.prog.eqGuardType Try.prog.depth 49 = false := by kernel_rfl
theorem eqG (x y : Operand) (xs ys : Array Value) (w : World) : (eqGuard .eql 49 x y (.agg xs) (.agg ys)).run Try.prog w = .ok () w := run_eqGuard_agg w _ _ _ _ _ _ guardV
theorem part0 (a b c d : Int) (w : World) : (part 3 #[.int .i64 a, .int .i64 b, .int .i64 c, .int .i64 d] 0).run Try.prog w = .ok (.int .i64 a) w := by kernel_rfl
theorem part1 (a b c d : Int) (w : World) : (part 3 #[.int .i64 a, .int .i64 b, .int .i64 c, .int .i64 d] 1).run Try.prog w = .ok (.int .i64 b) w := by kernel_rfl
theorem part2 (a b c d : Int) (w : World) : (part 3 #[.int .i64 a, .int .i64 b, .int .i64 c, .int .i64 d] 2).run Try.prog w = .ok (.int .i64 c) w := by kernel_rfl
theorem part3 (a b c d : Int) (w : World) : (part 3 #[.int .i64 a, .int .i64 b, .int .i64 c, .int .i64 d] 3).run Try.prog w = .ok (.int .i64 d) w := by kernel_rfl
theorem fields4 : ∃ f0 f1 f2 f3 : Field, (Try.prog.fieldsOf 49).toList = [f0, f1, f2, f3] ∧ (f0.name = "Op" ∧ f0.type = 3 ∧ f0.offset = 0) ∧ (f1.name = "A" ∧ f1.type = 3 ∧ f1.offset = 1) ∧ (f2.name = "B" ∧ f2.type = 3 ∧ f2.offset = 2) ∧ (f3.name = "N" ∧ f3.type = 3 ∧ f3.offset = 3) := by
  have hf : (Try.prog.fieldsOf 49).toList.map (fun f => (f.name, f.type, f.offset)) = [("Op", 3, 0), ("A", 3, 1), ("B", 3, 2), ("N", 3, 3)] := by kernel_rfl
  generalize (Try.prog.fieldsOf 49).toList = fs at hf
  have hl : fs.length = 4 := by
    have := congrArg List.length hf
    simpa using this
  obtain ⟨f0, f1, f2, f3, rfl⟩ := list4 hl
  simp only [List.map_cons, List.map_nil, List.cons.injEq, Prod.mk.injEq, and_true] at hf
  exact ⟨f0, f1, f2, f3, rfl, hf.1, hf.2.1, hf.2.2.1, hf.2.2.2⟩
theorem eqI (d : Nat) (a b : Int) (w : World) : (Op.equalIn (d + 1) 3 (.int .i64 a) (.int .i64 b)).run Try.prog w = .ok (a == b) w := run_equalIn_int w d 3 .i64 .i64 a b Try.underlying3
theorem eqV (x0 x1 x2 x3 y0 y1 y2 y3 : Int) (w : World) : (binOp .eql 49 (.agg #[.int .i64 x0, .int .i64 x1, .int .i64 x2, .int .i64 x3]) (.agg #[.int .i64 y0, .int .i64 y1, .int .i64 y2, .int .i64 y3])).run Try.prog w = .ok (.bool (decide (((x0, x1, x2, x3) : V) = (y0, y1, y2, y3)))) w := by
  rw [run_eql_struct, run_equalIn_struct (P := Try.prog) w 9999 49 _ _ fieldsV stoodV]
  obtain ⟨f0, f1, f2, f3, hfs, ⟨n0, t0, o0⟩, ⟨n1, t1, o1⟩, ⟨n2, t2, o2⟩, n3, t3, o3⟩ := fields4
  rw [hfs]
  have q0 : ("Op" : String) ≠ "_" := by decide
  have q1 : ("A" : String) ≠ "_" := by decide
  have q2 : ("B" : String) ≠ "_" := by decide
  have q3 : ("N" : String) ≠ "_" := by decide
  simp only [Op.eqFields, n0, t0, o0, n1, t1, o1, n2, t2, o2, n3, t3, o3]
  rw [if_pos q0, if_pos q1, if_pos q2, if_pos q3]
  by_cases e0 : x0 = y0
  · by_cases e1 : x1 = y1
    · by_cases e2 : x2 = y2
      · by_cases e3 : x3 = y3
        · subst e0; subst e1; subst e2; subst e3
          simp [part0, part1, part2, part3, eqI 9998]
        · subst e0; subst e1; subst e2
          simp [part0, part1, part2, part3, eqI 9998, e3]
      · subst e0; subst e1
        simp [part0, part1, part2, eqI 9998, e2]
    · subst e0
      simp [part0, part1, eqI 9998, e1]
  · simp [part0, eqI 9998, e0]
theorem eqVv (u v : V) (w : World) : (binOp .eql 49 (vV u) (vV v)).run Try.prog w = .ok (.bool (decide (u = v))) w := by
  obtain ⟨x0, x1, x2, x3⟩ := u
  obtain ⟨y0, y1, y2, y3⟩ := v
  exact eqV x0 x1 x2 x3 y0 y1 y2 y3 w
end Go.Proofs.Ytldmeffhbabanaa.nums
