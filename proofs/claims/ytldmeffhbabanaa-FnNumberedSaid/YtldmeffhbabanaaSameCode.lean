/-
  What the laws' sameCode and sameInts answer where both lists hold the same.
-/
import Derived.Test.YtldmeffhbabanaaProg
import Derived.Test.YtldmeffhbabanaaInts
import Derived.Test.YtldmeffhbabanaaMagMath
import Derived.Test.YtldmeffhbabanaaRecsInstr
import Derived.Laws.StructEq
import Derived.WalkKit
import Derived.WalkSpells
import Derived.Below
import Derived.Handy
namespace Go.Proofs.Ytldmeffhbabanaa.cur
open Go Go.RowKit Go.Proofs.Ytldmeffhbabanaa.math Go.Proofs.Ytldmeffhbabanaa.ints
set_option linter.unusedVariables false

theorem fieldsI : Try.prog.underlying 61 = some (.struct (Try.prog.fieldsOf 61)) := by kernel_rfl
theorem stoodI : Try.prog.stoodInHeld 61 = false := by kernel_rfl
theorem guardI : Try.prog.eqGuardType Try.prog.depth 61 = false := by kernel_rfl
theorem neG (x y : Operand) (xs ys : Array Value) (w : World) : (eqGuard .neq 61 x y (.agg xs) (.agg ys)).run Try.prog w = .ok () w := run_eqGuard_agg w _ _ _ _ _ _ guardI
theorem list5 {α : Type} {l : List α} (h : l.length = 5) : ∃ a b c d e, l = [a, b, c, d, e] := by
  match l, h with
  | [a, b, c, d, e], _ => exact ⟨a, b, c, d, e, rfl⟩
theorem p0 (a b c d f : Int) (w : World) : (part 3 #[.int .i64 a, .int .i64 b, .int .i64 c, .int .i64 d, .int .i64 f] 0).run Try.prog w = .ok (.int .i64 a) w := by kernel_rfl
theorem p1 (a b c d f : Int) (w : World) : (part 3 #[.int .i64 a, .int .i64 b, .int .i64 c, .int .i64 d, .int .i64 f] 1).run Try.prog w = .ok (.int .i64 b) w := by kernel_rfl
theorem p2 (a b c d f : Int) (w : World) : (part 3 #[.int .i64 a, .int .i64 b, .int .i64 c, .int .i64 d, .int .i64 f] 2).run Try.prog w = .ok (.int .i64 c) w := by kernel_rfl
theorem p3 (a b c d f : Int) (w : World) : (part 3 #[.int .i64 a, .int .i64 b, .int .i64 c, .int .i64 d, .int .i64 f] 3).run Try.prog w = .ok (.int .i64 d) w := by kernel_rfl
theorem p4 (a b c d f : Int) (w : World) : (part 3 #[.int .i64 a, .int .i64 b, .int .i64 c, .int .i64 d, .int .i64 f] 4).run Try.prog w = .ok (.int .i64 f) w := by kernel_rfl
theorem fields5 : ∃ f0 f1 f2 f3 f4 : Field, (Try.prog.fieldsOf 61).toList = [f0, f1, f2, f3, f4] ∧ (f0.name = "Op" ∧ f0.type = 3 ∧ f0.offset = 0) ∧ (f1.name = "Dst" ∧ f1.type = 3 ∧ f1.offset = 1) ∧ (f2.name = "A" ∧ f2.type = 3 ∧ f2.offset = 2) ∧ (f3.name = "B" ∧ f3.type = 3 ∧ f3.offset = 3) ∧ (f4.name = "N" ∧ f4.type = 3 ∧ f4.offset = 4) := by
  have hf : (Try.prog.fieldsOf 61).toList.map (fun f => (f.name, f.type, f.offset)) = [("Op", 3, 0), ("Dst", 3, 1), ("A", 3, 2), ("B", 3, 3), ("N", 3, 4)] := by kernel_rfl
  generalize (Try.prog.fieldsOf 61).toList = fs at hf
  have hl : fs.length = 5 := by
    have := congrArg List.length hf
    simpa using this
  obtain ⟨f0, f1, f2, f3, f4, rfl⟩ := list5 hl
  simp only [List.map_cons, List.map_nil, List.cons.injEq, Prod.mk.injEq, and_true] at hf
  exact ⟨f0, f1, f2, f3, f4, rfl, hf.1, hf.2.1, hf.2.2.1, hf.2.2.2.1, hf.2.2.2.2⟩
theorem eqN (d : Nat) (a b : Int) (w : World) : (Op.equalIn (d + 1) 3 (.int .i64 a) (.int .i64 b)).run Try.prog w = .ok (a == b) w := run_equalIn_int w d 3 .i64 .i64 a b Try.underlying3
theorem neS (x0 x1 x2 x3 x4 : Int) (w : World) : (binOp .neq 61 (.agg #[.int .i64 x0, .int .i64 x1, .int .i64 x2, .int .i64 x3, .int .i64 x4]) (.agg #[.int .i64 x0, .int .i64 x1, .int .i64 x2, .int .i64 x3, .int .i64 x4])).run Try.prog w = .ok (.bool false) w := by
  rw [run_neq_struct, run_equalIn_struct (P := Try.prog) w 9999 61 _ _ fieldsI stoodI]
  obtain ⟨f0, f1, f2, f3, f4, hfs, ⟨n0, t0, o0⟩, ⟨n1, t1, o1⟩, ⟨n2, t2, o2⟩, ⟨n3, t3, o3⟩, n4, t4, o4⟩ := fields5
  rw [hfs]
  have q0 : ("Op" : String) ≠ "_" := by decide
  have q1 : ("Dst" : String) ≠ "_" := by decide
  have q2 : ("A" : String) ≠ "_" := by decide
  have q3 : ("B" : String) ≠ "_" := by decide
  have q4 : ("N" : String) ≠ "_" := by decide
  simp only [Op.eqFields, n0, t0, o0, n1, t1, o1, n2, t2, o2, n3, t3, o3, n4, t4, o4]
  rw [if_pos q0, if_pos q1, if_pos q2, if_pos q3, if_pos q4]
  simp [p0, p1, p2, p3, p4, eqN 9998]
set_option maxRecDepth 100000 in
set_option maxHeartbeats 2000000 in
theorem same_code (a a' : Option Addr) (len cap cap' : Nat) (zs : List Int) (W : World) (hz : Hid (zs.length = len * 5)) (hlen : len ≤ 1048576) (h : Hid (Ints W a zs)) (h' : Hid (Ints W a' zs)) :
    Calls Try.prog 8 #[.slice a len cap, .slice a' len cap'] W fun e W' => e = .returned (.bool true) ∧ Below W.heap.size W W' := by
  go_enter Try.func8, Try.ntmps8
  go_wp2
  go_loopw [13] (fun vi wr => ∃ k : Nat, k ≤ len ∧ vi = .int .i64 k ∧ Hid (Below W.heap.size W wr)) (fun vi _ => len - (intOf vi).toNat)
  case atStart => exact ⟨0, Nat.zero_le _, rfl, Below.refl _ _⟩
  case round =>
    obtain ⟨k, hk, rfl, HB⟩ := hrel
    by_cases hlt : k < len
    · obtain ⟨b, off, ha, hb, c0, c1, c2, c3, c4⟩ := Instr_at h.out hz.out HB.out hlt
      obtain ⟨b', off', ha', hb', d0, d1, d2, d3, d4⟩ := Instr_at h'.out hz.out HB.out hlt
      subst ha ha'
      generalize zs.getD (k * 5) 0 = x0 at c0 d0
      generalize zs.getD (k * 5 + 1) 0 = x1 at c1 d1
      generalize zs.getD (k * 5 + 2) 0 = x2 at c2 d2
      generalize zs.getD (k * 5 + 3) 0 = x3 at c3 d3
      generalize zs.getD (k * 5 + 4) 0 = x4 at c4 d4
      have qg := neG
      have q : ∀ w : World, (binOp .neq 61 (.agg #[.int .i64 x0, .int .i64 x1, .int .i64 x2, .int .i64 x3, .int .i64 x4]) (.agg #[.int .i64 x0, .int .i64 x1, .int .i64 x2, .int .i64 x3, .int .i64 x4])).run Try.prog w = .ok (.bool false) w := neS x0 x1 x2 x3 x4
      go_wp2
      go_region
      go_wp2
      go_roundw
      case rel => exact ⟨k + 1, by omega, by go_num, HB.out.drew⟩
      case measure => simp [intOf]; omega
    · go_wp2
      go_ret
      exact ⟨rfl, HB.out⟩
set_option maxRecDepth 100000 in
theorem same_list (a a' : Option Addr) (len cap cap' : Nat) (zs : List Int) (W : World) (hz : Hid (zs.length = len)) (hlen : len ≤ 1048576) (h : Hid (Ints W a zs)) (h' : Hid (Ints W a' zs)) :
    Calls Try.prog 11 #[.slice a len cap, .slice a' len cap'] W fun e W' => e = .returned (.bool true) ∧ Below W.heap.size W W' := by
  go_enter Try.func11, Try.ntmps11
  go_wp2
  go_loopw [13] (fun vi wr => ∃ k : Nat, k ≤ len ∧ vi = .int .i64 k ∧ Hid (Below W.heap.size W wr)) (fun vi _ => len - (intOf vi).toNat)
  case atStart => exact ⟨0, Nat.zero_le _, rfl, Below.refl _ _⟩
  case round =>
    obtain ⟨k, hk, rfl, HB⟩ := hrel
    by_cases hlt : k < len
    · obtain ⟨b, off, ha, hc⟩ := h.out.at HB.out (k := k) (by have := hz.out; omega)
      obtain ⟨b', off', ha', hc'⟩ := h'.out.at HB.out (k := k) (by have := hz.out; omega)
      subst ha ha'
      go_wp2
      go_region
      go_wp2
      go_roundw
      case rel => exact ⟨k + 1, by omega, by go_num, HB.out.drew⟩
      case measure => simp [intOf]; omega
    · go_wp2
      go_ret
      exact ⟨rfl, HB.out⟩
end Go.Proofs.Ytldmeffhbabanaa.cur
