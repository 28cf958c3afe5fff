/-
  An array of eight values, read at each place.
-/
import Derived.Test.YtldmeffhbabanaaProg
import Derived.Test.YtldmeffhbabanaaNumSet
import Derived.Test.YtldmeffhbabanaaNumState
import Derived.Deep.MidRow
import Derived.WalkKit
namespace Go.Proofs.Ytldmeffhbabanaa.nums
open Go.RowKit
set_option linter.unusedVariables false

theorem arr0 : ∀ (x00 x01 x02 x03 x10 x11 x12 x13 x20 x21 x22 x23 x30 x31 x32 x33 x40 x41 x42 x43 x50 x51 x52 x53 x60 x61 x62 x63 x70 x71 x72 x73 : Int) (w : World), (Instr.index 87 (.agg #[.int .i64 x00, .int .i64 x01, .int .i64 x02, .int .i64 x03, .int .i64 x10, .int .i64 x11, .int .i64 x12, .int .i64 x13, .int .i64 x20, .int .i64 x21, .int .i64 x22, .int .i64 x23, .int .i64 x30, .int .i64 x31, .int .i64 x32, .int .i64 x33, .int .i64 x40, .int .i64 x41, .int .i64 x42, .int .i64 x43, .int .i64 x50, .int .i64 x51, .int .i64 x52, .int .i64 x53, .int .i64 x60, .int .i64 x61, .int .i64 x62, .int .i64 x63, .int .i64 x70, .int .i64 x71, .int .i64 x72, .int .i64 x73]) (.int .i64 0)).run Try.prog w = .ok (.agg #[.int .i64 x00, .int .i64 x01, .int .i64 x02, .int .i64 x03]) w := fun _ _ _ _ _ _ _ _ _ _ _ _ _ _ _ _ _ _ _ _ _ _ _ _ _ _ _ _ _ _ _ _ _ => by kernel_rfl
theorem arr1 : ∀ (x00 x01 x02 x03 x10 x11 x12 x13 x20 x21 x22 x23 x30 x31 x32 x33 x40 x41 x42 x43 x50 x51 x52 x53 x60 x61 x62 x63 x70 x71 x72 x73 : Int) (w : World), (Instr.index 87 (.agg #[.int .i64 x00, .int .i64 x01, .int .i64 x02, .int .i64 x03, .int .i64 x10, .int .i64 x11, .int .i64 x12, .int .i64 x13, .int .i64 x20, .int .i64 x21, .int .i64 x22, .int .i64 x23, .int .i64 x30, .int .i64 x31, .int .i64 x32, .int .i64 x33, .int .i64 x40, .int .i64 x41, .int .i64 x42, .int .i64 x43, .int .i64 x50, .int .i64 x51, .int .i64 x52, .int .i64 x53, .int .i64 x60, .int .i64 x61, .int .i64 x62, .int .i64 x63, .int .i64 x70, .int .i64 x71, .int .i64 x72, .int .i64 x73]) (.int .i64 1)).run Try.prog w = .ok (.agg #[.int .i64 x10, .int .i64 x11, .int .i64 x12, .int .i64 x13]) w := fun _ _ _ _ _ _ _ _ _ _ _ _ _ _ _ _ _ _ _ _ _ _ _ _ _ _ _ _ _ _ _ _ _ => by kernel_rfl
theorem arr2 : ∀ (x00 x01 x02 x03 x10 x11 x12 x13 x20 x21 x22 x23 x30 x31 x32 x33 x40 x41 x42 x43 x50 x51 x52 x53 x60 x61 x62 x63 x70 x71 x72 x73 : Int) (w : World), (Instr.index 87 (.agg #[.int .i64 x00, .int .i64 x01, .int .i64 x02, .int .i64 x03, .int .i64 x10, .int .i64 x11, .int .i64 x12, .int .i64 x13, .int .i64 x20, .int .i64 x21, .int .i64 x22, .int .i64 x23, .int .i64 x30, .int .i64 x31, .int .i64 x32, .int .i64 x33, .int .i64 x40, .int .i64 x41, .int .i64 x42, .int .i64 x43, .int .i64 x50, .int .i64 x51, .int .i64 x52, .int .i64 x53, .int .i64 x60, .int .i64 x61, .int .i64 x62, .int .i64 x63, .int .i64 x70, .int .i64 x71, .int .i64 x72, .int .i64 x73]) (.int .i64 2)).run Try.prog w = .ok (.agg #[.int .i64 x20, .int .i64 x21, .int .i64 x22, .int .i64 x23]) w := fun _ _ _ _ _ _ _ _ _ _ _ _ _ _ _ _ _ _ _ _ _ _ _ _ _ _ _ _ _ _ _ _ _ => by kernel_rfl
theorem arr3 : ∀ (x00 x01 x02 x03 x10 x11 x12 x13 x20 x21 x22 x23 x30 x31 x32 x33 x40 x41 x42 x43 x50 x51 x52 x53 x60 x61 x62 x63 x70 x71 x72 x73 : Int) (w : World), (Instr.index 87 (.agg #[.int .i64 x00, .int .i64 x01, .int .i64 x02, .int .i64 x03, .int .i64 x10, .int .i64 x11, .int .i64 x12, .int .i64 x13, .int .i64 x20, .int .i64 x21, .int .i64 x22, .int .i64 x23, .int .i64 x30, .int .i64 x31, .int .i64 x32, .int .i64 x33, .int .i64 x40, .int .i64 x41, .int .i64 x42, .int .i64 x43, .int .i64 x50, .int .i64 x51, .int .i64 x52, .int .i64 x53, .int .i64 x60, .int .i64 x61, .int .i64 x62, .int .i64 x63, .int .i64 x70, .int .i64 x71, .int .i64 x72, .int .i64 x73]) (.int .i64 3)).run Try.prog w = .ok (.agg #[.int .i64 x30, .int .i64 x31, .int .i64 x32, .int .i64 x33]) w := fun _ _ _ _ _ _ _ _ _ _ _ _ _ _ _ _ _ _ _ _ _ _ _ _ _ _ _ _ _ _ _ _ _ => by kernel_rfl
theorem arr4 : ∀ (x00 x01 x02 x03 x10 x11 x12 x13 x20 x21 x22 x23 x30 x31 x32 x33 x40 x41 x42 x43 x50 x51 x52 x53 x60 x61 x62 x63 x70 x71 x72 x73 : Int) (w : World), (Instr.index 87 (.agg #[.int .i64 x00, .int .i64 x01, .int .i64 x02, .int .i64 x03, .int .i64 x10, .int .i64 x11, .int .i64 x12, .int .i64 x13, .int .i64 x20, .int .i64 x21, .int .i64 x22, .int .i64 x23, .int .i64 x30, .int .i64 x31, .int .i64 x32, .int .i64 x33, .int .i64 x40, .int .i64 x41, .int .i64 x42, .int .i64 x43, .int .i64 x50, .int .i64 x51, .int .i64 x52, .int .i64 x53, .int .i64 x60, .int .i64 x61, .int .i64 x62, .int .i64 x63, .int .i64 x70, .int .i64 x71, .int .i64 x72, .int .i64 x73]) (.int .i64 4)).run Try.prog w = .ok (.agg #[.int .i64 x40, .int .i64 x41, .int .i64 x42, .int .i64 x43]) w := fun _ _ _ _ _ _ _ _ _ _ _ _ _ _ _ _ _ _ _ _ _ _ _ _ _ _ _ _ _ _ _ _ _ => by kernel_rfl
theorem arr5 : ∀ (x00 x01 x02 x03 x10 x11 x12 x13 x20 x21 x22 x23 x30 x31 x32 x33 x40 x41 x42 x43 x50 x51 x52 x53 x60 x61 x62 x63 x70 x71 x72 x73 : Int) (w : World), (Instr.index 87 (.agg #[.int .i64 x00, .int .i64 x01, .int .i64 x02, .int .i64 x03, .int .i64 x10, .int .i64 x11, .int .i64 x12, .int .i64 x13, .int .i64 x20, .int .i64 x21, .int .i64 x22, .int .i64 x23, .int .i64 x30, .int .i64 x31, .int .i64 x32, .int .i64 x33, .int .i64 x40, .int .i64 x41, .int .i64 x42, .int .i64 x43, .int .i64 x50, .int .i64 x51, .int .i64 x52, .int .i64 x53, .int .i64 x60, .int .i64 x61, .int .i64 x62, .int .i64 x63, .int .i64 x70, .int .i64 x71, .int .i64 x72, .int .i64 x73]) (.int .i64 5)).run Try.prog w = .ok (.agg #[.int .i64 x50, .int .i64 x51, .int .i64 x52, .int .i64 x53]) w := fun _ _ _ _ _ _ _ _ _ _ _ _ _ _ _ _ _ _ _ _ _ _ _ _ _ _ _ _ _ _ _ _ _ => by kernel_rfl
theorem arr6 : ∀ (x00 x01 x02 x03 x10 x11 x12 x13 x20 x21 x22 x23 x30 x31 x32 x33 x40 x41 x42 x43 x50 x51 x52 x53 x60 x61 x62 x63 x70 x71 x72 x73 : Int) (w : World), (Instr.index 87 (.agg #[.int .i64 x00, .int .i64 x01, .int .i64 x02, .int .i64 x03, .int .i64 x10, .int .i64 x11, .int .i64 x12, .int .i64 x13, .int .i64 x20, .int .i64 x21, .int .i64 x22, .int .i64 x23, .int .i64 x30, .int .i64 x31, .int .i64 x32, .int .i64 x33, .int .i64 x40, .int .i64 x41, .int .i64 x42, .int .i64 x43, .int .i64 x50, .int .i64 x51, .int .i64 x52, .int .i64 x53, .int .i64 x60, .int .i64 x61, .int .i64 x62, .int .i64 x63, .int .i64 x70, .int .i64 x71, .int .i64 x72, .int .i64 x73]) (.int .i64 6)).run Try.prog w = .ok (.agg #[.int .i64 x60, .int .i64 x61, .int .i64 x62, .int .i64 x63]) w := fun _ _ _ _ _ _ _ _ _ _ _ _ _ _ _ _ _ _ _ _ _ _ _ _ _ _ _ _ _ _ _ _ _ => by kernel_rfl
theorem arr7 : ∀ (x00 x01 x02 x03 x10 x11 x12 x13 x20 x21 x22 x23 x30 x31 x32 x33 x40 x41 x42 x43 x50 x51 x52 x53 x60 x61 x62 x63 x70 x71 x72 x73 : Int) (w : World), (Instr.index 87 (.agg #[.int .i64 x00, .int .i64 x01, .int .i64 x02, .int .i64 x03, .int .i64 x10, .int .i64 x11, .int .i64 x12, .int .i64 x13, .int .i64 x20, .int .i64 x21, .int .i64 x22, .int .i64 x23, .int .i64 x30, .int .i64 x31, .int .i64 x32, .int .i64 x33, .int .i64 x40, .int .i64 x41, .int .i64 x42, .int .i64 x43, .int .i64 x50, .int .i64 x51, .int .i64 x52, .int .i64 x53, .int .i64 x60, .int .i64 x61, .int .i64 x62, .int .i64 x63, .int .i64 x70, .int .i64 x71, .int .i64 x72, .int .i64 x73]) (.int .i64 7)).run Try.prog w = .ok (.agg #[.int .i64 x70, .int .i64 x71, .int .i64 x72, .int .i64 x73]) w := fun _ _ _ _ _ _ _ _ _ _ _ _ _ _ _ _ _ _ _ _ _ _ _ _ _ _ _ _ _ _ _ _ _ => by kernel_rfl
/-- An array value that tells the names' values. -/
def ArrIs (A : Value) (ns : List V) : Prop := ∀ k, k < 8 → ∀ a b c d : Int, ns.getD k zV = (a, b, c, d) → ∀ w : World, (Instr.index 87 A (.int .i64 (k : Int))).run Try.prog w = .ok (.agg #[.int .i64 a, .int .i64 b, .int .i64 c, .int .i64 d]) w
theorem list8 {l : List V} (h : l.length = 8) : ∃ a b c d e f g i, l = [a, b, c, d, e, f, g, i] := by
  match l, h with
  | [a, b, c, d, e, f, g, i], _ => exact ⟨a, b, c, d, e, f, g, i, rfl⟩
theorem arr_is {ns : List V} (h : ns.length = 8) : ArrIs (.agg (flatV ns).toArray) ns := by
  obtain ⟨v0, v1, v2, v3, v4, v5, v6, v7, rfl⟩ := list8 h
  obtain ⟨x00, x01, x02, x03⟩ := v0
  obtain ⟨x10, x11, x12, x13⟩ := v1
  obtain ⟨x20, x21, x22, x23⟩ := v2
  obtain ⟨x30, x31, x32, x33⟩ := v3
  obtain ⟨x40, x41, x42, x43⟩ := v4
  obtain ⟨x50, x51, x52, x53⟩ := v5
  obtain ⟨x60, x61, x62, x63⟩ := v6
  obtain ⟨x70, x71, x72, x73⟩ := v7
  intro k hk a b c d h w
  obtain rfl | rfl | rfl | rfl | rfl | rfl | rfl | rfl : k = 0 ∨ k = 1 ∨ k = 2 ∨ k = 3 ∨ k = 4 ∨ k = 5 ∨ k = 6 ∨ k = 7 := by omega
  · cases h; exact arr0 x00 x01 x02 x03 x10 x11 x12 x13 x20 x21 x22 x23 x30 x31 x32 x33 x40 x41 x42 x43 x50 x51 x52 x53 x60 x61 x62 x63 x70 x71 x72 x73 w
  · cases h; exact arr1 x00 x01 x02 x03 x10 x11 x12 x13 x20 x21 x22 x23 x30 x31 x32 x33 x40 x41 x42 x43 x50 x51 x52 x53 x60 x61 x62 x63 x70 x71 x72 x73 w
  · cases h; exact arr2 x00 x01 x02 x03 x10 x11 x12 x13 x20 x21 x22 x23 x30 x31 x32 x33 x40 x41 x42 x43 x50 x51 x52 x53 x60 x61 x62 x63 x70 x71 x72 x73 w
  · cases h; exact arr3 x00 x01 x02 x03 x10 x11 x12 x13 x20 x21 x22 x23 x30 x31 x32 x33 x40 x41 x42 x43 x50 x51 x52 x53 x60 x61 x62 x63 x70 x71 x72 x73 w
  · cases h; exact arr4 x00 x01 x02 x03 x10 x11 x12 x13 x20 x21 x22 x23 x30 x31 x32 x33 x40 x41 x42 x43 x50 x51 x52 x53 x60 x61 x62 x63 x70 x71 x72 x73 w
  · cases h; exact arr5 x00 x01 x02 x03 x10 x11 x12 x13 x20 x21 x22 x23 x30 x31 x32 x33 x40 x41 x42 x43 x50 x51 x52 x53 x60 x61 x62 x63 x70 x71 x72 x73 w
  · cases h; exact arr6 x00 x01 x02 x03 x10 x11 x12 x13 x20 x21 x22 x23 x30 x31 x32 x33 x40 x41 x42 x43 x50 x51 x52 x53 x60 x61 x62 x63 x70 x71 x72 x73 w
  · cases h; exact arr7 x00 x01 x02 x03 x10 x11 x12 x13 x20 x21 x22 x23 x30 x31 x32 x33 x40 x41 x42 x43 x50 x51 x52 x53 x60 x61 x62 x63 x70 x71 x72 x73 w
theorem arr_size : (Try.prog.info? 87).map (fun i => i.size) = some 32 := by kernel_rfl
theorem names_range {w : World} {nb mb : Nat} {vs ns : List V} (h : Num w nb mb vs ns) (hl : ns.length = 8) : w.rangeAt nb 1 (flatV ns) := by
  intro j v hj
  have hj' : j < 32 := by
    have := (List.getElem?_eq_some_iff.1 hj).1
    rw [flat_len, hl] at this
    exact this
  have h1 := flat_at ns (j / 4) (j % 4) (by omega) (by omega)
  rw [show j / 4 * 4 + j % 4 = j by omega, hj] at h1
  cases h1
  have h2 := num_cell h (j := j / 4) (i := j % 4) (by omega) (by omega)
  rw [show 1 + j / 4 * 4 + j % 4 = 1 + j by omega] at h2
  exact h2
/-- The array of the names' values, as one value. -/
theorem names_arr {w : World} {nb mb : Nat} {vs ns : List V} (h : Num w nb mb vs ns) (hl : ns.length = 8) : ∃ cs : List Value, Hid (w.rangeAt nb 1 cs) ∧ Hid ((Try.prog.info? 87).map (·.size) = some cs.length) ∧ Hid (ArrIs (.agg cs.toArray) ns) :=
  ⟨_, names_range h hl, by show _ = _; rw [flat_len, hl]; exact arr_size, arr_is hl⟩
end Go.Proofs.Ytldmeffhbabanaa.nums
