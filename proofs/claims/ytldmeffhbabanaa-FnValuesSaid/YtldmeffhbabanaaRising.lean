/-
  Marks of names, rising: what the program's rising answers.
-/
import Derived.Test.YtldmeffhbabanaaProg
import Derived.Test.YtldmeffhbabanaaNamesMath
import Derived.Test.YtldmeffhbabanaaInts
import Derived.Test.YtldmeffhbabanaaOwnInts
import Derived.WalkKit
import Derived.WalkSpells
import Derived.Below
import Derived.Handy
import Derived.Deep.OwnRows
namespace Go.Proofs.Ytldmeffhbabanaa.walks
open Go.RowKit Go.Proofs.Ytldmeffhbabanaa.math Go.Proofs.Ytldmeffhbabanaa.ints
set_option linter.unusedVariables false

/-- The block g holds a mark for each name. -/
def Marked (w : World) (g : Nat) (f : Nat → Bool) : Prop := w.rowIs g 85 8 (fun i => .bool (f i))
/-- What rising leaves. -/
def RisAns (W : World) (zs : List Int) (e : Ending) (W' : World) : Prop := ∃ v, e = .returned v ∧ Own W' W.heap.size v zs ∧ Below W.heap.size W W'
theorem ris_yes {f : Nat → Bool} {k : Nat} (h : f k = true) : risingTo f (k + 1) = risingTo f k ++ [(k : Int)] := by simp [risingTo, h]
theorem ris_no {f : Nat → Bool} {k : Nat} (h : f k = false) : risingTo f (k + 1) = risingTo f k := by simp [risingTo, h]
theorem idx0 : ∀ (b0 b1 b2 b3 b4 b5 b6 b7 : Bool) (w : World), (Instr.index 85 (.agg #[.bool b0, .bool b1, .bool b2, .bool b3, .bool b4, .bool b5, .bool b6, .bool b7]) (.int .i64 0)).run Try.prog w = .ok (.bool b0) w := fun _ _ _ _ _ _ _ _ _ => by kernel_rfl
theorem idx1 : ∀ (b0 b1 b2 b3 b4 b5 b6 b7 : Bool) (w : World), (Instr.index 85 (.agg #[.bool b0, .bool b1, .bool b2, .bool b3, .bool b4, .bool b5, .bool b6, .bool b7]) (.int .i64 1)).run Try.prog w = .ok (.bool b1) w := fun _ _ _ _ _ _ _ _ _ => by kernel_rfl
theorem idx2 : ∀ (b0 b1 b2 b3 b4 b5 b6 b7 : Bool) (w : World), (Instr.index 85 (.agg #[.bool b0, .bool b1, .bool b2, .bool b3, .bool b4, .bool b5, .bool b6, .bool b7]) (.int .i64 2)).run Try.prog w = .ok (.bool b2) w := fun _ _ _ _ _ _ _ _ _ => by kernel_rfl
theorem idx3 : ∀ (b0 b1 b2 b3 b4 b5 b6 b7 : Bool) (w : World), (Instr.index 85 (.agg #[.bool b0, .bool b1, .bool b2, .bool b3, .bool b4, .bool b5, .bool b6, .bool b7]) (.int .i64 3)).run Try.prog w = .ok (.bool b3) w := fun _ _ _ _ _ _ _ _ _ => by kernel_rfl
theorem idx4 : ∀ (b0 b1 b2 b3 b4 b5 b6 b7 : Bool) (w : World), (Instr.index 85 (.agg #[.bool b0, .bool b1, .bool b2, .bool b3, .bool b4, .bool b5, .bool b6, .bool b7]) (.int .i64 4)).run Try.prog w = .ok (.bool b4) w := fun _ _ _ _ _ _ _ _ _ => by kernel_rfl
theorem idx5 : ∀ (b0 b1 b2 b3 b4 b5 b6 b7 : Bool) (w : World), (Instr.index 85 (.agg #[.bool b0, .bool b1, .bool b2, .bool b3, .bool b4, .bool b5, .bool b6, .bool b7]) (.int .i64 5)).run Try.prog w = .ok (.bool b5) w := fun _ _ _ _ _ _ _ _ _ => by kernel_rfl
theorem idx6 : ∀ (b0 b1 b2 b3 b4 b5 b6 b7 : Bool) (w : World), (Instr.index 85 (.agg #[.bool b0, .bool b1, .bool b2, .bool b3, .bool b4, .bool b5, .bool b6, .bool b7]) (.int .i64 6)).run Try.prog w = .ok (.bool b6) w := fun _ _ _ _ _ _ _ _ _ => by kernel_rfl
theorem idx7 : ∀ (b0 b1 b2 b3 b4 b5 b6 b7 : Bool) (w : World), (Instr.index 85 (.agg #[.bool b0, .bool b1, .bool b2, .bool b3, .bool b4, .bool b5, .bool b6, .bool b7]) (.int .i64 7)).run Try.prog w = .ok (.bool b7) w := fun _ _ _ _ _ _ _ _ _ => by kernel_rfl
set_option maxRecDepth 100000 in
set_option maxHeartbeats 8000000 in
theorem impl_rising (f : Nat → Bool) (W : World) : Calls Try.prog 43 #[.agg #[.bool (f 0), .bool (f 1), .bool (f 2), .bool (f 3), .bool (f 4), .bool (f 5), .bool (f 6), .bool (f 7)]] W fun e W' => RisAns W (risingTo f 8) e W' := by
  obtain ⟨i0, hi, hz0, hz1, hz2⟩ := info_parts row_info
  go_enter Try.func43, Try.ntmps43
  go_wp2
  go_loopw [3, 7] (fun vt vi wr => ∃ k : Nat, k ≤ 8 ∧ vi = .int .i64 k ∧ Hid (Own wr W.heap.size vt (risingTo f k)) ∧ Hid (Below W.heap.size W wr)) (fun _ vi _ => 8 - (intOf vi).toNat)
  case atStart => exact ⟨0, Nat.zero_le _, rfl, own_nil _ _, by show Below _ _ _; go_grown⟩
  case round =>
    obtain ⟨k, hk, rfl, HO, HB⟩ := hrel
    have hsz := HB.out.size
    have HL : Hid ((risingTo f k).length ≤ k) := rising_len f k
    by_cases hlt : k < 8
    · obtain rfl | rfl | rfl | rfl | rfl | rfl | rfl | rfl : k = 0 ∨ k = 1 ∨ k = 2 ∨ k = 3 ∨ k = 4 ∨ k = 5 ∨ k = 6 ∨ k = 7 := by omega
      · rw [show ((0 : Nat) : Int) = (0 : Int) from rfl]
        have qx := idx0
        cases hf : f 0
        · have HE : Hid (risingTo f 1 = risingTo f 0) := ris_no hf
          go_wp2
          go_roundw
          case rel => exact ⟨1, by omega, by go_num, by rw [HE.out]; exact HO.out, HB⟩
          case measure => simp [intOf]
        · have HE : Hid (risingTo f 1 = risingTo f 0 ++ [(0 : Int)]) := ris_yes hf
          go_wp2_with (first
            | (at_builtin; refine wpList_append_own _ rfl _ _ 24 rfl W.heap.size 3 i0 (.int .i64 0) 1 8 Try.underlying24 hi hz0 hz1 hz2 rfl (by decide) _ _ _ rfl (World.ownsRow.alloc HO.out _) ⟨wr.heap.size, 0, none⟩ 1 1 [.int .i64 0] rfl rfl (new_one wr 0 _) (one_of 0) (by have := HL.out; unfold maxLen; omega) (by have := HL.out; omega) (by simp; omega) ?_)
            | go_in)
          intro v' w1 hown' hgrow _
          obtain ⟨q0, q1, q2⟩ := Own.snoc HO.out hsz HB.out hown' hgrow
          have Q0 : Hid (Own w1 W.heap.size v' (risingTo f 0 ++ [(0 : Int)])) := q0
          have Q1 : Hid (Below W.heap.size W w1) := q1
          clear hown' hgrow q0 q1 q2
          go_wp2
          go_roundw
          case rel => exact ⟨1, by omega, by go_num, by rw [HE.out]; exact Q0, Q1⟩
          case measure => simp [intOf]
      · rw [show ((1 : Nat) : Int) = (1 : Int) from rfl]
        have qx := idx1
        cases hf : f 1
        · have HE : Hid (risingTo f 2 = risingTo f 1) := ris_no hf
          go_wp2
          go_roundw
          case rel => exact ⟨2, by omega, by go_num, by rw [HE.out]; exact HO.out, HB⟩
          case measure => simp [intOf]
        · have HE : Hid (risingTo f 2 = risingTo f 1 ++ [(1 : Int)]) := ris_yes hf
          go_wp2_with (first
            | (at_builtin; refine wpList_append_own _ rfl _ _ 24 rfl W.heap.size 3 i0 (.int .i64 0) 1 8 Try.underlying24 hi hz0 hz1 hz2 rfl (by decide) _ _ _ rfl (World.ownsRow.alloc HO.out _) ⟨wr.heap.size, 0, none⟩ 1 1 [.int .i64 1] rfl rfl (new_one wr 1 _) (one_of 1) (by have := HL.out; unfold maxLen; omega) (by have := HL.out; omega) (by simp; omega) ?_)
            | go_in)
          intro v' w1 hown' hgrow _
          obtain ⟨q0, q1, q2⟩ := Own.snoc HO.out hsz HB.out hown' hgrow
          have Q0 : Hid (Own w1 W.heap.size v' (risingTo f 1 ++ [(1 : Int)])) := q0
          have Q1 : Hid (Below W.heap.size W w1) := q1
          clear hown' hgrow q0 q1 q2
          go_wp2
          go_roundw
          case rel => exact ⟨2, by omega, by go_num, by rw [HE.out]; exact Q0, Q1⟩
          case measure => simp [intOf]
      · rw [show ((2 : Nat) : Int) = (2 : Int) from rfl]
        have qx := idx2
        cases hf : f 2
        · have HE : Hid (risingTo f 3 = risingTo f 2) := ris_no hf
          go_wp2
          go_roundw
          case rel => exact ⟨3, by omega, by go_num, by rw [HE.out]; exact HO.out, HB⟩
          case measure => simp [intOf]
        · have HE : Hid (risingTo f 3 = risingTo f 2 ++ [(2 : Int)]) := ris_yes hf
          go_wp2_with (first
            | (at_builtin; refine wpList_append_own _ rfl _ _ 24 rfl W.heap.size 3 i0 (.int .i64 0) 1 8 Try.underlying24 hi hz0 hz1 hz2 rfl (by decide) _ _ _ rfl (World.ownsRow.alloc HO.out _) ⟨wr.heap.size, 0, none⟩ 1 1 [.int .i64 2] rfl rfl (new_one wr 2 _) (one_of 2) (by have := HL.out; unfold maxLen; omega) (by have := HL.out; omega) (by simp; omega) ?_)
            | go_in)
          intro v' w1 hown' hgrow _
          obtain ⟨q0, q1, q2⟩ := Own.snoc HO.out hsz HB.out hown' hgrow
          have Q0 : Hid (Own w1 W.heap.size v' (risingTo f 2 ++ [(2 : Int)])) := q0
          have Q1 : Hid (Below W.heap.size W w1) := q1
          clear hown' hgrow q0 q1 q2
          go_wp2
          go_roundw
          case rel => exact ⟨3, by omega, by go_num, by rw [HE.out]; exact Q0, Q1⟩
          case measure => simp [intOf]
      · rw [show ((3 : Nat) : Int) = (3 : Int) from rfl]
        have qx := idx3
        cases hf : f 3
        · have HE : Hid (risingTo f 4 = risingTo f 3) := ris_no hf
          go_wp2
          go_roundw
          case rel => exact ⟨4, by omega, by go_num, by rw [HE.out]; exact HO.out, HB⟩
          case measure => simp [intOf]
        · have HE : Hid (risingTo f 4 = risingTo f 3 ++ [(3 : Int)]) := ris_yes hf
          go_wp2_with (first
            | (at_builtin; refine wpList_append_own _ rfl _ _ 24 rfl W.heap.size 3 i0 (.int .i64 0) 1 8 Try.underlying24 hi hz0 hz1 hz2 rfl (by decide) _ _ _ rfl (World.ownsRow.alloc HO.out _) ⟨wr.heap.size, 0, none⟩ 1 1 [.int .i64 3] rfl rfl (new_one wr 3 _) (one_of 3) (by have := HL.out; unfold maxLen; omega) (by have := HL.out; omega) (by simp; omega) ?_)
            | go_in)
          intro v' w1 hown' hgrow _
          obtain ⟨q0, q1, q2⟩ := Own.snoc HO.out hsz HB.out hown' hgrow
          have Q0 : Hid (Own w1 W.heap.size v' (risingTo f 3 ++ [(3 : Int)])) := q0
          have Q1 : Hid (Below W.heap.size W w1) := q1
          clear hown' hgrow q0 q1 q2
          go_wp2
          go_roundw
          case rel => exact ⟨4, by omega, by go_num, by rw [HE.out]; exact Q0, Q1⟩
          case measure => simp [intOf]
      · rw [show ((4 : Nat) : Int) = (4 : Int) from rfl]
        have qx := idx4
        cases hf : f 4
        · have HE : Hid (risingTo f 5 = risingTo f 4) := ris_no hf
          go_wp2
          go_roundw
          case rel => exact ⟨5, by omega, by go_num, by rw [HE.out]; exact HO.out, HB⟩
          case measure => simp [intOf]
        · have HE : Hid (risingTo f 5 = risingTo f 4 ++ [(4 : Int)]) := ris_yes hf
          go_wp2_with (first
            | (at_builtin; refine wpList_append_own _ rfl _ _ 24 rfl W.heap.size 3 i0 (.int .i64 0) 1 8 Try.underlying24 hi hz0 hz1 hz2 rfl (by decide) _ _ _ rfl (World.ownsRow.alloc HO.out _) ⟨wr.heap.size, 0, none⟩ 1 1 [.int .i64 4] rfl rfl (new_one wr 4 _) (one_of 4) (by have := HL.out; unfold maxLen; omega) (by have := HL.out; omega) (by simp; omega) ?_)
            | go_in)
          intro v' w1 hown' hgrow _
          obtain ⟨q0, q1, q2⟩ := Own.snoc HO.out hsz HB.out hown' hgrow
          have Q0 : Hid (Own w1 W.heap.size v' (risingTo f 4 ++ [(4 : Int)])) := q0
          have Q1 : Hid (Below W.heap.size W w1) := q1
          clear hown' hgrow q0 q1 q2
          go_wp2
          go_roundw
          case rel => exact ⟨5, by omega, by go_num, by rw [HE.out]; exact Q0, Q1⟩
          case measure => simp [intOf]
      · rw [show ((5 : Nat) : Int) = (5 : Int) from rfl]
        have qx := idx5
        cases hf : f 5
        · have HE : Hid (risingTo f 6 = risingTo f 5) := ris_no hf
          go_wp2
          go_roundw
          case rel => exact ⟨6, by omega, by go_num, by rw [HE.out]; exact HO.out, HB⟩
          case measure => simp [intOf]
        · have HE : Hid (risingTo f 6 = risingTo f 5 ++ [(5 : Int)]) := ris_yes hf
          go_wp2_with (first
            | (at_builtin; refine wpList_append_own _ rfl _ _ 24 rfl W.heap.size 3 i0 (.int .i64 0) 1 8 Try.underlying24 hi hz0 hz1 hz2 rfl (by decide) _ _ _ rfl (World.ownsRow.alloc HO.out _) ⟨wr.heap.size, 0, none⟩ 1 1 [.int .i64 5] rfl rfl (new_one wr 5 _) (one_of 5) (by have := HL.out; unfold maxLen; omega) (by have := HL.out; omega) (by simp; omega) ?_)
            | go_in)
          intro v' w1 hown' hgrow _
          obtain ⟨q0, q1, q2⟩ := Own.snoc HO.out hsz HB.out hown' hgrow
          have Q0 : Hid (Own w1 W.heap.size v' (risingTo f 5 ++ [(5 : Int)])) := q0
          have Q1 : Hid (Below W.heap.size W w1) := q1
          clear hown' hgrow q0 q1 q2
          go_wp2
          go_roundw
          case rel => exact ⟨6, by omega, by go_num, by rw [HE.out]; exact Q0, Q1⟩
          case measure => simp [intOf]
      · rw [show ((6 : Nat) : Int) = (6 : Int) from rfl]
        have qx := idx6
        cases hf : f 6
        · have HE : Hid (risingTo f 7 = risingTo f 6) := ris_no hf
          go_wp2
          go_roundw
          case rel => exact ⟨7, by omega, by go_num, by rw [HE.out]; exact HO.out, HB⟩
          case measure => simp [intOf]
        · have HE : Hid (risingTo f 7 = risingTo f 6 ++ [(6 : Int)]) := ris_yes hf
          go_wp2_with (first
            | (at_builtin; refine wpList_append_own _ rfl _ _ 24 rfl W.heap.size 3 i0 (.int .i64 0) 1 8 Try.underlying24 hi hz0 hz1 hz2 rfl (by decide) _ _ _ rfl (World.ownsRow.alloc HO.out _) ⟨wr.heap.size, 0, none⟩ 1 1 [.int .i64 6] rfl rfl (new_one wr 6 _) (one_of 6) (by have := HL.out; unfold maxLen; omega) (by have := HL.out; omega) (by simp; omega) ?_)
            | go_in)
          intro v' w1 hown' hgrow _
          obtain ⟨q0, q1, q2⟩ := Own.snoc HO.out hsz HB.out hown' hgrow
          have Q0 : Hid (Own w1 W.heap.size v' (risingTo f 6 ++ [(6 : Int)])) := q0
          have Q1 : Hid (Below W.heap.size W w1) := q1
          clear hown' hgrow q0 q1 q2
          go_wp2
          go_roundw
          case rel => exact ⟨7, by omega, by go_num, by rw [HE.out]; exact Q0, Q1⟩
          case measure => simp [intOf]
      · rw [show ((7 : Nat) : Int) = (7 : Int) from rfl]
        have qx := idx7
        cases hf : f 7
        · have HE : Hid (risingTo f 8 = risingTo f 7) := ris_no hf
          go_wp2
          go_roundw
          case rel => exact ⟨8, by omega, by go_num, by rw [HE.out]; exact HO.out, HB⟩
          case measure => simp [intOf]
        · have HE : Hid (risingTo f 8 = risingTo f 7 ++ [(7 : Int)]) := ris_yes hf
          go_wp2_with (first
            | (at_builtin; refine wpList_append_own _ rfl _ _ 24 rfl W.heap.size 3 i0 (.int .i64 0) 1 8 Try.underlying24 hi hz0 hz1 hz2 rfl (by decide) _ _ _ rfl (World.ownsRow.alloc HO.out _) ⟨wr.heap.size, 0, none⟩ 1 1 [.int .i64 7] rfl rfl (new_one wr 7 _) (one_of 7) (by have := HL.out; unfold maxLen; omega) (by have := HL.out; omega) (by simp; omega) ?_)
            | go_in)
          intro v' w1 hown' hgrow _
          obtain ⟨q0, q1, q2⟩ := Own.snoc HO.out hsz HB.out hown' hgrow
          have Q0 : Hid (Own w1 W.heap.size v' (risingTo f 7 ++ [(7 : Int)])) := q0
          have Q1 : Hid (Below W.heap.size W w1) := q1
          clear hown' hgrow q0 q1 q2
          go_wp2
          go_roundw
          case rel => exact ⟨8, by omega, by go_num, by rw [HE.out]; exact Q0, Q1⟩
          case measure => simp [intOf]
    · have HE : Hid (k = 8) := by show k = 8; omega
      go_wp2
      go_ret
      rw [HE.out] at HO
      exact ⟨_, rfl, HO.out, HB.out⟩
/-- What NamesSet and NamesNeeded answer. -/
def NamesTold (c : Bool) (ns : List Int) (W : World) (e : Ending) (W' : World) : Prop :=
  (c = true ∧ (∃ a cap, e = .returned (.tuple #[.slice a ns.length cap, .bool true]) ∧ Mine W' W.heap.size a ns) ∧ Below W.heap.size W W') ∨ (c = false ∧ e = .returned (.tuple #[.slice none 0 0, .bool false]) ∧ Below W.heap.size W W')
theorem marked_new (W : World) : Marked (W.alloc (.cells #[.bool false, .bool false, .bool false, .bool false, .bool false, .bool false, .bool false, .bool false] 85)) W.heap.size (fun _ => false) :=
  World.rowIs_alloc W _ _ _ (fun i hi => by
    match i, hi with
    | 0, _ => rfl
    | 1, _ => rfl
    | 2, _ => rfl
    | 3, _ => rfl
    | 4, _ => rfl
    | 5, _ => rfl
    | 6, _ => rfl
    | 7, _ => rfl
    | i + 8, h => simp at h; omega)
theorem mine_down {w : World} {B B' : Nat} {a : Option Addr} {zs : List Int} (h : Mine w B a zs) (hB : B' ≤ B) : Mine w B' a zs := by
  rcases h with h | ⟨b, off, e, h0, r⟩
  · exact Or.inl h
  · exact Or.inr ⟨b, off, e, Nat.le_trans hB h0, r⟩
end Go.Proofs.Ytldmeffhbabanaa.walks
