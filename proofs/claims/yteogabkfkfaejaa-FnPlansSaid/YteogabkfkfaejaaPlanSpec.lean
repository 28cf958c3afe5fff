/-
  What the specification's PlanMul answers, at every int: the row that the digits tell, in new memory.
-/
import Derived.Test.YteogabkfkfaejaaProg
import Derived.Test.YteogabkfkfaejaaMagMath
import Derived.Test.YteogabkfkfaejaaMagGood
import Derived.Test.YteogabkfkfaejaaInts
import Derived.Test.YteogabkfkfaejaaOwnInts
import Derived.Test.YteogabkfkfaejaaPlanDigMath
import Derived.WalkKit
import Derived.WalkSpells
import Derived.Below
import Derived.Handy
namespace Go.Proofs.Yteogabkfkfaejaa.walks
open Go.RowKit Go.Proofs.Yteogabkfkfaejaa.math Go.Proofs.Yteogabkfkfaejaa.ints
set_option linter.unusedVariables false

theorem spec_plan_no (b : Int) (W : World) (h : inR b 0 65535 = false) : Calls Try.prog 27 #[.int .i64 b] W fun e W' => e = .returned (.tuple #[.slice none 0 0, .bool false]) ∧ W' = W := by
  go_enter Try.func27, Try.ntmps27
  go_wp2_with (go_at_call 38; refine (spec_in _ _ _ _).mono ?_; rintro e w' ⟨rfl, rfl⟩)
  go_ret2
  exact ⟨rfl, rfl⟩

set_option maxHeartbeats 2000000 in
theorem spec_plan (b : Int) (W : World) (h0 : 0 ≤ b) (h1 : b ≤ 65535) : Calls Try.prog 27 #[.int .i64 b] W fun e W' => ∃ a cap, e = .returned (.tuple #[.slice a (planTo b 17).length cap, .bool true]) ∧ Mine W' W.heap.size a (planTo b 17) ∧ Below W.heap.size W W' := by
  have hin : inR b 0 65535 = true := inR_mk h0 h1
  obtain ⟨i0, hi, hz0, hz1, hz2⟩ := info_parts row_info
  go_enter Try.func27, Try.ntmps27
  go_wp2_with (go_at_call 38; refine (spec_in _ _ _ _).mono ?_; rintro e w' ⟨rfl, hw⟩; rw [hw]; clear hw w')
  go_loopw [0, 4, 5] (fun vb vo vk wr => ∃ (j : Nat) (x : Int), j ≤ 17 ∧ vb = .int .i64 x ∧ Hid (x = stN b j) ∧ 0 ≤ x ∧ x ≤ 65536 ∧ vk = .int .i64 ((j : Int) + 1) ∧ Hid (Own wr W.heap.size vo (planTo b j)) ∧ Hid (Below W.heap.size W wr) ∧ W.heap.size ≤ wr.heap.size) (fun _ _ vk _ => 20 - (intOf vk).toNat)
  case atStart => exact ⟨0, b, by omega, rfl, rfl, h0, by omega, rfl, own_nil _ _, Below.refl _ _, Nat.le_refl _⟩
  case round =>
    obtain ⟨j, x, hj, rfl, HX, x0, x1, rfl, HO, HB, hsz⟩ := hrel
    by_cases hx : 0 < x
    · have hj' : j ≤ 16 := by
        apply Classical.byContradiction; intro hc
        have := HX.out
        rw [show j = 17 by omega, st_last h0 h1] at this
        omega
      have hl := plan_len b j
      have ha1 := and_one x
      have ha3 := and_three x
      rcases (show x % 2 = 0 ∨ x % 4 = 1 ∨ x % 4 = 3 by omega) with hm | hm | hm
      · have HN : Hid (x / 2 = stN b (j + 1)) := by
          show x / 2 = (stN b j - dg (stN b j)) / 2
          rw [← HX.out, dg_even hm]; omega
        have HP : Hid (planTo b (j + 1) = planTo b j) := plan_even (by rw [← HX.out]; exact dg_even hm)
        rw [hm] at ha1
        clear hm ha3
        go_wp2
        go_roundw
        case rel => exact ⟨j + 1, x / 2, by omega, rfl, HN, by omega, by omega, by go_num, by rw [HP.out]; exact HO, HB, hsz⟩
        case measure => simp [intOf]; omega
      · have HN : Hid ((x - 1) / 2 = stN b (j + 1)) := by
          show (x - 1) / 2 = (stN b j - dg (stN b j)) / 2
          rw [← HX.out, dg_one hm]
        have HP : Hid (planTo b (j + 1) = planTo b j ++ [(j : Int) + 1]) := by
          have := plan_odd (b := b) (k := j) (by rw [← HX.out, dg_one hm]; decide)
          rw [← HX.out, dg_one hm, Int.one_mul] at this
          exact this
        rw [show x % 2 = 1 by omega] at ha1
        rw [hm] at ha3
        clear hm
        go_wp2_with (first
          | (at_builtin; refine wpList_append_own _ rfl _ _ 36 rfl W.heap.size 3 i0 (.int .i64 0) 1 8 Try.underlying36 hi hz0 hz1 hz2 rfl (by decide) _ _ _ rfl (World.ownsRow.alloc HO.out _) ⟨wr.heap.size, 0, none⟩ 1 1 [.int .i64 ((j : Int) + 1)] rfl rfl ?c1 ?c2 ?c3 ?c4 ?c5 ?_)
          | go_in)
        case c1 => exact new_one _ _ _
        case c2 => exact one_of _
        case c3 => unfold maxLen; omega
        case c4 => omega
        case c5 => simp; omega
        · intro v' w1 hown' hgrow _
          obtain ⟨o1, o2, o3⟩ := Own.snoc HO.out hsz HB.out hown' hgrow
          have HO1 : Hid (Own w1 W.heap.size v' (planTo b j ++ [(j : Int) + 1])) := o1
          have HB1 : Hid (Below W.heap.size W w1) := o2
          clear hown' hgrow o1 o2
          go_wp2
          go_roundw
          case rel => exact ⟨j + 1, (x - 1) / 2, by omega, rfl, HN, by omega, by omega, by go_num, by rw [HP.out]; exact HO1, HB1, o3⟩
          case measure => simp [intOf]; omega
      · have HN : Hid ((x + 1) / 2 = stN b (j + 1)) := by
          show (x + 1) / 2 = (stN b j - dg (stN b j)) / 2
          rw [← HX.out, dg_three hm]; omega
        have HP : Hid (planTo b (j + 1) = planTo b j ++ [-((j : Int) + 1)]) := by
          have := plan_odd (b := b) (k := j) (by rw [← HX.out, dg_three hm]; decide)
          rw [← HX.out, dg_three hm, show (-1 : Int) * ((j : Int) + 1) = -((j : Int) + 1) by omega] at this
          exact this
        rw [show x % 2 = 1 by omega] at ha1
        rw [hm] at ha3
        clear hm
        go_wp2_with (first
          | (at_builtin; refine wpList_append_own _ rfl _ _ 36 rfl W.heap.size 3 i0 (.int .i64 0) 1 8 Try.underlying36 hi hz0 hz1 hz2 rfl (by decide) _ _ _ rfl (World.ownsRow.alloc HO.out _) ⟨wr.heap.size, 0, none⟩ 1 1 [.int .i64 (-((j : Int) + 1))] rfl rfl ?c1 ?c2 ?c3 ?c4 ?c5 ?_)
          | go_in)
        case c1 => exact new_one _ _ _
        case c2 => exact one_of _
        case c3 => unfold maxLen; omega
        case c4 => omega
        case c5 => simp; omega
        · intro v' w1 hown' hgrow _
          obtain ⟨o1, o2, o3⟩ := Own.snoc HO.out hsz HB.out hown' hgrow
          have HO1 : Hid (Own w1 W.heap.size v' (planTo b j ++ [-((j : Int) + 1)])) := o1
          have HB1 : Hid (Below W.heap.size W w1) := o2
          clear hown' hgrow o1 o2
          go_wp2
          go_roundw
          case rel => exact ⟨j + 1, (x + 1) / 2, by omega, rfl, HN, by omega, by omega, by go_num, by rw [HP.out]; exact HO1, HB1, o3⟩
          case measure => simp [intOf]; omega
    · have HE : Hid (planTo b j = planTo b 17) := st_end hj (by rw [← HX.out]; omega)
      go_wp2
      go_ret2
      obtain ⟨a, cap, e, hM⟩ := HO.out.mine
      subst e
      rw [HE.out] at hM ⊢
      exact ⟨a, ⟨cap, rfl⟩, hM, HB.out⟩
end Go.Proofs.Yteogabkfkfaejaa.walks
