/-
  What the program's goodStep answers at every five numbers: the step behind its interface, and whether it is good; it makes new memory alone.
-/
import Derived.Test.YtemlhhogcdgofaaStepImpl
import Derived.Test.YtemlhhogcdgofaaStepC
import Derived.Test.YtemlhhogcdgofaaStepY
import Derived.Test.YtemlhhogcdgofaaStepT
import Derived.Test.YtemlhhogcdgofaaStepP
import Derived.Deep.RegionHeld3
namespace Go.Proofs.Ytemlhhogcdgofaa.walks
open Go.RowKit Go.Proofs.Ytemlhhogcdgofaa.math Go.Proofs.Ytemlhhogcdgofaa.ints
set_option linter.unusedVariables false

set_option maxHeartbeats 2000000 in
theorem good_no (o d a b n : Int) (W : World) (h : inR o 1 8 = false) : Calls Try.prog 50 #[.agg #[.int .i64 o, .int .i64 d, .int .i64 a, .int .i64 b, .int .i64 n]] W fun e W' => e = .returned (.tuple #[.nilIface, .bool false]) ∧ Below W.heap.size W W' := by
  go_enter Try.func50, Try.ntmps50
  go_wp2_with (go_at_call 55; refine (impl_stepOf_no _ _ _ _ _ _ h).mono ?_; rintro e w' ⟨rfl, hw⟩; obtain ⟨⟨c0, c1, c2, c3, c4⟩, hl, hB⟩ := box_new _ _ _ _ _ _ _ _ _ hw; clear hw)
  first | go_region | fail
  all_goals go_wp2
  all_goals go_ret2
  all_goals exact ⟨rfl, hB.drew⟩
theorem eq0_no {x : Int} (h : x ≠ 0) : (x == 0) = false := by simpa using h
theorem stepX_yes {o d a b n : Int} (h0 : 1 ≤ o) (h1 : o ≤ 8) : stepX o d a b n = stepV o d a b n := by
  unfold stepX
  rw [inR_mk h0 h1]
  rfl
theorem impl_good (o d a b n : Int) (W : World) : Calls Try.prog 50 #[.agg #[.int .i64 o, .int .i64 d, .int .i64 a, .int .i64 b, .int .i64 n]] W fun e W' => e = .returned (.tuple #[stepX o d a b n, .bool (goodI o d a b n)]) ∧ Below W.heap.size W W' := by
  cases hr : inR o 1 8
  · have h' : o < 1 ∨ 8 < o := by
      rcases Int.lt_or_le o 1 with k | k
      · exact Or.inl k
      · rcases Int.lt_or_le 8 o with k2 | k2
        · exact Or.inr k2
        · rw [inR_mk k k2] at hr; cases hr
    rw [goodI_o o d a b n (by omega) (by omega) (by omega)]
    have h37 : inR o 3 7 = false := by
      rcases h' with k | k
      · exact inR_lt (by omega)
      · exact inR_gt (by omega)
    rw [h37]
    unfold stepX
    rw [hr]
    exact good_no o d a b n W hr
  obtain ⟨h0, h1⟩ := inR_out hr
  rw [stepX_yes h0 h1]
  by_cases e1 : o = 1
  · subst e1
    rw [goodI_1]
    by_cases ha : a = 0
    · subst ha
      by_cases hb : b = 0
      · subst hb
        cases hd : inR d 0 7
        · exact good_c_2 d n W hd
        · cases hn : inR n 0 65535
          · exact good_c_3 d n W hd hn
          · exact good_c_4 d n W hd hn
      · rw [eq0_no hb]
        simp only [Bool.and_false, Bool.false_and]
        exact good_c_1 d b n W hb
    · rw [eq0_no ha]
      simp only [Bool.and_false, Bool.false_and]
      exact good_c_0 d a b n W ha
  by_cases e2 : o = 2
  · subst e2
    rw [goodI_2]
    by_cases hb : b = 0
    · subst hb
      by_cases hn : n = 0
      · subst hn
        cases hd : inR d 0 7
        · exact good_y_2 d a W hd
        · cases ha : inR a 0 7
          · exact good_y_3 d a W hd ha
          · exact good_y_4 d a W hd ha
      · rw [eq0_no hn]
        simp only [Bool.and_false]
        exact good_y_1 d a n W hn
    · rw [eq0_no hb]
      simp only [Bool.and_false, Bool.false_and]
      exact good_y_0 d a b n W hb
  by_cases e8 : o = 8
  · subst e8
    rw [goodI_8]
    by_cases hd : d = 0
    · subst hd
      by_cases hb : b = 0
      · subst hb
        by_cases hn : n = 0
        · subst hn
          cases ha : inR a 0 7
          · exact good_t_3 a W ha
          · exact good_t_4 a W ha
        · rw [eq0_no hn]
          simp only [Bool.and_false]
          exact good_t_2 a n W hn
      · rw [eq0_no hb]
        simp only [Bool.and_false, Bool.false_and]
        exact good_t_1 a b n W hb
    · rw [eq0_no hd]
      simp only [Bool.false_and]
      exact good_t_0 d a b n W hd
  have o3 : 3 ≤ o := by omega
  have o7 : o ≤ 7 := by omega
  rw [goodI_o o d a b n e1 e2 e8, inR_mk o3 o7]
  by_cases hn : n = 0
  · subst hn
    cases hd : inR d 0 7
    · exact good_p_1 o d a b W o3 o7 hd
    · cases ha : inR a 0 7
      · exact good_p_2 o d a b W o3 o7 hd ha
      · cases hb : inR b 0 7
        · exact good_p_3 o d a b W o3 o7 hd ha hb
        · exact good_p_4 o d a b W o3 o7 hd ha hb
  · rw [eq0_no hn]
    simp only [Bool.and_false]
    exact good_p_0 o d a b n W o3 o7 hn
end Go.Proofs.Ytemlhhogcdgofaa.walks
