/-
  What TagSmall, UntagSmall, IsSmall, TagAddr and UntagAddr answer, of the program and of the specification, at every int.
-/
import Derived.Test.YtighdafgkkenpaaDoorProg
import Derived.Test.YtighdafgkkenpaaDoorMath
import Derived.WalkKit
namespace Go.Proofs.YtighdafgkkenpaaDoor.tags
open Go.RowKit Go.Proofs.YtighdafgkkenpaaDoor.math

theorem spec_untagSmall (w : Int) (W : World) :
    Calls Tryd.prog 11 #[.int .i64 w] W fun e W' => e = .returned (.tuple #[.int .i64 (unt w), .bool (smallB w)]) ∧ W' = W := by
  by_cases c0_w : w < 0
  · have d0_w : decide (0 ≤ w) = false := decide_eq_false (by omega)
    have s_w : smallB w = false := smallB_lt c0_w
    rw [unt_no s_w, s_w]
    clear s_w
    go_enter Tryd.func11, Tryd.ntmps11
    go_wp2
    go_ret2
    exact ⟨rfl, rfl⟩
  by_cases c1_w : 65535 < w
  · have d1_w : decide (w ≤ 65535) = false := decide_eq_false (by omega)
    have s_w : smallB w = false := smallB_gt c1_w
    rw [unt_no s_w, s_w]
    clear s_w
    go_enter Tryd.func11, Tryd.ntmps11
    go_wp2
    go_ret2
    exact ⟨rfl, rfl⟩
  have b_w := and_one w
  by_cases c2_w : w % 2 = 0
  · have s_w : smallB w = false := smallB_even c2_w
    rw [c2_w] at b_w
    rw [unt_no s_w, s_w]
    clear s_w
    go_enter Tryd.func11, Tryd.ntmps11
    go_wp2
    go_ret2
    exact ⟨rfl, rfl⟩
  have c3_w : w % 2 = 1 := by omega
  have s_w : smallB w = true := smallB_mk (by omega) (by omega) c3_w
  rw [c3_w] at b_w
  have t_w := and_top w (by omega) (by omega)
  by_cases c4_w : 32768 ≤ w
  · have g_w : w / 32768 = 1 := by omega
    rw [g_w] at t_w
    have u_w : sgn w = w - 65536 := sgn_hi c4_w
    clear g_w
    rw [unt_yes s_w, u_w, s_w]
    clear s_w u_w
    go_enter Tryd.func11, Tryd.ntmps11
    go_wp2
    go_ret2
    exact ⟨rfl, rfl⟩
  · have g_w : w / 32768 = 0 := by omega
    rw [g_w] at t_w
    have u_w : sgn w = w := sgn_lo (by omega)
    clear g_w
    rw [unt_yes s_w, u_w, s_w]
    clear s_w u_w
    go_enter Tryd.func11, Tryd.ntmps11
    go_wp2
    go_ret2
    exact ⟨rfl, rfl⟩

theorem spec_tagSmall (w : Int) (W : World) :
    Calls Tryd.prog 6 #[.int .i64 w] W fun e W' => e = .returned (.tuple #[.int .i64 (tagW w), .bool (inB w)]) ∧ W' = W := by
  by_cases c0 : w < -16384
  · have d0 : decide (-16384 ≤ w) = false := decide_eq_false (by omega)
    rw [tagW_no (inB_lt c0), inB_lt c0]
    go_enter Tryd.func6, Tryd.ntmps6
    go_wp2
    go_ret2
    exact ⟨rfl, rfl⟩
  by_cases c1 : 16383 < w
  · have d1 : decide (w ≤ 16383) = false := decide_eq_false (by omega)
    rw [tagW_no (inB_gt c1), inB_gt c1]
    have l0 : -16384 ≤ w := by omega
    clear c0
    go_enter Tryd.func6, Tryd.ntmps6
    go_wp2
    go_ret2
    exact ⟨rfl, rfl⟩
  have l0 : -16384 ≤ w := by omega
  have l1 : w ≤ 16383 := by omega
  have d0 : decide (-16384 ≤ w) = true := decide_eq_true l0
  have d1 : decide (w ≤ 16383) = true := decide_eq_true l1
  rw [tagW_yes (inB_mk l0 l1), inB_mk l0 l1]
  have m := and_word (2 * w + 1)
  clear c0 c1
  go_enter Tryd.func6, Tryd.ntmps6
  go_wp2
  go_ret2
  exact ⟨rfl, rfl⟩

theorem spec_tagAddr (w : Int) (W : World) :
    Calls Tryd.prog 19 #[.int .i64 w] W fun e W' => e = .returned (.tuple #[.int .i64 (atW w), .bool (atB w)]) ∧ W' = W := by
  by_cases c0 : w < 0
  · have d0 : decide (0 ≤ w) = false := decide_eq_false (by omega)
    rw [atW_no (atB_lt c0), atB_lt c0]
    go_enter Tryd.func19, Tryd.ntmps19
    go_wp2
    go_ret2
    exact ⟨rfl, rfl⟩
  by_cases c1 : 32767 < w
  · have d1 : decide (w ≤ 32767) = false := decide_eq_false (by omega)
    rw [atW_no (atB_gt c1), atB_gt c1]
    have l0 : 0 ≤ w := by omega
    clear c0
    go_enter Tryd.func19, Tryd.ntmps19
    go_wp2
    go_ret2
    exact ⟨rfl, rfl⟩
  have l0 : 0 ≤ w := by omega
  have l1 : w ≤ 32767 := by omega
  rw [atW_yes (atB_mk l0 l1), atB_mk l0 l1]
  clear c0 c1
  go_enter Tryd.func19, Tryd.ntmps19
  go_wp2
  go_ret2
  exact ⟨rfl, rfl⟩

theorem spec_untagAddr (w : Int) (W : World) :
    Calls Tryd.prog 12 #[.int .i64 w] W fun e W' => e = .returned (.tuple #[.int .i64 (adr w), .bool (addrB w)]) ∧ W' = W := by
  by_cases c0 : w < 0
  · have d0 : decide (0 ≤ w) = false := decide_eq_false (by omega)
    rw [adr_no (addrB_lt c0), addrB_lt c0]
    go_enter Tryd.func12, Tryd.ntmps12
    go_wp2
    go_ret2
    exact ⟨rfl, rfl⟩
  by_cases c1 : 65535 < w
  · have d1 : decide (w ≤ 65535) = false := decide_eq_false (by omega)
    rw [adr_no (addrB_gt c1), addrB_gt c1]
    have l0 : 0 ≤ w := by omega
    clear c0
    go_enter Tryd.func12, Tryd.ntmps12
    go_wp2
    go_ret2
    exact ⟨rfl, rfl⟩
  have l0 : 0 ≤ w := by omega
  have l1 : w ≤ 65535 := by omega
  have m := and_one w
  clear c0 c1
  by_cases c2 : w % 2 = 0
  · rw [adr_yes (addrB_mk l0 l1 c2), addrB_mk l0 l1 c2]
    rw [c2] at m
    clear c2
    go_enter Tryd.func12, Tryd.ntmps12
    go_wp2
    go_ret2
    exact ⟨rfl, rfl⟩
  · have c3 : w % 2 = 1 := by omega
    rw [adr_no (addrB_odd c3), addrB_odd c3]
    rw [c3] at m
    clear c2 c3
    go_enter Tryd.func12, Tryd.ntmps12
    go_wp2
    go_ret2
    exact ⟨rfl, rfl⟩

theorem impl_isSmall (w : Int) (W : World) :
    Calls Tryd.prog 9 #[.int .i64 w] W fun e W' => e = .returned (.bool (smallB w)) ∧ W' = W := by
  by_cases c0_w : w < 0
  · have d0_w : decide (0 ≤ w) = false := decide_eq_false (by omega)
    have s_w : smallB w = false := smallB_lt c0_w
    rw [s_w]
    clear s_w
    go_enter Tryd.func9, Tryd.ntmps9
    go_wp2
    go_ret
    exact ⟨rfl, rfl⟩
  by_cases c1_w : 65535 < w
  · have d1_w : decide (w ≤ 65535) = false := decide_eq_false (by omega)
    have s_w : smallB w = false := smallB_gt c1_w
    rw [s_w]
    clear s_w
    go_enter Tryd.func9, Tryd.ntmps9
    go_wp2
    go_ret
    exact ⟨rfl, rfl⟩
  have b_w := and_one w
  by_cases c2_w : w % 2 = 0
  · have s_w : smallB w = false := smallB_even c2_w
    rw [c2_w] at b_w
    rw [s_w]
    clear s_w
    go_enter Tryd.func9, Tryd.ntmps9
    go_wp2
    go_ret
    exact ⟨rfl, rfl⟩
  have c3_w : w % 2 = 1 := by omega
  have s_w : smallB w = true := smallB_mk (by omega) (by omega) c3_w
  rw [c3_w] at b_w
  have t_w := and_top w (by omega) (by omega)
  by_cases c4_w : 32768 ≤ w
  · have g_w : w / 32768 = 1 := by omega
    rw [g_w] at t_w
    have u_w : sgn w = w - 65536 := sgn_hi c4_w
    clear g_w
    rw [s_w]
    clear s_w u_w
    go_enter Tryd.func9, Tryd.ntmps9
    go_wp2
    go_ret
    exact ⟨rfl, rfl⟩
  · have g_w : w / 32768 = 0 := by omega
    rw [g_w] at t_w
    have u_w : sgn w = w := sgn_lo (by omega)
    clear g_w
    rw [s_w]
    clear s_w u_w
    go_enter Tryd.func9, Tryd.ntmps9
    go_wp2
    go_ret
    exact ⟨rfl, rfl⟩

theorem impl_untagSmall (w : Int) (W : World) :
    Calls Tryd.prog 7 #[.int .i64 w] W fun e W' => e = .returned (.tuple #[.int .i64 (unt w), .bool (smallB w)]) ∧ W' = W := by
  by_cases c0_w : w < 0
  · have d0_w : decide (0 ≤ w) = false := decide_eq_false (by omega)
    have s_w : smallB w = false := smallB_lt c0_w
    rw [unt_no s_w, s_w]
    clear s_w
    go_enter Tryd.func7, Tryd.ntmps7
    go_wp2
    go_ret2
    exact ⟨rfl, rfl⟩
  by_cases c1_w : 65535 < w
  · have d1_w : decide (w ≤ 65535) = false := decide_eq_false (by omega)
    have s_w : smallB w = false := smallB_gt c1_w
    rw [unt_no s_w, s_w]
    clear s_w
    go_enter Tryd.func7, Tryd.ntmps7
    go_wp2
    go_ret2
    exact ⟨rfl, rfl⟩
  have b_w := and_one w
  by_cases c2_w : w % 2 = 0
  · have s_w : smallB w = false := smallB_even c2_w
    rw [c2_w] at b_w
    rw [unt_no s_w, s_w]
    clear s_w
    go_enter Tryd.func7, Tryd.ntmps7
    go_wp2
    go_ret2
    exact ⟨rfl, rfl⟩
  have c3_w : w % 2 = 1 := by omega
  have s_w : smallB w = true := smallB_mk (by omega) (by omega) c3_w
  rw [c3_w] at b_w
  have t_w := and_top w (by omega) (by omega)
  by_cases c4_w : 32768 ≤ w
  · have g_w : w / 32768 = 1 := by omega
    rw [g_w] at t_w
    have u_w : sgn w = w - 65536 := sgn_hi c4_w
    clear g_w
    rw [unt_yes s_w, u_w, s_w]
    clear s_w u_w
    rw [show w - 65536 = w - 65535 - 1 from by omega]
    go_enter Tryd.func7, Tryd.ntmps7
    go_wp2
    go_ret2
    exact ⟨rfl, rfl⟩
  · have g_w : w / 32768 = 0 := by omega
    rw [g_w] at t_w
    have u_w : sgn w = w := sgn_lo (by omega)
    clear g_w
    rw [unt_yes s_w, u_w, s_w]
    clear s_w u_w
    go_enter Tryd.func7, Tryd.ntmps7
    go_wp2
    go_ret2
    exact ⟨rfl, rfl⟩

theorem impl_tagSmall (w : Int) (W : World) :
    Calls Tryd.prog 5 #[.int .i64 w] W fun e W' => e = .returned (.tuple #[.int .i64 (tagW w), .bool (inB w)]) ∧ W' = W := by
  by_cases c0 : w < -16384
  · have d0 : decide (-16384 ≤ w) = false := decide_eq_false (by omega)
    rw [tagW_no (inB_lt c0), inB_lt c0]
    go_enter Tryd.func5, Tryd.ntmps5
    go_wp2
    go_ret2
    exact ⟨rfl, rfl⟩
  by_cases c1 : 16383 < w
  · have d1 : decide (w ≤ 16383) = false := decide_eq_false (by omega)
    rw [tagW_no (inB_gt c1), inB_gt c1]
    have l0 : -16384 ≤ w := by omega
    clear c0
    go_enter Tryd.func5, Tryd.ntmps5
    go_wp2
    go_ret2
    exact ⟨rfl, rfl⟩
  have l0 : -16384 ≤ w := by omega
  have l1 : w ≤ 16383 := by omega
  have d0 : decide (-16384 ≤ w) = true := decide_eq_true l0
  have d1 : decide (w ≤ 16383) = true := decide_eq_true l1
  rw [tagW_yes (inB_mk l0 l1), inB_mk l0 l1]
  have m := and_word (2 * w + 1)
  clear c0 c1
  go_enter Tryd.func5, Tryd.ntmps5
  go_wp2
  go_ret2
  exact ⟨rfl, rfl⟩

theorem impl_tagAddr (w : Int) (W : World) :
    Calls Tryd.prog 13 #[.int .i64 w] W fun e W' => e = .returned (.tuple #[.int .i64 (atW w), .bool (atB w)]) ∧ W' = W := by
  by_cases c0 : w < 0
  · have d0 : decide (0 ≤ w) = false := decide_eq_false (by omega)
    rw [atW_no (atB_lt c0), atB_lt c0]
    go_enter Tryd.func13, Tryd.ntmps13
    go_wp2
    go_ret2
    exact ⟨rfl, rfl⟩
  by_cases c1 : 32767 < w
  · have d1 : decide (w ≤ 32767) = false := decide_eq_false (by omega)
    rw [atW_no (atB_gt c1), atB_gt c1]
    have l0 : 0 ≤ w := by omega
    clear c0
    go_enter Tryd.func13, Tryd.ntmps13
    go_wp2
    go_ret2
    exact ⟨rfl, rfl⟩
  have l0 : 0 ≤ w := by omega
  have l1 : w ≤ 32767 := by omega
  rw [atW_yes (atB_mk l0 l1), atB_mk l0 l1]
  clear c0 c1
  go_enter Tryd.func13, Tryd.ntmps13
  go_wp2
  go_ret2
  exact ⟨rfl, rfl⟩

theorem impl_untagAddr (w : Int) (W : World) :
    Calls Tryd.prog 8 #[.int .i64 w] W fun e W' => e = .returned (.tuple #[.int .i64 (adr w), .bool (addrB w)]) ∧ W' = W := by
  by_cases c0 : w < 0
  · have d0 : decide (0 ≤ w) = false := decide_eq_false (by omega)
    rw [adr_no (addrB_lt c0), addrB_lt c0]
    go_enter Tryd.func8, Tryd.ntmps8
    go_wp2
    go_ret2
    exact ⟨rfl, rfl⟩
  by_cases c1 : 65535 < w
  · have d1 : decide (w ≤ 65535) = false := decide_eq_false (by omega)
    rw [adr_no (addrB_gt c1), addrB_gt c1]
    have l0 : 0 ≤ w := by omega
    clear c0
    go_enter Tryd.func8, Tryd.ntmps8
    go_wp2
    go_ret2
    exact ⟨rfl, rfl⟩
  have l0 : 0 ≤ w := by omega
  have l1 : w ≤ 65535 := by omega
  have m := and_one w
  clear c0 c1
  by_cases c2 : w % 2 = 0
  · rw [adr_yes (addrB_mk l0 l1 c2), addrB_mk l0 l1 c2]
    rw [c2] at m
    clear c2
    go_enter Tryd.func8, Tryd.ntmps8
    go_wp2
    go_ret2
    exact ⟨rfl, rfl⟩
  · have c3 : w % 2 = 1 := by omega
    rw [adr_no (addrB_odd c3), addrB_odd c3]
    rw [c3] at m
    clear c2 c3
    go_enter Tryd.func8, Tryd.ntmps8
    go_wp2
    go_ret2
    exact ⟨rfl, rfl⟩

end Go.Proofs.YtighdafgkkenpaaDoor.tags
