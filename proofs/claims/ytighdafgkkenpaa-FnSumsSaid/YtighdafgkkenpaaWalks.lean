/-
  What each function of chapter 1 answers, of the program and of the specification, at every int.
-/
import Derived.Test.YtighdafgkkenpaaProg
import Derived.Test.YtighdafgkkenpaaMath
import Derived.WalkKit
namespace Go.Proofs.Ytighdafgkkenpaa.walks
open Go.RowKit Go.Proofs.Ytighdafgkkenpaa.math

theorem spec_untagSmall (w : Int) (W : World) :
    Calls Try.prog 25 #[.int .i64 w] W fun e W' => e = .returned (.tuple #[.int .i64 (unt w), .bool (smallB w)]) ∧ W' = W := by
  by_cases c0_w : w < 0
  · have d0_w : decide (0 ≤ w) = false := decide_eq_false (by omega)
    have s_w : smallB w = false := smallB_lt c0_w
    rw [unt_no s_w, s_w]
    clear s_w
    go_enter Try.func25, Try.ntmps25
    go_wp2
    go_ret2
    exact ⟨rfl, rfl⟩
  by_cases c1_w : 65535 < w
  · have d1_w : decide (w ≤ 65535) = false := decide_eq_false (by omega)
    have s_w : smallB w = false := smallB_gt c1_w
    rw [unt_no s_w, s_w]
    clear s_w
    go_enter Try.func25, Try.ntmps25
    go_wp2
    go_ret2
    exact ⟨rfl, rfl⟩
  have b_w := and_one w
  by_cases c2_w : w % 2 = 0
  · have s_w : smallB w = false := smallB_even c2_w
    rw [c2_w] at b_w
    rw [unt_no s_w, s_w]
    clear s_w
    go_enter Try.func25, Try.ntmps25
    go_wp2
    go_ret2
    exact ⟨rfl, rfl⟩
  have c3_w : w % 2 = 1 := by omega
  have s_w : smallB w = true := smallB_mk (by omega) (by omega) c3_w
  rw [c3_w] at b_w
  have t_w := and_top w (by omega) (by omega)
  by_cases c4_w : 32768 ≤ w
  · have g_w : w / 32768 = 1 := by omega
    rw [g_w] at t_w
    have u_w : sgn w = w - 65536 := sgn_hi c4_w
    clear g_w
    rw [unt_yes s_w, u_w, s_w]
    clear s_w u_w
    go_enter Try.func25, Try.ntmps25
    go_wp2
    go_ret2
    exact ⟨rfl, rfl⟩
  · have g_w : w / 32768 = 0 := by omega
    rw [g_w] at t_w
    have u_w : sgn w = w := sgn_lo (by omega)
    clear g_w
    rw [unt_yes s_w, u_w, s_w]
    clear s_w u_w
    go_enter Try.func25, Try.ntmps25
    go_wp2
    go_ret2
    exact ⟨rfl, rfl⟩

theorem impl_isSmall (w : Int) (W : World) :
    Calls Try.prog 15 #[.int .i64 w] W fun e W' => e = .returned (.bool (smallB w)) ∧ W' = W := by
  by_cases c0_w : w < 0
  · have d0_w : decide (0 ≤ w) = false := decide_eq_false (by omega)
    have s_w : smallB w = false := smallB_lt c0_w
    rw [s_w]
    clear s_w
    go_enter Try.func15, Try.ntmps15
    go_wp2
    go_ret
    exact ⟨rfl, rfl⟩
  by_cases c1_w : 65535 < w
  · have d1_w : decide (w ≤ 65535) = false := decide_eq_false (by omega)
    have s_w : smallB w = false := smallB_gt c1_w
    rw [s_w]
    clear s_w
    go_enter Try.func15, Try.ntmps15
    go_wp2
    go_ret
    exact ⟨rfl, rfl⟩
  have b_w := and_one w
  by_cases c2_w : w % 2 = 0
  · have s_w : smallB w = false := smallB_even c2_w
    rw [c2_w] at b_w
    rw [s_w]
    clear s_w
    go_enter Try.func15, Try.ntmps15
    go_wp2
    go_ret
    exact ⟨rfl, rfl⟩
  have c3_w : w % 2 = 1 := by omega
  have s_w : smallB w = true := smallB_mk (by omega) (by omega) c3_w
  rw [c3_w] at b_w
  have t_w := and_top w (by omega) (by omega)
  by_cases c4_w : 32768 ≤ w
  · have g_w : w / 32768 = 1 := by omega
    rw [g_w] at t_w
    have u_w : sgn w = w - 65536 := sgn_hi c4_w
    clear g_w
    rw [s_w]
    clear s_w
    go_enter Try.func15, Try.ntmps15
    go_wp2
    go_ret
    exact ⟨rfl, rfl⟩
  · have g_w : w / 32768 = 0 := by omega
    rw [g_w] at t_w
    have u_w : sgn w = w := sgn_lo (by omega)
    clear g_w
    rw [s_w]
    clear s_w
    go_enter Try.func15, Try.ntmps15
    go_wp2
    go_ret
    exact ⟨rfl, rfl⟩

theorem spec_tagSmall (w : Int) (W : World) :
    Calls Try.prog 22 #[.int .i64 w] W fun e W' => e = .returned (.tuple #[.int .i64 (tagW w), .bool (inB w)]) ∧ W' = W := by
  by_cases c0 : w < -16384
  · have d0 : decide (-16384 ≤ w) = false := decide_eq_false (by omega)
    rw [tagW_no (inB_lt c0), inB_lt c0]
    go_enter Try.func22, Try.ntmps22
    go_wp2
    go_ret2
    exact ⟨rfl, rfl⟩
  by_cases c1 : 16383 < w
  · have d1 : decide (w ≤ 16383) = false := decide_eq_false (by omega)
    rw [tagW_no (inB_gt c1), inB_gt c1]
    go_enter Try.func22, Try.ntmps22
    go_wp2
    go_ret2
    exact ⟨rfl, rfl⟩
  have l0 : -16384 ≤ w := by omega
  have l1 : w ≤ 16383 := by omega
  have d0 : decide (-16384 ≤ w) = true := decide_eq_true l0
  have d1 : decide (w ≤ 16383) = true := decide_eq_true l1
  rw [tagW_yes (inB_mk l0 l1), inB_mk l0 l1]
  have m := and_word (2 * w + 1)
  clear c0 c1
  go_enter Try.func22, Try.ntmps22
  go_wp2
  go_ret2
  exact ⟨rfl, rfl⟩

theorem spec_tagged (w : Int) (W : World) :
    Calls Try.prog 19 #[.int .i64 w] W fun e W' => e = .returned (.tuple #[.int .i64 (tagW w), .bool (inB w), .bool true]) ∧ W' = W := by
  go_enter Try.func19, Try.ntmps19
  go_wp2_with (go_at_call 22; refine (spec_tagSmall _ _).mono ?_; rintro e w' ⟨rfl, rfl⟩)
  go_ret3
  exact ⟨rfl, rfl⟩

theorem impl_signedWord (w : Int) (h0 : 0 ≤ w) (h1 : w ≤ 65535) (W : World) :
    Calls Try.prog 17 #[.int .i64 w] W fun e W' => e = .returned (.int .i64 (sgn w)) ∧ W' = W := by
  have t := and_top w h0 h1
  by_cases c : 32768 ≤ w
  · have g : w / 32768 = 1 := by omega
    rw [g] at t
    rw [sgn_hi c, show w - 65536 = w - 65535 - 1 from by omega]
    clear g
    go_enter Try.func17, Try.ntmps17
    go_wp2
    go_ret
    exact ⟨rfl, rfl⟩
  · have g : w / 32768 = 0 := by omega
    rw [g] at t
    rw [sgn_lo (by omega)]
    clear g
    go_enter Try.func17, Try.ntmps17
    go_wp2
    go_ret
    exact ⟨rfl, rfl⟩

theorem impl_smallWord (n : Int) (t : Int) (h : t = 2 * n + 1) (h0 : -1099511627776 ≤ n) (h1 : n ≤ 1099511627776) (W : World) :
    Calls Try.prog 16 #[.int .i64 t] W fun e W' => e = .returned (.tuple #[.int .i64 (tagW n), .bool (inB n), .bool true]) ∧ W' = W := by
  by_cases c0 : n < -16384
  · have d0 : t < -32767 := by omega
    rw [tagW_no (inB_lt c0), inB_lt c0]
    clear h h0 h1 c0
    go_enter Try.func16, Try.ntmps16
    go_wp2
    go_ret3
    exact ⟨rfl, rfl⟩
  by_cases c1 : 16383 < n
  · have d0 : -32767 ≤ t := by omega
    have d1 : 32767 < t := by omega
    rw [tagW_no (inB_gt c1), inB_gt c1]
    clear h h0 h1 c0 c1
    go_enter Try.func16, Try.ntmps16
    go_wp2
    go_ret3
    exact ⟨rfl, rfl⟩
  have d0 : -32767 ≤ t := by omega
  have d1 : t ≤ 32767 := by omega
  rw [tagW_yes (inB_mk (by omega) (by omega)), inB_mk (by omega) (by omega), ← h]
  have m := and_word t
  clear h h0 h1 c0 c1
  go_enter Try.func16, Try.ntmps16
  go_wp2
  go_ret3
  exact ⟨rfl, rfl⟩

theorem spec_two (a b : Int) (W : World) :
    Calls Try.prog 18 #[.int .i64 a, .int .i64 b] W fun e W' => e = .returned (.tuple #[.int .i64 (unt a), .int .i64 (unt b), .bool (smallB a && smallB b)]) ∧ W' = W := by
  cases ha : smallB a
  · go_enter Try.func18, Try.ntmps18
    go_wp2_with (go_at_call 25; refine (spec_untagSmall _ _).mono ?_; rintro e w' ⟨rfl, rfl⟩)
    go_ret3
    exact ⟨rfl, rfl⟩
  · go_enter Try.func18, Try.ntmps18
    go_wp2_with (go_at_call 25; refine (spec_untagSmall _ _).mono ?_; rintro e w' ⟨rfl, rfl⟩)
    go_ret3
    exact ⟨rfl, rfl⟩

end Go.Proofs.Ytighdafgkkenpaa.walks
