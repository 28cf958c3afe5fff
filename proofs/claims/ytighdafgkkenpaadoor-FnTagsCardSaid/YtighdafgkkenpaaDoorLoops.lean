/-
  What CountOnes and LowestOne answer, of the program and of the specification, at every int, where the program's table holds its sixteen numbers.
-/
import Derived.Test.YtighdafgkkenpaaDoorProg
import Derived.Test.YtighdafgkkenpaaDoorBits
import Derived.WalkKit
namespace Go.Proofs.YtighdafgkkenpaaDoor.walks
open Go.RowKit Go.Proofs.YtighdafgkkenpaaDoor.math

theorem spec_count_no (w : Int) (h : w < 0 ∨ 65535 < w) (W : World) :
    Calls Tryd.prog 15 #[.int .i64 w] W fun e W' => e = .returned (.tuple #[.int .i64 0, .bool false]) ∧ W' = W := by
  rcases h with h | h
  · have d0 : decide (0 ≤ w) = false := decide_eq_false (by omega)
    go_enter Tryd.func15, Tryd.ntmps15
    go_wp2
    go_ret2
    exact ⟨rfl, rfl⟩
  · have d1 : decide (w ≤ 65535) = false := decide_eq_false (by omega)
    go_enter Tryd.func15, Tryd.ntmps15
    go_wp2
    go_ret2
    exact ⟨rfl, rfl⟩
theorem impl_count_no (w : Int) (h : w < 0 ∨ 65535 < w) (W : World) :
    Calls Tryd.prog 14 #[.int .i64 w] W fun e W' => e = .returned (.tuple #[.int .i64 0, .bool false]) ∧ W' = W := by
  rcases h with h | h
  · have d0 : decide (0 ≤ w) = false := decide_eq_false (by omega)
    go_enter Tryd.func14, Tryd.ntmps14
    go_wp2
    go_ret2
    exact ⟨rfl, rfl⟩
  · have d1 : decide (w ≤ 65535) = false := decide_eq_false (by omega)
    go_enter Tryd.func14, Tryd.ntmps14
    go_wp2
    go_ret2
    exact ⟨rfl, rfl⟩

theorem ret_two {a b : Int} {c : Bool} (h : a = b) : Ending.returned (.tuple #[.int .i64 a, .bool c]) = .returned (.tuple #[.int .i64 b, .bool c]) := by rw [h]

theorem spec_count (a : Nat) (ha : a ≤ 65535) (W : World) :
    Calls Tryd.prog 15 #[.int .i64 (a : Int)] W fun e W' => e = .returned (.tuple #[.int .i64 (pcN 16 a : Nat), .bool true]) ∧ W' = W := by
  have h1 : (a : Int) ≤ 65535 := by omega
  have d1 : decide ((a : Int) ≤ 65535) = true := decide_eq_true h1
  go_enter Tryd.func15, Tryd.ntmps15
  go_wp2
  go_loop [0, 4] (fun x n => ∃ j b p : Nat, Hid (b = a / 2 ^ j) ∧ Hid (p = pcN j a) ∧ j ≤ 16 ∧ b ≤ 65535 ∧ p ≤ 16 ∧ x = .int .i64 (b : Int) ∧ n = .int .i64 (p : Int)) (fun x _ => (intOf x).toNat)
  case atStart => exact ⟨0, a, 0, by show a = a / 2 ^ 0; simp, rfl, by omega, ha, by omega, rfl, rfl⟩
  case round =>
    obtain ⟨j, b, p, HB, HP, hj, hb, hp, rfl, rfl⟩ := hrel
    by_cases hlt : 0 < b
    · have hm := and_one (b : Int)
      have hj' : j < 16 := by
        apply Classical.byContradiction; intro hc
        have := word_end ha (show 16 ≤ j by omega)
        have := HB.out
        omega
      have h5 : (b : Int) % 2 ≤ 1 := by omega
      have h6 : 0 ≤ (b : Int) % 2 := by omega
      go_wp2
      go_round
      case rel =>
        refine ⟨j + 1, b / 2, p + b % 2, ?_, ?_, hj', by omega, ?_, ?_, ?_⟩
        · show b / 2 = a / 2 ^ (j + 1)
          rw [HB.out, div_half]
        · show p + b % 2 = pcN j a + a / 2 ^ j % 2
          rw [HB.out, HP.out]
        · have := pcN_le a (j + 1)
          have h : p + b % 2 = pcN (j + 1) a := by rw [HB.out, HP.out]; rfl
          omega
        · go_num
        · go_num
      case measure => simp [intOf]; omega
    · go_wp2
      go_ret2
      refine ⟨ret_two ?_, rfl⟩
      have h : a / 2 ^ j = 0 := by have := HB.out; omega
      rw [HP.out, pcN_end hj h]

/-- The program's table: at place k the digit's number, 2 to the power of k. -/
def Table (W : World) : Prop := ∀ k : Nat, k < 16 → W.cell? ⟨0, k, none⟩ = some (.int .i64 ((2 ^ k : Nat) : Int))

theorem impl_count (a : Nat) (ha : a ≤ 65535) (W : World) (ht : Hid (Table W)) :
    Calls Tryd.prog 14 #[.int .i64 (a : Int)] W fun e W' => e = .returned (.tuple #[.int .i64 (pcN 16 a : Nat), .bool true]) ∧ W' = W := by
  have h1 : (a : Int) ≤ 65535 := by omega
  have d1 : decide ((a : Int) ≤ 65535) = true := decide_eq_true h1
  go_enter Tryd.func14, Tryd.ntmps14
  go_wp2
  go_loop [4, 9] (fun n i => ∃ k p : Nat, Hid (p = pcN k a) ∧ k ≤ 16 ∧ p ≤ 16 ∧ i = .int .i64 (k : Int) ∧ n = .int .i64 (p : Int)) (fun _ i => 16 - (intOf i).toNat)
  case atStart => exact ⟨0, 0, rfl, by omega, by omega, rfl, rfl⟩
  case round =>
    obtain ⟨k, p, HP, hk, hp, rfl, rfl⟩ := hrel
    by_cases hlt : k < 16
    · obtain ⟨m, HM, hc⟩ : ∃ m : Int, Hid (m = ((2 ^ k : Nat) : Int)) ∧ W.cell? ⟨0, k, none⟩ = some (.int .i64 m) := ⟨_, rfl, ht.out k hlt⟩
      have hpos : 0 < m := by have := Nat.two_pow_pos k; have := HM.out; omega
      have hle : pcN (k + 1) a ≤ k + 1 := pcN_le a (k + 1)
      by_cases hd : a / 2 ^ k % 2 = 1
      · have hb : bits .and .i64 (a : Int) m = m := by rw [HM.out]; exact and_digit_yes ha hlt hd
        have hs : p + 1 = pcN (k + 1) a := by rw [HP.out]; show _ = pcN k a + a / 2 ^ k % 2; rw [hd]
        have h17 : p + 1 ≤ 16 := by omega
        have HS : Hid (p + 1 = pcN (k + 1) a) := hs
        clear hs hle hd
        go_wp2
        go_round
        case rel => exact ⟨k + 1, p + 1, HS.out, hlt, h17, by go_num, by go_num⟩
        case measure => simp [intOf]; omega
      · have h0 : a / 2 ^ k % 2 = 0 := by omega
        have hb : bits .and .i64 (a : Int) m = 0 := by rw [HM.out]; exact and_digit_no ha hlt h0
        have hs : p = pcN (k + 1) a := by rw [HP.out]; show _ = pcN k a + a / 2 ^ k % 2; rw [h0]; rfl
        have HS : Hid (p = pcN (k + 1) a) := hs
        clear hs hle hd h0
        go_wp2
        go_round
        case rel => exact ⟨k + 1, p, HS.out, hlt, hp, by go_num, rfl⟩
        case measure => simp [intOf]; omega
    · have hk16 : k = 16 := by omega
      have HE : Hid (p = pcN 16 a) := by rw [← hk16]; exact HP.out
      clear hk16
      go_wp2
      go_ret2
      refine ⟨ret_two ?_, rfl⟩
      rw [HE.out]

theorem spec_low_no (w : Int) (h : w < 0 ∨ 65535 < w ∨ w = 0) (W : World) :
    Calls Tryd.prog 17 #[.int .i64 w] W fun e W' => e = .returned (.tuple #[.int .i64 0, .bool false]) ∧ W' = W := by
  rcases h with h | h | h
  · have d0 : decide (0 ≤ w) = false := decide_eq_false (by omega)
    go_enter Tryd.func17, Tryd.ntmps17
    go_wp2
    go_ret2
    exact ⟨rfl, rfl⟩
  · have d1 : decide (w ≤ 65535) = false := decide_eq_false (by omega)
    go_enter Tryd.func17, Tryd.ntmps17
    go_wp2
    go_ret2
    exact ⟨rfl, rfl⟩
  · subst h
    go_enter Tryd.func17, Tryd.ntmps17
    go_wp2
    go_ret2
    exact ⟨rfl, rfl⟩

theorem spec_low (a : Nat) (ha : a ≤ 65535) (h0 : 0 < a) (W : World) :
    Calls Tryd.prog 17 #[.int .i64 (a : Int)] W fun e W' => ∃ j : Nat, Low a j ∧ e = .returned (.tuple #[.int .i64 (j : Int), .bool true]) ∧ W' = W := by
  have h1 : (a : Int) ≤ 65535 := by omega
  have d1 : decide ((a : Int) ≤ 65535) = true := decide_eq_true h1
  go_enter Tryd.func17, Tryd.ntmps17
  go_wp2
  go_loop [0, 4] (fun x n => ∃ j b : Nat, Hid (b = a / 2 ^ j) ∧ Hid (a % 2 ^ j = 0) ∧ j ≤ 16 ∧ b ≤ 65535 ∧ 0 < b ∧ x = .int .i64 (b : Int) ∧ n = .int .i64 (j : Int)) (fun x _ => (intOf x).toNat)
  case atStart => exact ⟨0, a, by show a = a / 2 ^ 0; simp, by show a % 2 ^ 0 = 0; simp [Nat.mod_one], by omega, ha, h0, rfl, rfl⟩
  case round =>
    obtain ⟨j, b, HB, HZ, hj, hb, hpos, rfl, rfl⟩ := hrel
    have hm := and_one (b : Int)
    have hj' : j < 16 := by
      apply Classical.byContradiction; intro hc
      have := word_end ha (show 16 ≤ j by omega)
      have := HB.out
      omega
    by_cases he : b % 2 = 0
    · have he' : (b : Int) % 2 = 0 := by omega
      rw [he'] at hm
      have H0 : Hid (b % 2 = 0) := he
      clear he he'
      go_wp2
      go_round
      case rel =>
        have hb2 := H0.out
        refine ⟨j + 1, b / 2, ?_, ?_, hj', by omega, by omega, ?_, ?_⟩
        · show b / 2 = a / 2 ^ (j + 1)
          rw [HB.out, div_half]
        · exact mod_next HZ.out (by rw [← HB.out]; exact hb2)
        · go_num
        · go_num
      case measure => simp [intOf]; omega
    · have he' : (b : Int) % 2 = 1 := by omega
      rw [he'] at hm
      have H1 : Hid (b % 2 = 1) := by show b % 2 = 1; omega
      clear he he'
      go_wp2
      go_ret2
      exact ⟨j, ⟨HZ.out, by rw [← HB.out]; exact H1.out⟩, rfl, rfl⟩

theorem impl_low_no (w : Int) (h : w < 0 ∨ 65535 < w) (W : World) :
    Calls Tryd.prog 16 #[.int .i64 w] W fun e W' => e = .returned (.tuple #[.int .i64 0, .bool false]) ∧ W' = W := by
  rcases h with h | h
  · have d0 : decide (0 ≤ w) = false := decide_eq_false (by omega)
    go_enter Tryd.func16, Tryd.ntmps16
    go_wp2
    go_ret2
    exact ⟨rfl, rfl⟩
  · have d1 : decide (w ≤ 65535) = false := decide_eq_false (by omega)
    go_enter Tryd.func16, Tryd.ntmps16
    go_wp2
    go_ret2
    exact ⟨rfl, rfl⟩

theorem impl_low (a : Nat) (ha : a ≤ 65535) (W : World) (ht : Hid (Table W)) :
    Calls Tryd.prog 16 #[.int .i64 (a : Int)] W fun e W' => ((0 < a ∧ ∃ j : Nat, Low a j ∧ e = .returned (.tuple #[.int .i64 (j : Int), .bool true])) ∨ (a = 0 ∧ e = .returned (.tuple #[.int .i64 0, .bool false]))) ∧ W' = W := by
  have h1 : (a : Int) ≤ 65535 := by omega
  have d1 : decide ((a : Int) ≤ 65535) = true := decide_eq_true h1
  go_enter Tryd.func16, Tryd.ntmps16
  go_wp2
  go_loop [8] (fun i => ∃ k : Nat, Hid (a % 2 ^ k = 0) ∧ k ≤ 16 ∧ i = .int .i64 (k : Int)) (fun i => 16 - (intOf i).toNat)
  case atStart => exact ⟨0, by show a % 2 ^ 0 = 0; simp [Nat.mod_one], by omega, rfl⟩
  case round =>
    obtain ⟨k, HZ, hk, rfl⟩ := hrel
    by_cases hlt : k < 16
    · obtain ⟨m, HM, hc⟩ : ∃ m : Int, Hid (m = ((2 ^ k : Nat) : Int)) ∧ W.cell? ⟨0, k, none⟩ = some (.int .i64 m) := ⟨_, rfl, ht.out k hlt⟩
      have hpos : 0 < m := by have := Nat.two_pow_pos k; have := HM.out; omega
      by_cases hd : a / 2 ^ k % 2 = 1
      · have hb : bits .and .i64 (a : Int) m = m := by rw [HM.out]; exact and_digit_yes ha hlt hd
        have H1 : Hid (a / 2 ^ k % 2 = 1) := hd
        clear hd
        go_wp2
        go_ret2
        refine ⟨Or.inl ⟨?_, k, ⟨HZ.out, H1.out⟩, rfl⟩, rfl⟩
        apply Classical.byContradiction; intro hc0
        have h2 := H1.out
        rw [show a = 0 by omega, Nat.zero_div] at h2
        cases h2
      · have h0 : a / 2 ^ k % 2 = 0 := by omega
        have hb : bits .and .i64 (a : Int) m = 0 := by rw [HM.out]; exact and_digit_no ha hlt h0
        have H0 : Hid (a / 2 ^ k % 2 = 0) := h0
        clear hd h0
        go_wp2
        go_round
        case rel => exact ⟨k + 1, mod_next HZ.out H0.out, hlt, by go_num⟩
        case measure => simp [intOf]; omega
    · have hk16 : k = 16 := by omega
      have HE : Hid (a = 0) := low_ends ha (by have := HZ.out; rw [hk16] at this; exact this)
      clear hk16
      go_wp2
      go_ret2
      exact ⟨Or.inr ⟨HE.out, rfl⟩, rfl⟩
end Go.Proofs.YtighdafgkkenpaaDoor.walks
