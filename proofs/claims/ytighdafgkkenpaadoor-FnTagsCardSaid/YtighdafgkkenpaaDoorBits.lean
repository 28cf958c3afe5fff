/-
  Plain facts on the digits of a number to the base 2: how many are 1 among the first k, and which is the lowest: no Go program in sight.
-/
import Derived.Test.YtighdafgkkenpaaDoorMath
namespace Go.Proofs.YtighdafgkkenpaaDoor.math
open Go

/-- How many of the first k digits of a are 1. -/
def pcN : Nat → Nat → Nat
  | 0, _ => 0
  | k + 1, a => pcN k a + a / 2 ^ k % 2
theorem pcN_le (a : Nat) : ∀ k, pcN k a ≤ k
  | 0 => Nat.le_refl _
  | k + 1 => by have := pcN_le a k; simp only [pcN]; omega
theorem div_half (a j : Nat) : a / 2 ^ j / 2 = a / 2 ^ (j + 1) := by rw [Nat.pow_succ, Nat.div_div_eq_div_mul]
theorem div_zero_up {a j : Nat} (h : a / 2 ^ j = 0) : ∀ d, a / 2 ^ (j + d) = 0
  | 0 => h
  | d + 1 => by rw [← Nat.add_assoc, ← div_half, div_zero_up h d]
/-- Where all further digits are 0 the count stands. -/
theorem pcN_stop {a j : Nat} (h : a / 2 ^ j = 0) : ∀ d, pcN (j + d) a = pcN j a
  | 0 => rfl
  | d + 1 => by
    show pcN (j + d) a + a / 2 ^ (j + d) % 2 = _
    rw [pcN_stop h d, div_zero_up h d]; rfl
theorem pcN_end {a j : Nat} (hj : j ≤ 16) (h : a / 2 ^ j = 0) : pcN j a = pcN 16 a := by
  have := pcN_stop h (16 - j)
  rw [show j + (16 - j) = 16 by omega] at this
  exact this.symm
theorem word_end {a j : Nat} (ha : a ≤ 65535) (hj : 16 ≤ j) : a / 2 ^ j = 0 := by
  have h16 : a / 2 ^ 16 = 0 := Nat.div_eq_of_lt (by omega)
  have := div_zero_up h16 (j - 16)
  rw [show 16 + (j - 16) = j by omega] at this
  exact this

/-- Digit j of a is its lowest that is 1. -/
def Low (a j : Nat) : Prop := a % 2 ^ j = 0 ∧ a / 2 ^ j % 2 = 1
theorem mod_up (a j : Nat) : a % 2 ^ (j + 1) = a % 2 ^ j + 2 ^ j * (a / 2 ^ j % 2) := by
  rw [Nat.pow_succ, Nat.mod_mul]
theorem mod_next {a j : Nat} (h : a % 2 ^ j = 0) (e : a / 2 ^ j % 2 = 0) : a % 2 ^ (j + 1) = 0 := by
  rw [mod_up, h, e]; rfl
theorem mod_down {a j : Nat} : ∀ d, a % 2 ^ (j + d) = 0 → a % 2 ^ j = 0
  | 0, h => h
  | d + 1, h => mod_down d (by
      rw [show j + (d + 1) = (j + d) + 1 by omega, mod_up] at h
      omega)
theorem low_not {a i j : Nat} (hi : Low a i) (hj : Low a j) (h : i < j) : False := by
  have h1 : a % 2 ^ (i + 1) = 0 := mod_down (j - (i + 1)) (by rw [show i + 1 + (j - (i + 1)) = j by omega]; exact hj.1)
  rw [mod_up, hi.1, hi.2] at h1
  have := Nat.two_pow_pos i
  omega
theorem low_one {a i j : Nat} (hi : Low a i) (hj : Low a j) : i = j := by
  rcases Nat.lt_trichotomy i j with h | h | h
  · exact (low_not hi hj h).elim
  · exact h
  · exact (low_not hj hi h).elim
/-- A word other than 0 has a digit that is 1 among its 16. -/
theorem low_ends {a : Nat} (ha : a ≤ 65535) (h : a % 2 ^ 16 = 0) : a = 0 := by
  rw [Nat.mod_eq_of_lt (by omega)] at h
  exact h
/-- What Go's '&' gives of a word and one digit's number. -/
theorem and_digit (a k : Nat) (ha : a ≤ 65535) (hk : k < 16) : bits .and .i64 (a : Int) ((2 ^ k : Nat) : Int) = ((a / 2 ^ k % 2 * 2 ^ k : Nat) : Int) := by
  have hp : 2 ^ k ≤ 2 ^ 16 := Nat.pow_le_pow_right (by decide) (by omega)
  rw [and_nat a (2 ^ k) (by omega) (by omega), nat_bit]
theorem and_digit_yes {a k : Nat} (ha : a ≤ 65535) (hk : k < 16) (h : a / 2 ^ k % 2 = 1) : bits .and .i64 (a : Int) ((2 ^ k : Nat) : Int) = ((2 ^ k : Nat) : Int) := by
  rw [and_digit a k ha hk, h, Nat.one_mul]
theorem and_digit_no {a k : Nat} (ha : a ≤ 65535) (hk : k < 16) (h : a / 2 ^ k % 2 = 0) : bits .and .i64 (a : Int) ((2 ^ k : Nat) : Int) = 0 := by
  rw [and_digit a k ha hk, h, Nat.zero_mul]; rfl
theorem pcN_split (a j : Nat) : ∀ k, pcN (j + k) a = pcN j a + pcN k (a / 2 ^ j)
  | 0 => rfl
  | k + 1 => by
    show pcN (j + k) a + a / 2 ^ (j + k) % 2 = pcN j a + (pcN k (a / 2 ^ j) + a / 2 ^ j / 2 ^ k % 2)
    rw [pcN_split a j k, Nat.div_div_eq_div_mul, ← Nat.pow_add]
    omega
theorem pcN_none {a : Nat} : ∀ j, a % 2 ^ j = 0 → pcN j a = 0
  | 0, _ => rfl
  | j + 1, h => by
    have h1 : a % 2 ^ j = 0 := mod_down 1 h
    have h2 := mod_up a j
    rw [h, h1] at h2
    have h3 := Nat.two_pow_pos j
    have h4 : a / 2 ^ j % 2 = 0 := by
      rcases Nat.mod_two_eq_zero_or_one (a / 2 ^ j) with e | e
      · exact e
      · rw [e] at h2; omega
    show pcN j a + a / 2 ^ j % 2 = 0
    rw [pcN_none j h1, h4]
theorem low_lt {a j : Nat} (ha : a ≤ 65535) (h : Low a j) : j < 16 := by
  apply Classical.byContradiction; intro hc
  have h1 := word_end ha (show 16 ≤ j by omega)
  have h2 := h.2
  rw [h1] at h2
  cases h2
theorem low_le {a j : Nat} (h : Low a j) : 2 ^ j ≤ a := by
  apply Classical.byContradiction; intro hc
  have h2 := h.2
  rw [Nat.div_eq_of_lt (by omega)] at h2
  cases h2
/-- Without its lowest digit that is 1 a number has one less. -/
theorem pcN_less {a j : Nat} (ha : a ≤ 65535) (h : Low a j) : pcN 16 (a - 2 ^ j) + 1 = pcN 16 a := by
  have hj := low_lt ha h
  have hp := Nat.two_pow_pos j
  obtain ⟨m, hm⟩ : ∃ m, a = 2 ^ j * m := Nat.dvd_of_mod_eq_zero h.1
  have hd : a / 2 ^ j = m := by rw [hm, Nat.mul_div_cancel_left _ hp]
  have hodd : m % 2 = 1 := by rw [← hd]; exact h.2
  have he : a - 2 ^ j = 2 ^ j * (m - 1) := by rw [hm, Nat.mul_sub, Nat.mul_one]
  have hz : (a - 2 ^ j) % 2 ^ j = 0 := by rw [he]; exact Nat.mul_mod_right _ _
  have hq : (a - 2 ^ j) / 2 ^ j = m - 1 := by rw [he, Nat.mul_div_cancel_left _ hp]
  have e1 := pcN_split a j (16 - j)
  have e2 := pcN_split (a - 2 ^ j) j (16 - j)
  rw [show j + (16 - j) = 16 by omega] at e1 e2
  rw [pcN_none j h.1, hd] at e1
  rw [pcN_none j hz, hq] at e2
  have f1 := pcN_split m 1 (15 - j)
  have f2 := pcN_split (m - 1) 1 (15 - j)
  rw [show 1 + (15 - j) = 16 - j by omega] at f1 f2
  have g1 : pcN 1 m = 1 := by show 0 + m / 2 ^ 0 % 2 = 1; simp [hodd]
  have g2 : pcN 1 (m - 1) = 0 := by show 0 + (m - 1) / 2 ^ 0 % 2 = 0; simp; omega
  have g3 : (m - 1) / 2 ^ 1 = m / 2 ^ 1 := by omega
  rw [g1] at f1
  rw [g2, g3] at f2
  omega
end Go.Proofs.YtighdafgkkenpaaDoor.math
