/-
  Plain facts on magics: good ones, what they divide to: no Go program in sight.
-/
import Derived.Laws.BitsAllLaws
import Derived.Laws.Bits128
namespace Go.Proofs.Ytlocdlgbjjbnoaa.math
open Go

theorem wrap_in {x : Int} (h0 : -9223372036854775808 ≤ x) (h1 : x ≤ 9223372036854775807) : IntKind.i64.wrap x = x := by
  rw [IntKind.wrap_i64]; omega
/-- Whether a magic is within its bounds. -/
def goodB (b m s : Int) : Bool := decide (1 ≤ b ∧ b ≤ 65535 ∧ 0 ≤ m ∧ m ≤ 131071 ∧ 0 ≤ s ∧ s ≤ 32)
theorem good_out {b m s : Int} (h : goodB b m s = true) : 1 ≤ b ∧ b ≤ 65535 ∧ 0 ≤ m ∧ m ≤ 131071 ∧ 0 ≤ s ∧ s ≤ 32 := of_decide_eq_true h
theorem good_mk {b m s : Int} (h : 1 ≤ b ∧ b ≤ 65535 ∧ 0 ≤ m ∧ m ≤ 131071 ∧ 0 ≤ s ∧ s ≤ 32) : goodB b m s = true := decide_eq_true h
/-- Whether a number is within two bounds. -/
def inR (n lo hi : Int) : Bool := decide (lo ≤ n ∧ n ≤ hi)
theorem inR_lt {n lo hi : Int} (h : n < lo) : inR n lo hi = false := decide_eq_false (by omega)
theorem inR_gt {n lo hi : Int} (h : hi < n) : inR n lo hi = false := decide_eq_false (by omega)
theorem inR_mk {n lo hi : Int} (h : lo ≤ n) (k : n ≤ hi) : inR n lo hi = true := decide_eq_true ⟨h, k⟩
theorem inR_out {n lo hi : Int} (h : inR n lo hi = true) : lo ≤ n ∧ n ≤ hi := of_decide_eq_true h
/-- A number times the magic's, shifted. -/
def divW (m s n : Int) : Int := n * m / 2 ^ s.toNat
theorem mag_mul {n m : Int} (a : 0 ≤ n) (b : n ≤ 65535) (c : 0 ≤ m) (d : m ≤ 131071) : 0 ≤ n * m ∧ n * m ≤ 8589737985 := by
  have h1 := Int.mul_nonneg a c
  have h2 := Int.mul_nonneg a (show 0 ≤ 131071 - m by omega)
  rw [Int.mul_sub] at h2
  omega
theorem pow_pos (k : Nat) : (0 : Int) < 2 ^ k := Int.pow_pos (by decide)
theorem mag_div {m s n : Int} (a : 0 ≤ n) (b : n ≤ 65535) (c : 0 ≤ m) (d : m ≤ 131071) : 0 ≤ divW m s n ∧ divW m s n ≤ 8589737985 := by
  obtain ⟨h0, h1⟩ := mag_mul a b c d
  have hp := pow_pos s.toNat
  refine ⟨Int.ediv_nonneg h0 (Int.le_of_lt hp), Int.le_trans ?_ h1⟩
  exact Int.ediv_le_self _ h0
theorem mag_back {b q : Int} (h0 : 1 ≤ b) (h1 : b ≤ 65535) (k0 : 0 ≤ q) (k1 : q ≤ 8589737985) : 0 ≤ b * q ∧ b * q ≤ 562928478846975 := by
  have h2 := Int.mul_nonneg (show 0 ≤ b by omega) k0
  have h3 := Int.mul_nonneg (show 0 ≤ 65535 - b by omega) k0
  rw [Int.sub_mul] at h3
  omega
/-- Where DivBy and ModBy answer, and what. -/
def divB (b m s n : Int) : Bool := decide (goodB b m s = true ∧ 0 ≤ n ∧ n ≤ 65535)
def divV (b m s n : Int) : Int := if divB b m s n = true then divW m s n else 0
def modB (b m s n : Int) : Bool := divB b m s n
def modV (b m s n : Int) : Int := if modB b m s n = true then n - b * divW m s n else 0
/-- Where DivSigned answers, and what. -/
def sdivB (b m s n : Int) : Bool := decide (goodB b m s = true ∧ -32768 ≤ n ∧ n ≤ 32767)
def sdivV (b m s n : Int) : Int := if sdivB b m s n = true then (if n < 0 then -divW m s (-n) else divW m s n) else 0
theorem divB_bad {b m s n : Int} (h : goodB b m s = false) : divB b m s n = false := decide_eq_false (by simp [h])
theorem divB_lt {b m s n : Int} (h : n < 0) : divB b m s n = false := decide_eq_false (by omega)
theorem divB_gt {b m s n : Int} (h : 65535 < n) : divB b m s n = false := decide_eq_false (by omega)
theorem divB_mk {b m s n : Int} (h : goodB b m s = true) (a : 0 ≤ n) (c : n ≤ 65535) : divB b m s n = true := decide_eq_true ⟨h, a, c⟩
theorem divB_out {b m s n : Int} (h : divB b m s n = true) : goodB b m s = true ∧ 0 ≤ n ∧ n ≤ 65535 := of_decide_eq_true h
theorem modB_bad {b m s n : Int} (h : goodB b m s = false) : modB b m s n = false := divB_bad h
theorem modB_lt {b m s n : Int} (h : n < 0) : modB b m s n = false := divB_lt h
theorem modB_gt {b m s n : Int} (h : 65535 < n) : modB b m s n = false := divB_gt h
theorem modB_mk {b m s n : Int} (h : goodB b m s = true) (a : 0 ≤ n) (c : n ≤ 65535) : modB b m s n = true := divB_mk h a c
theorem sdivB_bad {b m s n : Int} (h : goodB b m s = false) : sdivB b m s n = false := decide_eq_false (by simp [h])
theorem sdivB_lt {b m s n : Int} (h : n < -32768) : sdivB b m s n = false := decide_eq_false (by omega)
theorem sdivB_gt {b m s n : Int} (h : 32767 < n) : sdivB b m s n = false := decide_eq_false (by omega)
theorem sdivB_mk {b m s n : Int} (h : goodB b m s = true) (a : -32768 ≤ n) (c : n ≤ 32767) : sdivB b m s n = true := decide_eq_true ⟨h, a, c⟩
theorem divV_no {b m s n : Int} (h : divB b m s n = false) : divV b m s n = 0 := if_neg (by simp [h])
theorem divV_yes {b m s n : Int} (h : divB b m s n = true) : divV b m s n = divW m s n := if_pos h
theorem modV_no {b m s n : Int} (h : modB b m s n = false) : modV b m s n = 0 := if_neg (by simp [h])
theorem modV_yes {b m s n : Int} (h : modB b m s n = true) : modV b m s n = n - b * divW m s n := if_pos h
theorem sdivV_no {b m s n : Int} (h : sdivB b m s n = false) : sdivV b m s n = 0 := if_neg (by simp [h])
theorem sdivV_neg {b m s n : Int} (h : sdivB b m s n = true) (k : n < 0) : sdivV b m s n = -divW m s (-n) := (if_pos h).trans (if_pos k)
theorem sdivV_pos {b m s n : Int} (h : sdivB b m s n = true) (k : 0 ≤ n) : sdivV b m s n = divW m s n := (if_pos h).trans (if_neg (by omega))
/-- What MagicFor holds against its bound at shift s: 2 to the power of s divided by b, up; and whether its excess is within the bound. -/
def upM (b s : Int) : Int := (2 ^ s.toNat + b - 1) / b
def okM (b s : Int) : Bool := decide (upM b s * b - 2 ^ s.toNat ≤ 2 ^ (s - 16).toNat)
/-- The least shift from 16 on whose excess is within its bound. -/
def Least (b t : Int) : Prop := 16 ≤ t ∧ t ≤ 32 ∧ okM b t = true ∧ ∀ j : Int, 16 ≤ j → j < t → okM b j = false
theorem pow_le {m n : Nat} (h : m ≤ n) : (2 : Int) ^ m ≤ 2 ^ n := by
  have := Nat.pow_le_pow_right (show 0 < 2 by decide) h
  have e : ∀ k : Nat, (2 : Int) ^ k = ((2 ^ k : Nat) : Int) := fun k => by simp
  rw [e, e]; omega
theorem pow_bd {s : Int} (h1 : s ≤ 32) : 1 ≤ (2 : Int) ^ s.toNat ∧ (2 : Int) ^ s.toNat ≤ 4294967296 := by
  have h := pow_pos s.toNat
  have k : (2 : Int) ^ s.toNat ≤ 2 ^ 32 := pow_le (by omega)
  have e : (2 : Int) ^ 32 = 4294967296 := by decide
  omega
theorem pow16_bd {s : Int} (h1 : s ≤ 32) : 1 ≤ (2 : Int) ^ (s - 16).toNat ∧ (2 : Int) ^ (s - 16).toNat ≤ 65536 := by
  have h := pow_pos (s - 16).toNat
  have k : (2 : Int) ^ (s - 16).toNat ≤ 2 ^ 16 := pow_le (by omega)
  have e : (2 : Int) ^ 16 = 65536 := by decide
  omega
theorem up_mul {b s : Int} (h0 : 1 ≤ b) : 2 ^ s.toNat ≤ upM b s * b ∧ upM b s * b ≤ 2 ^ s.toNat + b - 1 := by
  have h1 := Int.mul_ediv_add_emod (2 ^ s.toNat + b - 1) b
  have h2 := Int.emod_nonneg (2 ^ s.toNat + b - 1) (show b ≠ 0 by omega)
  have h3 := Int.emod_lt_of_pos (2 ^ s.toNat + b - 1) (show 0 < b by omega)
  have e : upM b s * b = b * ((2 ^ s.toNat + b - 1) / b) := Int.mul_comm _ _
  rw [e]
  omega
theorem up_bd {b s : Int} (h0 : 1 ≤ b) (h1 : b ≤ 65535) (h2 : s ≤ 32) : 0 ≤ upM b s ∧ upM b s ≤ 4295032830 ∧ 0 ≤ upM b s * b ∧ upM b s * b ≤ 4295032830 := by
  obtain ⟨p0, p1⟩ := pow_bd h2
  obtain ⟨k0, k1⟩ := up_mul (s := s) h0
  have g0 : 0 ≤ upM b s := Int.ediv_nonneg (by omega) (by omega)
  have g1 : upM b s ≤ 2 ^ s.toNat + b - 1 := Int.ediv_le_self _ (by omega)
  omega
theorem ok_last {b : Int} (h0 : 1 ≤ b) (h1 : b ≤ 65535) : okM b 32 = true := by
  have h := (up_mul (s := 32) h0).2
  have e : (2 : Int) ^ ((32 : Int) - 16).toNat = 65536 := by decide
  refine decide_eq_true ?_
  rw [e]
  omega
theorem least_from {b : Int} (h0 : 1 ≤ b) (h1 : b ≤ 65535) : ∀ (d : Nat) (s : Int), s = 32 - (d : Int) → 16 ≤ s → (∀ j : Int, 16 ≤ j → j < s → okM b j = false) → ∃ t, Least b t
  | 0, s, hs, h16, hj => ⟨s, h16, by omega, by rw [show s = 32 by omega]; exact ok_last h0 h1, hj⟩
  | d + 1, s, hs, h16, hj => by
    cases h : okM b s
    · exact least_from h0 h1 d (s + 1) (by omega) (by omega) fun j a c => by
        by_cases e : j = s
        · rw [e]; exact h
        · exact hj j a (by omega)
    · exact ⟨s, h16, by omega, h, hj⟩
theorem least_is {b : Int} (h0 : 1 ≤ b) (h1 : b ≤ 65535) : ∃ t, Least b t := least_from h0 h1 16 16 (by omega) (by omega) fun j a c => by omega
end Go.Proofs.Ytlocdlgbjjbnoaa.math
