/-
  Plain facts on magics: good ones, what they divide to: no Go program in sight.
-/
import Derived.Laws.BitsAllLaws
import Derived.Laws.Bits128
namespace Go.Proofs.Yteogabkfkfaejab.math
open Go

theorem wrap_in {x : Int} (h0 : -9223372036854775808 ≤ x) (h1 : x ≤ 9223372036854775807) : IntKind.i64.wrap x = x := by
  rw [IntKind.wrap_i64]; omega
/-- Whether a magic is within its bounds. -/
def goodB (b m s : Int) : Bool := decide (1 ≤ b ∧ b ≤ 65535 ∧ 0 ≤ m ∧ m ≤ 131071 ∧ 0 ≤ s ∧ s ≤ 32)
theorem good_out {b m s : Int} (h : goodB b m s = true) : 1 ≤ b ∧ b ≤ 65535 ∧ 0 ≤ m ∧ m ≤ 131071 ∧ 0 ≤ s ∧ s ≤ 32 := of_decide_eq_true h
theorem good_mk {b m s : Int} (h : 1 ≤ b ∧ b ≤ 65535 ∧ 0 ≤ m ∧ m ≤ 131071 ∧ 0 ≤ s ∧ s ≤ 32) : goodB b m s = true := decide_eq_true h
/-- Whether a number is within two bounds. -/
def inR (n lo hi : Int) : Bool := decide (lo ≤ n ∧ n ≤ hi)
theorem inR_lt {n lo hi : Int} (h : n < lo) : inR n lo hi = false := decide_eq_false (by omega)
theorem inR_gt {n lo hi : Int} (h : hi < n) : inR n lo hi = false := decide_eq_false (by omega)
theorem inR_mk {n lo hi : Int} (h : lo ≤ n) (k : n ≤ hi) : inR n lo hi = true := decide_eq_true ⟨h, k⟩
theorem inR_out {n lo hi : Int} (h : inR n lo hi = true) : lo ≤ n ∧ n ≤ hi := of_decide_eq_true h
/-- A number times the magic's, shifted. -/
def divW (m s n : Int) : Int := n * m / 2 ^ s.toNat
theorem mag_mul {n m : Int} (a : 0 ≤ n) (b : n ≤ 65535) (c : 0 ≤ m) (d : m ≤ 131071) : 0 ≤ n * m ∧ n * m ≤ 8589737985 := by
  have h1 := Int.mul_nonneg a c
  have h2 := Int.mul_nonneg a (show 0 ≤ 131071 - m by omega)
  rw [Int.mul_sub] at h2
  omega
theorem pow_pos (k : Nat) : (0 : Int) < 2 ^ k := Int.pow_pos (by decide)
theorem mag_div {m s n : Int} (a : 0 ≤ n) (b : n ≤ 65535) (c : 0 ≤ m) (d : m ≤ 131071) : 0 ≤ divW m s n ∧ divW m s n ≤ 8589737985 := by
  obtain ⟨h0, h1⟩ := mag_mul a b c d
  have hp := pow_pos s.toNat
  refine ⟨Int.ediv_nonneg h0 (Int.le_of_lt hp), Int.le_trans ?_ h1⟩
  exact Int.ediv_le_self _ h0
theorem mag_back {b q : Int} (h0 : 1 ≤ b) (h1 : b ≤ 65535) (k0 : 0 ≤ q) (k1 : q ≤ 8589737985) : 0 ≤ b * q ∧ b * q ≤ 562928478846975 := by
  have h2 := Int.mul_nonneg (show 0 ≤ b by omega) k0
  have h3 := Int.mul_nonneg (show 0 ≤ 65535 - b by omega) k0
  rw [Int.sub_mul] at h3
  omega
/-- Where DivBy and ModBy answer, and what. -/
def divB (b m s n : Int) : Bool := decide (goodB b m s = true ∧ 0 ≤ n ∧ n ≤ 65535)
def divV (b m s n : Int) : Int := if divB b m s n = true then divW m s n else 0
def modB (b m s n : Int) : Bool := divB b m s n
def modV (b m s n : Int) : Int := if modB b m s n = true then n - b * divW m s n else 0
/-- Where DivSigned answers, and what. -/
def sdivB (b m s n : Int) : Bool := decide (goodB b m s = true ∧ -32768 ≤ n ∧ n ≤ 32767)
def sdivV (b m s n : Int) : Int := if sdivB b m s n = true then (if n < 0 then -divW m s (-n) else divW m s n) else 0
theorem divB_bad {b m s n : Int} (h : goodB b m s = false) : divB b m s n = false := decide_eq_false (by simp [h])
theorem divB_lt {b m s n : Int} (h : n < 0) : divB b m s n = false := decide_eq_false (by omega)
theorem divB_gt {b m s n : Int} (h : 65535 < n) : divB b m s n = false := decide_eq_false (by omega)
theorem divB_mk {b m s n : Int} (h : goodB b m s = true) (a : 0 ≤ n) (c : n ≤ 65535) : divB b m s n = true := decide_eq_true ⟨h, a, c⟩
theorem divB_out {b m s n : Int} (h : divB b m s n = true) : goodB b m s = true ∧ 0 ≤ n ∧ n ≤ 65535 := of_decide_eq_true h
theorem modB_bad {b m s n : Int} (h : goodB b m s = false) : modB b m s n = false := divB_bad h
theorem modB_lt {b m s n : Int} (h : n < 0) : modB b m s n = false := divB_lt h
theorem modB_gt {b m s n : Int} (h : 65535 < n) : modB b m s n = false := divB_gt h
theorem modB_mk {b m s n : Int} (h : goodB b m s = true) (a : 0 ≤ n) (c : n ≤ 65535) : modB b m s n = true := divB_mk h a c
theorem sdivB_bad {b m s n : Int} (h : goodB b m s = false) : sdivB b m s n = false := decide_eq_false (by simp [h])
theorem sdivB_lt {b m s n : Int} (h : n < -32768) : sdivB b m s n = false := decide_eq_false (by omega)
theorem sdivB_gt {b m s n : Int} (h : 32767 < n) : sdivB b m s n = false := decide_eq_false (by omega)
theorem sdivB_mk {b m s n : Int} (h : goodB b m s = true) (a : -32768 ≤ n) (c : n ≤ 32767) : sdivB b m s n = true := decide_eq_true ⟨h, a, c⟩
theorem divV_no {b m s n : Int} (h : divB b m s n = false) : divV b m s n = 0 := if_neg (by simp [h])
theorem divV_yes {b m s n : Int} (h : divB b m s n = true) : divV b m s n = divW m s n := if_pos h
theorem modV_no {b m s n : Int} (h : modB b m s n = false) : modV b m s n = 0 := if_neg (by simp [h])
theorem modV_yes {b m s n : Int} (h : modB b m s n = true) : modV b m s n = n - b * divW m s n := if_pos h
theorem sdivV_no {b m s n : Int} (h : sdivB b m s n = false) : sdivV b m s n = 0 := if_neg (by simp [h])
theorem sdivV_neg {b m s n : Int} (h : sdivB b m s n = true) (k : n < 0) : sdivV b m s n = -divW m s (-n) := (if_pos h).trans (if_pos k)
theorem sdivV_pos {b m s n : Int} (h : sdivB b m s n = true) (k : 0 ≤ n) : sdivV b m s n = divW m s n := (if_pos h).trans (if_neg (by omega))
end Go.Proofs.Yteogabkfkfaejab.math
