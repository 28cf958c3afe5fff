/-
  Plain facts on the bits of Go's int, by division and remainder: no Go program in sight.
-/
import Derived.Laws.BitsAllLaws
import Derived.Laws.Bits128
namespace Go.Proofs.Ytbjfhcbgghpdaaa.math
open Go

theorem and_low (k : Nat) (hk : k ≤ 62) (n : Int) : bits .and .i64 n (((2 ^ k - 1 : Nat)) : Int) = n % ((2 ^ k : Nat) : Int) := by
  have hp : 2 ^ k ≤ 2 ^ 62 := Nat.pow_le_pow_right (by decide) hk
  have h0 : 0 < 2 ^ k := Nat.two_pow_pos k
  have hm : (BitVec.ofInt 64 ((2 ^ k - 1 : Nat) : Int)).toNat = 2 ^ k - 1 := by
    rw [BitVec.ofInt_natCast, BitVec.toNat_ofNat]; exact Nat.mod_eq_of_lt (by omega)
  have key : (BitVec.ofInt 64 n &&& BitVec.ofInt 64 ((2 ^ k - 1 : Nat) : Int)).toNat = (n % ((2 ^ 64 : Nat) : Int)).toNat % 2 ^ k := by
    rw [BitVec.toNat_and, BitVec.toNat_ofInt, hm, Nat.and_two_pow_sub_one_eq_mod]
  show IntKind.i64.wrap ((BitVec.ofInt 64 n &&& BitVec.ofInt 64 ((2 ^ k - 1 : Nat) : Int)).toNat : Nat) = _
  rw [key, IntKind.wrap_i64]
  have hlt : (n % ((2 ^ 64 : Nat) : Int)).toNat % 2 ^ k < 2 ^ k := Nat.mod_lt _ h0
  have hd : (((2 ^ k : Nat)) : Int) ∣ ((2 ^ 64 : Nat) : Int) := by
    exact Int.natCast_dvd_natCast.2 (Nat.pow_dvd_pow 2 (by omega))
  have he : (((n % ((2 ^ 64 : Nat) : Int)).toNat % 2 ^ k : Nat) : Int) = n % ((2 ^ k : Nat) : Int) := by
    rw [Int.natCast_emod, Int.toNat_of_nonneg (Int.emod_nonneg _ (by decide)), Int.emod_emod_of_dvd _ hd]
  rw [he]
  have : n % ((2 ^ k : Nat) : Int) < ((2 ^ k : Nat) : Int) := Int.emod_lt_of_pos _ (by omega)
  have : 0 ≤ n % ((2 ^ k : Nat) : Int) := Int.emod_nonneg _ (by omega)
  omega

theorem and_word (n : Int) : bits .and .i64 n 65535 = n % 65536 := and_low 16 (by decide) n
theorem and_one (n : Int) : bits .and .i64 n 1 = n % 2 := and_low 1 (by decide) n

theorem and_nat (a b : Nat) (ha : a < 2 ^ 63) (hb : b < 2 ^ 63) : bits .and .i64 (a : Int) (b : Int) = ((a &&& b : Nat) : Int) := by
  have h1 : (BitVec.ofInt 64 (a : Int)).toNat = a := by
    rw [BitVec.ofInt_natCast, BitVec.toNat_ofNat]; exact Nat.mod_eq_of_lt (by omega)
  have h2 : (BitVec.ofInt 64 (b : Int)).toNat = b := by
    rw [BitVec.ofInt_natCast, BitVec.toNat_ofNat]; exact Nat.mod_eq_of_lt (by omega)
  have hx : a &&& b < 2 ^ 63 := Nat.and_lt_two_pow _ (by omega)
  show IntKind.i64.wrap ((BitVec.ofInt 64 (a : Int) &&& BitVec.ofInt 64 (b : Int)).toNat : Nat) = _
  rw [BitVec.toNat_and, h1, h2, IntKind.wrap_i64]
  omega

theorem and_bit (k : Nat) (hk : k ≤ 62) (w : Int) (h0 : 0 ≤ w) (h1 : w ≤ 65535) :
    bits .and .i64 w ((2 ^ k : Nat) : Int) = w / ((2 ^ k : Nat) : Int) % 2 * ((2 ^ k : Nat) : Int) := by
  obtain ⟨a, rfl⟩ := Int.eq_ofNat_of_zero_le h0
  have hp : 2 ^ k ≤ 2 ^ 62 := Nat.pow_le_pow_right (by decide) hk
  show bits .and .i64 ((a : Nat) : Int) ((2 ^ k : Nat) : Int) = _
  rw [and_nat a (2 ^ k) (by omega) (by omega), nat_bit]
  simp

theorem and_top (w : Int) (h0 : 0 ≤ w) (h1 : w ≤ 65535) : bits .and .i64 w 32768 = w / 32768 * 32768 := by
  have h := and_bit 15 (by decide) w h0 h1
  have e : ((2 ^ 15 : Nat) : Int) = 32768 := by decide
  rw [e] at h
  rw [h]
  omega

/-- Whether a number is a word whose lowest bit is 1. -/
def smallB (w : Int) : Bool := decide (0 ≤ w ∧ w ≤ 65535 ∧ w % 2 = 1)
/-- A word as a number with a sign. -/
def sgn (w : Int) : Int := if 32768 ≤ w then w - 65536 else w
/-- The number of a small word, 0 where it is none. -/
def unt (w : Int) : Int := if smallB w = true then sgn w / 2 else 0
/-- Whether a number is within the bounds of the small ones. -/
def inB (n : Int) : Bool := decide (-16384 ≤ n ∧ n ≤ 16383)
/-- The word of a number, 0 where it has none. -/
def tagW (n : Int) : Int := if inB n = true then (2 * n + 1) % 65536 else 0

theorem smallB_mk {w : Int} (a : 0 ≤ w) (b : w ≤ 65535) (c : w % 2 = 1) : smallB w = true := decide_eq_true ⟨a, b, c⟩
theorem smallB_lt {w : Int} (a : w < 0) : smallB w = false := decide_eq_false (by omega)
theorem smallB_gt {w : Int} (a : 65535 < w) : smallB w = false := decide_eq_false (by omega)
theorem smallB_even {w : Int} (a : w % 2 = 0) : smallB w = false := decide_eq_false (by omega)
theorem smallB_out {w : Int} (h : smallB w = true) : 0 ≤ w ∧ w ≤ 65535 ∧ w % 2 = 1 := of_decide_eq_true h
theorem inB_mk {n : Int} (a : -16384 ≤ n) (b : n ≤ 16383) : inB n = true := decide_eq_true ⟨a, b⟩
theorem inB_lt {n : Int} (a : n < -16384) : inB n = false := decide_eq_false (by omega)
theorem inB_gt {n : Int} (a : 16383 < n) : inB n = false := decide_eq_false (by omega)
theorem inB_out {n : Int} (h : inB n = true) : -16384 ≤ n ∧ n ≤ 16383 := of_decide_eq_true h
theorem sgn_lo {w : Int} (h : w < 32768) : sgn w = w := if_neg (by omega)
theorem sgn_hi {w : Int} (h : 32768 ≤ w) : sgn w = w - 65536 := if_pos h
theorem unt_no {w : Int} (h : smallB w = false) : unt w = 0 := if_neg (by simp [h])
theorem unt_yes {w : Int} (h : smallB w = true) : unt w = sgn w / 2 := if_pos h
theorem tagW_no {n : Int} (h : inB n = false) : tagW n = 0 := if_neg (by simp [h])
theorem tagW_yes {n : Int} (h : inB n = true) : tagW n = (2 * n + 1) % 65536 := if_pos h
/-- Of a small word: its sign's form is twice its number and 1; both are within bounds. -/
theorem small_form {w : Int} (h : smallB w = true) : sgn w = 2 * unt w + 1 ∧ -16384 ≤ unt w ∧ unt w ≤ 16383 := by
  have h' := smallB_out h
  rw [unt_yes h]
  unfold sgn
  split <;> omega
/-- The product of two small numbers is far within an int. -/
theorem mul_bd {x y : Int} (a : -16384 ≤ x) (b : x ≤ 16383) (c : -16384 ≤ y) (d : y ≤ 16383) : -268435456 ≤ x * y ∧ x * y ≤ 268435456 := by
  have h1 := Int.mul_nonneg (show 0 ≤ 16384 - x by omega) (show 0 ≤ 16384 + y by omega)
  have h2 := Int.mul_nonneg (show 0 ≤ 16384 + x by omega) (show 0 ≤ 16384 - y by omega)
  have h3 := Int.mul_nonneg (show 0 ≤ 16384 - x by omega) (show 0 ≤ 16384 - y by omega)
  have h4 := Int.mul_nonneg (show 0 ≤ 16384 + x by omega) (show 0 ≤ 16384 + y by omega)
  simp only [Int.sub_mul, Int.mul_sub, Int.add_mul, Int.mul_add] at h1 h2 h3 h4
  omega
/-- A word less its tag, times the other's number, is twice the product. -/
theorem mul_form {p q x y : Int} (a : p = 2 * x + 1) (b : q = 2 * y + 1) : (p - 1) * (q / 2) = 2 * (x * y) := by
  have e1 : p - 1 = 2 * x := by omega
  have e2 : q / 2 = y := by omega
  rw [e1, e2, Int.mul_assoc]
/-- The word of a number has that number. -/
theorem tag_back {n : Int} (h : inB n = true) : smallB (tagW n) = true ∧ unt (tagW n) = n := by
  have hb := inB_out h
  have hs : smallB (tagW n) = true := by rw [tagW_yes h]; exact smallB_mk (by omega) (by omega) (by omega)
  refine ⟨hs, ?_⟩
  rw [unt_yes hs, tagW_yes h]
  unfold sgn
  split <;> omega
theorem sgn_mod (w : Int) : sgn w % 65536 = w % 65536 := by
  unfold sgn
  split <;> omega
/-- The sum of two words as they stand, less a tag. -/
theorem word_add {a b : Int} (sa : smallB a = true) (sb : smallB b = true) (h : inB (unt a + unt b) = true) : bits .and .i64 (a + b - 1) 65535 = tagW (unt a + unt b) := by
  have fa := (small_form sa).1
  have fb := (small_form sb).1
  have ma := sgn_mod a
  have mb := sgn_mod b
  rw [and_word, tagW_yes h]
  omega
theorem word_sub {a b : Int} (sa : smallB a = true) (sb : smallB b = true) (h : inB (unt a - unt b) = true) : bits .and .i64 (a - b + 1) 65535 = tagW (unt a - unt b) := by
  have fa := (small_form sa).1
  have fb := (small_form sb).1
  have ma := sgn_mod a
  have mb := sgn_mod b
  rw [and_word, tagW_yes h]
  omega
/-- Whether a number is a word whose lowest bit is 0; its address, 0 where it is none. -/
def addrB (w : Int) : Bool := decide (0 ≤ w ∧ w ≤ 65535 ∧ w % 2 = 0)
def adr (w : Int) : Int := if addrB w = true then w / 2 else 0
/-- Whether a number is an address; its word, 0 where it has none. -/
def atB (a : Int) : Bool := decide (0 ≤ a ∧ a ≤ 32767)
def atW (a : Int) : Int := if atB a = true then 2 * a else 0
theorem addrB_mk {w : Int} (a : 0 ≤ w) (b : w ≤ 65535) (c : w % 2 = 0) : addrB w = true := decide_eq_true ⟨a, b, c⟩
theorem addrB_lt {w : Int} (a : w < 0) : addrB w = false := decide_eq_false (by omega)
theorem addrB_gt {w : Int} (a : 65535 < w) : addrB w = false := decide_eq_false (by omega)
theorem addrB_odd {w : Int} (a : w % 2 = 1) : addrB w = false := decide_eq_false (by omega)
theorem addrB_out {w : Int} (h : addrB w = true) : 0 ≤ w ∧ w ≤ 65535 ∧ w % 2 = 0 := of_decide_eq_true h
theorem adr_no {w : Int} (h : addrB w = false) : adr w = 0 := if_neg (by simp [h])
theorem adr_yes {w : Int} (h : addrB w = true) : adr w = w / 2 := if_pos h
theorem atB_mk {a : Int} (h : 0 ≤ a) (k : a ≤ 32767) : atB a = true := decide_eq_true ⟨h, k⟩
theorem atB_lt {a : Int} (h : a < 0) : atB a = false := decide_eq_false (by omega)
theorem atB_gt {a : Int} (h : 32767 < a) : atB a = false := decide_eq_false (by omega)
theorem atW_no {a : Int} (h : atB a = false) : atW a = 0 := if_neg (by simp [h])
theorem atW_yes {a : Int} (h : atB a = true) : atW a = 2 * a := if_pos h
theorem small_not_addr {w : Int} (h : smallB w = true) : addrB w = false := addrB_odd (smallB_out h).2.2
theorem addr_not_small {w : Int} (h : addrB w = true) : smallB w = false := smallB_even (addrB_out h).2.2
/-- A small word is the word of its number, a word of an address that of its address. -/
theorem untag_back {w : Int} (h : smallB w = true) : inB (unt w) = true ∧ tagW (unt w) = w := by
  obtain ⟨a, b, c⟩ := smallB_out h
  obtain ⟨f, p, q⟩ := small_form h
  have hi := inB_mk p q
  refine ⟨hi, ?_⟩
  rw [tagW_yes hi]
  have := sgn_mod w
  omega
theorem unaddr_back {w : Int} (h : addrB w = true) : atB (adr w) = true ∧ atW (adr w) = w := by
  obtain ⟨a, b, c⟩ := addrB_out h
  have ha : atB (adr w) = true := by rw [adr_yes h]; exact atB_mk (by omega) (by omega)
  refine ⟨ha, ?_⟩
  rw [atW_yes ha, adr_yes h]
  omega
end Go.Proofs.Ytbjfhcbgghpdaaa.math
