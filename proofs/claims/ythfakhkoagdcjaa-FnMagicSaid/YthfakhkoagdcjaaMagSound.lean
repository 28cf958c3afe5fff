/-
  The magic of a divisor is a good one, and divides every word rightly (Granlund and Montgomery): no Go program in sight.
-/
import Derived.Test.YthfakhkoagdcjaaMagMath
namespace Go.Proofs.Ythfakhkoagdcjaa.math
open Go

theorem magic_div {b t n : Int} (b0 : 1 ≤ b) (b1 : b ≤ 65535) (hL : Least b t) (n0 : 0 ≤ n) (n1 : n ≤ 65535) : divW (upM b t) t n = n / b := by
  obtain ⟨h16, h32, hok, _⟩ := hL
  have hok := of_decide_eq_true hok
  obtain ⟨u0, _⟩ := up_mul (s := t) b0
  have hP : (2 : Int) ^ t.toNat = 2 ^ (t - 16).toNat * 65536 := by
    rw [show t.toNat = (t - 16).toNat + 16 by omega, Int.pow_add]; rfl
  have hE := (pow16_bd (s := t) h32).1
  have hq := Int.mul_ediv_add_emod n b
  have hr0 := Int.emod_nonneg n (show b ≠ 0 by omega)
  have hr1 := Int.emod_lt_of_pos n (show 0 < b by omega)
  unfold divW
  generalize upM b t = M at *
  generalize (2 : Int) ^ t.toNat = P at *
  generalize (2 : Int) ^ (t - 16).toNat = E at *
  generalize n / b = q at *
  generalize n % b = r at *
  obtain ⟨e, he⟩ : ∃ e, M * b = P + e := ⟨M * b - P, by omega⟩
  have e0 : 0 ≤ e := by omega
  have e1 : e ≤ E := by omega
  have k1 : n * M * b = n * P + n * e := by rw [Int.mul_assoc, he, Int.mul_add]
  have ne0 : 0 ≤ n * e := Int.mul_nonneg n0 e0
  have ne1 : n * e ≤ 65535 * E := Int.mul_le_mul n1 e1 e0 (by omega)
  have kn : n * P = b * q * P + r * P := by rw [← Int.add_mul, hq]
  have P0 : 0 < P := by omega
  have r0P : 0 ≤ r * P := Int.mul_nonneg hr0 (by omega)
  have r1P : r * P ≤ (b - 1) * P := Int.mul_le_mul_of_nonneg_right (by omega) (by omega)
  rw [Int.sub_mul, Int.one_mul] at r1P
  have kq : q * P * b = b * q * P := by rw [Int.mul_comm (q * P) b, Int.mul_assoc]
  have lower : q * P ≤ n * M := by
    refine Int.not_lt.mp fun h => ?_
    have h2 : n * M * b < q * P * b := Int.mul_lt_mul_of_pos_right h (by omega)
    omega
  have upper : n * M < (q + 1) * P := by
    refine Int.not_le.mp fun h => ?_
    have h2 : (q + 1) * P * b ≤ n * M * b := Int.mul_le_mul_of_nonneg_right h (by omega)
    have h3 : (q + 1) * P * b = b * q * P + b * P := by rw [Int.add_mul, Int.one_mul, Int.add_mul, kq, Int.mul_comm P b]
    omega
  exact Int.le_antisymm (Int.lt_add_one_iff.mp (Int.ediv_lt_of_lt_mul P0 upper)) (Int.le_ediv_of_mul_le P0 lower)
theorem magic_good {b t : Int} (b0 : 1 ≤ b) (b1 : b ≤ 65535) (hL : Least b t) : goodB b (upM b t) t = true := by
  obtain ⟨h16, h32, hok, hmin⟩ := hL
  obtain ⟨g0, _, _, _⟩ := up_bd (b := b) (s := t) b0 b1 h32
  obtain ⟨u0, u1⟩ := up_mul (s := t) b0
  refine good_mk ⟨b0, b1, g0, ?_, by omega, h32⟩
  by_cases h : t = 16
  · subst h
    have e : (2 : Int) ^ (16 : Int).toNat = 65536 := by decide
    rw [e] at u1
    refine Int.not_lt.mp fun hh => ?_
    have h2 : 131072 * b ≤ upM b 16 * b := Int.mul_le_mul_of_nonneg_right (by omega) (by omega)
    omega
  · have h1 := hmin (t - 1) (by omega) (by omega)
    have h1 := of_decide_eq_false h1
    obtain ⟨_, v1⟩ := up_mul (s := t - 1) b0
    have hP : (2 : Int) ^ t.toNat = 2 ^ (t - 1 - 16).toNat * 131072 := by
      rw [show t.toNat = (t - 1 - 16).toNat + 17 by omega, Int.pow_add]; rfl
    refine Int.not_lt.mp fun hh => ?_
    have h2 : 131072 * b ≤ upM b t * b := Int.mul_le_mul_of_nonneg_right (by omega) (by omega)
    omega
end Go.Proofs.Ythfakhkoagdcjaa.math
