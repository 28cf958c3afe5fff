/-
  Lists that rise below a bound, and what the program's isBetween and isRisingBelow answer (chapter 10's texts, parted from its tasks).
-/
import Derived.Test.YthomonidconmcaaProg
import Derived.Test.YthomonidconmcaaMagMath
import Derived.Test.YthomonidconmcaaInts
import Derived.WalkKit
import Derived.WalkSpells
import Derived.Below
import Derived.Handy
namespace Go.Proofs.Ythomonidconmcaa.math
set_option linter.unusedVariables false

/-- The first m numbers rise, from 0 at the least, and stay below e. -/
def RiseTo (zs : List Int) (e : Int) (m : Nat) : Prop := ∀ i, i < m → 0 ≤ zs.getD i 0 ∧ zs.getD i 0 < e ∧ (0 < i → zs.getD (i - 1) 0 < zs.getD i 0)
def riseB (zs : List Int) (e : Int) : Bool := decide (∀ i, i < zs.length → 0 ≤ zs.getD i 0 ∧ zs.getD i 0 < e ∧ (0 < i → zs.getD (i - 1) 0 < zs.getD i 0))
theorem rise_yes {zs : List Int} {e : Int} (h : RiseTo zs e zs.length) : riseB zs e = true := by unfold riseB; exact decide_eq_true (fun i hi => h i hi)
theorem rise_out {zs : List Int} {e : Int} (h : riseB zs e = true) : RiseTo zs e zs.length := by have q := of_decide_eq_true h; exact q
theorem rise_no {zs : List Int} {e : Int} {k : Nat} (hk : k < zs.length) (h : zs.getD k 0 < 0 ∨ e ≤ zs.getD k 0 ∨ (0 < k ∧ zs.getD k 0 ≤ zs.getD (k - 1) 0)) : riseB zs e = false := decide_eq_false (fun q => by
  obtain ⟨q0, q1, q2⟩ := q k hk
  rcases h with h | h | ⟨h1, h2⟩
  · omega
  · omega
  · have := q2 h1; omega)
theorem rise_nil (zs : List Int) (e : Int) : RiseTo zs e 0 := fun i hi => by omega
theorem rise_next {zs : List Int} {e : Int} {k : Nat} (h : RiseTo zs e k) (h0 : 0 ≤ zs.getD k 0) (h1 : zs.getD k 0 < e) (h2 : 0 < k → zs.getD (k - 1) 0 < zs.getD k 0) : RiseTo zs e (k + 1) := fun i hi => by
  by_cases q : i = k
  · subst q; exact ⟨h0, h1, h2⟩
  · exact h i (by omega)
/-- What is the least that may come next. -/
def nextL (zs : List Int) (k : Nat) : Int := if k = 0 then 0 else zs.getD (k - 1) 0 + 1
theorem nextL_zero (zs : List Int) : nextL zs 0 = 0 := rfl
theorem nextL_succ (zs : List Int) (k : Nat) : nextL zs (k + 1) = zs.getD k 0 + 1 := by simp [nextL]
theorem nextL_pos {zs : List Int} {k : Nat} (h : 0 < k) : nextL zs k = zs.getD (k - 1) 0 + 1 := if_neg (by omega)
theorem nextL_nonneg {zs : List Int} {e : Int} {k : Nat} (h : RiseTo zs e k) : 0 ≤ nextL zs k := by
  unfold nextL
  split
  · exact Int.le_refl _
  · have := (h (k - 1) (by omega)).1; omega
theorem nextL_le {zs : List Int} {e : Int} {k : Nat} (h : RiseTo zs e k) (he : 0 ≤ e) : nextL zs k ≤ e := by
  unfold nextL
  split
  · exact he
  · have := (h (k - 1) (by omega)).2.1; omega
end Go.Proofs.Ythomonidconmcaa.math
namespace Go.Proofs.Ythomonidconmcaa.walks
open Go.RowKit Go.Proofs.Ythomonidconmcaa.math Go.Proofs.Ythomonidconmcaa.ints
set_option linter.unusedVariables false
set_option maxRecDepth 100000

theorem impl_between (lo n hi : Int) (W : World) : Calls Try.prog 50 #[.int .i64 lo, .int .i64 n, .int .i64 hi] W fun e W' => e = .returned (.bool (inR n lo hi)) ∧ W' = W := by
  by_cases h0 : lo ≤ n
  rotate_left
  · have k0 : n < lo := by omega
    have d0 : decide (lo ≤ n) = false := decide_eq_false h0
    rw [inR_lt k0]
    clear h0
    go_enter Try.func50, Try.ntmps50
    go_wp2
    go_ret
    exact ⟨rfl, rfl⟩
  by_cases h1 : n ≤ hi
  rotate_left
  · have k1 : hi < n := by omega
    have d1 : decide (n ≤ hi) = false := decide_eq_false (by omega)
    rw [inR_gt k1]
    clear h1
    go_enter Try.func50, Try.ntmps50
    go_wp2
    go_ret
    exact ⟨rfl, rfl⟩
  rw [inR_mk h0 h1]
  have d1 : decide (n ≤ hi) = true := decide_eq_true (by omega)
  have d0 : decide (lo ≤ n) = true := decide_eq_true h0
  go_enter Try.func50, Try.ntmps50
  go_wp2
  go_ret
  exact ⟨rfl, rfl⟩
theorem between_quiet {n lo hi : Int} {b : Bool} (h : inR n lo hi = b) (W : World) : Calls Try.prog 50 #[.int .i64 lo, .int .i64 n, .int .i64 hi] W fun e W' => e = .returned (.bool b) ∧ W' = W := by
  have := impl_between lo n hi W
  rw [h] at this
  exact this
set_option maxHeartbeats 1000000 in
theorem impl_rising (a : Option Addr) (len cap : Nat) (e : Int) (zs : List Int) (W : World) (hz : Hid (zs.length = len)) (hlen : len ≤ 1048576) (he0 : 0 ≤ e) (he : e ≤ 1048576) (h : Hid (Ints W a zs)) :
    Calls Try.prog 51 #[.slice a len cap, .int .i64 e] W fun r W' => r = .returned (.bool (riseB zs e)) ∧ W' = W := by
  go_enter Try.func51, Try.ntmps51
  go_wp2
  go_loop [5, 10] (fun vl vi => ∃ k : Nat, k ≤ len ∧ vi = .int .i64 (k : Int) ∧ vl = .int .i64 (nextL zs k) ∧ Hid (RiseTo zs e k)) (fun _ vi => len - (intOf vi).toNat)
  case atStart => exact ⟨0, Nat.zero_le _, rfl, rfl, rise_nil _ _⟩
  case round =>
    obtain ⟨k, hk, rfl, rfl, HR⟩ := hrel
    by_cases hlt : k < len
    rotate_left
    · have HT : Hid (riseB zs e = true) := rise_yes (by rw [hz.out, show len = k by omega]; exact HR.out)
      go_wp2
      go_ret
      exact ⟨by rw [HT.out]; rfl, rfl⟩
    have hltI : (k : Int) < (len : Int) := by omega
    obtain ⟨b, off, ha, hc⟩ := h.out.at (Below.refl _ _) (k := k) (by rw [hz.out]; exact hlt)
    subst ha
    have HNO : Hid ((zs.getD k 0 < 0 ∨ e ≤ zs.getD k 0 ∨ (0 < k ∧ zs.getD k 0 ≤ zs.getD (k - 1) 0)) → riseB zs e = false) := fun q => rise_no (by rw [hz.out]; exact hlt) q
    have HNX : Hid (0 ≤ zs.getD k 0 → zs.getD k 0 < e → (0 < k → zs.getD (k - 1) 0 < zs.getD k 0) → RiseTo zs e (k + 1)) := fun q0 q1 q2 => rise_next HR.out q0 q1 q2
    have HNL : Hid (nextL zs (k + 1) = zs.getD k 0 + 1) := nextL_succ _ _
    have n0 := nextL_nonneg HR.out
    have HNP : Hid (0 < k → nextL zs k = zs.getD (k - 1) 0 + 1) := nextL_pos
    have HNQ : Hid (k = 0 → nextL zs k = 0) := fun q => by rw [q]; rfl
    obtain ⟨z, hzz⟩ : ∃ z, Hid (zs.getD k 0 = z) := ⟨_, rfl⟩
    rw [hzz.out] at hc HNO HNX HNL
    obtain ⟨l, hll⟩ : ∃ l, Hid (nextL zs k = l) := ⟨_, rfl⟩
    rw [hll.out] at n0 HNP HNQ ⊢
    by_cases q0 : z < l
    · have HT : Hid (riseB zs e = false) := by
        refine HNO.out ?_
        by_cases k0 : k = 0
        · have := HNQ.out k0; exact Or.inl (by omega)
        · have := HNP.out (by omega); exact Or.inr (Or.inr ⟨by omega, by omega⟩)
      have d0 : decide (z < l) = true := decide_eq_true q0
      go_wp2
      go_ret
      exact ⟨by rw [HT.out]; rfl, rfl⟩
    have q0' : l ≤ z := by omega
    have d0 : decide (z < l) = false := decide_eq_false q0
    clear q0
    by_cases q1 : e ≤ z
    · have HT : Hid (riseB zs e = false) := HNO.out (Or.inr (Or.inl q1))
      have d1 : decide (z ≥ e) = true := decide_eq_true q1
      go_wp2
      go_ret
      exact ⟨by rw [HT.out]; rfl, rfl⟩
    have q1' : z < e := by omega
    have d1 : decide (z ≥ e) = false := decide_eq_false q1
    clear q1
    have HN : Hid (RiseTo zs e (k + 1)) := HNX.out (by omega) q1' (fun k0 => by have := HNP.out k0; omega)
    go_wp2
    go_round
    case rel => exact ⟨k + 1, by omega, by go_num, by rw [HNL.out], HN⟩
    case measure => simp [intOf]; omega
theorem rising_quiet {a : Option Addr} {len cap : Nat} {e : Int} {zs : List Int} {b : Bool} (W : World) (hz : Hid (zs.length = len)) (hlen : len ≤ 1048576) (he0 : 0 ≤ e) (he : e ≤ 1048576) (h : Ints W a zs) (hb : riseB zs e = b) :
    Calls Try.prog 51 #[.slice a len cap, .int .i64 e] W fun r W' => r = .returned (.bool b) ∧ W' = W := by
  have := impl_rising a len cap e zs W hz hlen he0 he h
  rw [hb] at this
  exact this
end Go.Proofs.Ythomonidconmcaa.walks
