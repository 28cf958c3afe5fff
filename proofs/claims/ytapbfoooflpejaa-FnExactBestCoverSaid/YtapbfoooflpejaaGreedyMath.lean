/-
  The greatest pattern that fits at a place.
-/
import Derived.Test.YtapbfoooflpejaaPiecesMath
import Derived.Test.YtapbfoooflpejaaPatImpl
namespace Go.Proofs.Ytapbfoooflpejaa.math
open Go.Proofs.Ytapbfoooflpejaa.walks

/-- How many kinds of a pattern are told. -/
def nmP (f : Nat → Pv) (k : Nat) : Nat := namedTo (f k).zs (f k).zs.length
/-- The greatest of the first k patterns that fit, and how many kinds it tells; 0 for none. -/
def grTo (t : List Int) (f : Nat → Pv) (a : Nat) : Nat → Nat × Nat
  | 0 => (0, 0)
  | k + 1 => if (fitL t (f k).zs a).isSome ∧ (grTo t f a k).2 < nmP f k then (k, nmP f k) else grTo t f a k
theorem gr_yes {t : List Int} {f : Nat → Pv} {a k : Nat} (h1 : (fitL t (f k).zs a).isSome) (h2 : (grTo t f a k).2 < nmP f k) : grTo t f a (k + 1) = (k, nmP f k) := if_pos ⟨h1, h2⟩
theorem gr_no1 {t : List Int} {f : Nat → Pv} {a k : Nat} (h : fitL t (f k).zs a = none) : grTo t f a (k + 1) = grTo t f a k := if_neg (fun q => by rw [h] at q; cases q.1)
theorem gr_no2 {t : List Int} {f : Nat → Pv} {a k : Nat} (h : nmP f k ≤ (grTo t f a k).2) : grTo t f a (k + 1) = grTo t f a k := if_neg (fun q => by omega)
theorem gr_inv (t : List Int) (f : Nat → Pv) (a : Nat) : ∀ k, 0 < (grTo t f a k).2 → (grTo t f a k).1 < k ∧ (fitL t (f (grTo t f a k).1).zs a).isSome ∧ (grTo t f a k).2 = nmP f (grTo t f a k).1
  | 0, h => by simp [grTo] at h
  | k + 1, h => by
    by_cases q : (fitL t (f k).zs a).isSome ∧ (grTo t f a k).2 < nmP f k
    · rw [gr_yes q.1 q.2]
      exact ⟨by show k < k + 1; omega, q.1, rfl⟩
    · have e : grTo t f a (k + 1) = grTo t f a k := if_neg q
      rw [e] at h ⊢
      have := gr_inv t f a k h
      exact ⟨by omega, this.2⟩
/-- The greedy choice. -/
def chG (t : List Int) (f : Nat → Pv) (n a : Nat) : Option Nat := if 0 < (grTo t f a n).2 then some (grTo t f a n).1 else none
theorem chG_in {t : List Int} {f : Nat → Pv} {n : Nat} : ChB (chG t f n) n := fun a k h => by
  unfold chG at h
  split at h
  · rename_i q
    cases h
    exact (gr_inv t f a n q).1
  · cases h
theorem chG_fit {t : List Int} {f : Nat → Pv} {n a k : Nat} (h : chG t f n a = some k) : ∃ hs, fitL t (f k).zs a = some hs := by
  unfold chG at h
  split at h
  · rename_i q
    cases h
    exact Option.isSome_iff_exists.1 (gr_inv t f a n q).2.1
  · cases h
theorem named_pos {zs : List Int} (h : zs.getD 0 0 ≠ 0) : ∀ k, 0 < k → 0 < namedTo zs k
  | 0, h0 => by omega
  | 1, _ => by simp only [namedTo]; rw [if_neg h]; omega
  | k + 2, _ => by
    have := named_pos h (k + 1) (by omega)
    simp only [namedTo] at this ⊢
    omega
end Go.Proofs.Ytapbfoooflpejaa.math
