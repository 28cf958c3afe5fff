/-
  Ranges behind code, as plain data.
-/
import Derived.Test.YtoeiijkomjlolabRangeMath
import Derived.Test.YtoeiijkomjlolabCodeMath
import Derived.Test.YtoeiijkomjlolabRunMath
import Derived.WalkKit
namespace Go.Proofs.Ytoeiijkomjlolab.math

def zeroR : Rv := ⟨false, 0, 0⟩
def wordR (n : Int) : Rv := ⟨false, n, n⟩
def setR (g : Nat → Rv) (k : Nat) (f : Rv) : Nat → Rv := fun i => if i = k then f else g i
theorem setR_same (g : Nat → Rv) (k : Nat) (f : Rv) : setR g k f k = f := if_pos rfl
theorem setR_other (g : Nat → Rv) {k i : Nat} (f : Rv) (h : i ≠ k) : setR g k f i = g i := if_neg h
def stepR (g : Nat → Rv) (o d a b n : Int) : Nat → Rv := if o = 1 then setR g d.toNat (wordR n) else if o = 2 then setR g d.toNat (g a.toNat) else if o = 8 then g else setR g d.toNat (twoR o (g a.toNat) (g b.toNat))
def runR (zs : List Int) (g : Nat → Rv) : Nat → Nat → Rv
  | 0 => g
  | k + 1 => stepR (runR zs g k) (zs.getD (k * 5) 0) (zs.getD (k * 5 + 1) 0) (zs.getD (k * 5 + 2) 0) (zs.getD (k * 5 + 3) 0) (zs.getD (k * 5 + 4) 0)
def rangesB (g : Nat → Rv) (n : Nat) : Bool := decide (n = 8 ∧ ∀ i, i < n → (g i).good = true)
theorem ranges_out {g : Nat → Rv} {n : Nat} (h : rangesB g n = true) : n = 8 ∧ ∀ i, i < n → (g i).good = true := of_decide_eq_true h
theorem ranges_mk {g : Nat → Rv} {n : Nat} (h : n = 8) (k : ∀ i, i < n → (g i).good = true) : rangesB g n = true := decide_eq_true ⟨h, k⟩
theorem ranges_no {g : Nat → Rv} {n : Nat} (h : n ≠ 8) : rangesB g n = false := decide_eq_false (fun ⟨k, _⟩ => h k)
theorem ranges_bad {g : Nat → Rv} {n i : Nat} (hi : i < n) (h : (g i).good = false) : rangesB g n = false := decide_eq_false (fun ⟨_, k⟩ => by rw [k i hi] at h; cases h)
theorem good_word {n : Int} (h0 : 0 ≤ n) (h1 : n ≤ 65535) : (wordR n).good = true := full_good h0 (Int.le_refl _) h1
theorem good_set {g : Nat → Rv} {j : Nat} {f : Rv} (h : ∀ i, i < 8 → (g i).good = true) (hf : f.good = true) : ∀ i, i < 8 → (setR g j f i).good = true := by
  intro i hi
  by_cases e : i = j
  · subst e; rw [setR_same]; exact hf
  · rw [setR_other g f e]; exact h i hi
theorem good_step {g : Nat → Rv} {o d a b n : Int} (h : ∀ i, i < 8 → (g i).good = true) (hg : goodI o d a b n = true) : ∀ i, i < 8 → (stepR g o d a b n i).good = true := by
  unfold stepR
  rcases good_cases hg with ⟨rfl, ⟨d0, d1⟩, n0, n1⟩ | ⟨rfl, ⟨d0, d1⟩, x0, x1⟩ | ⟨rfl, x0, x1⟩ | ⟨⟨o3, o7⟩, ⟨d0, d1⟩, ⟨x0, x1⟩, y0, y1⟩
  · rw [if_pos rfl]; exact good_set h (good_word n0 n1)
  · rw [if_neg (by omega), if_pos rfl]; exact good_set h (h _ (by omega))
  · rw [if_neg (by omega), if_neg (by omega), if_pos rfl]; exact h
  · rw [if_neg (by omega), if_neg (by omega), if_neg (by omega)]; exact good_set h (good_twoR (h _ (by omega)) (h _ (by omega)))
theorem good_run {zs : List Int} {g : Nat → Rv} {len : Nat} (h : ∀ i, i < 8 → (g i).good = true) (hg : ∀ k, k < len → stepB zs k = true) : ∀ k, k ≤ len → ∀ i, i < 8 → (runR zs g k i).good = true
  | 0, _ => h
  | k + 1, hk => good_step (good_run h hg k (by omega)) (hg k (by omega))
end Go.Proofs.Ytoeiijkomjlolab.math
