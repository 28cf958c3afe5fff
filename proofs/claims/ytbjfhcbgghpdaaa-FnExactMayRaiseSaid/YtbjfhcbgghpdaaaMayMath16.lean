/-
  The codes that a tree may raise.
-/
import Derived.Test.YtbjfhcbgghpdaaaProg
import Derived.Test.YtbjfhcbgghpdaaaMagMath
import Derived.Test.YtbjfhcbgghpdaaaCodeMath
import Derived.Test.YtbjfhcbgghpdaaaRunMath
import Derived.Test.YtbjfhcbgghpdaaaNamesMath
import Derived.Test.YtbjfhcbgghpdaaaTreeMath16
import Derived.WalkKit
namespace Go.Proofs.Ytbjfhcbgghpdaaa.math
open Go.RowKit
set_option linter.unusedVariables false

/-- Whether a catch of n is for a code. -/
def catchI (n x : Int) : Bool := decide (n = 0) || decide (n = x)
def wo (m : Nat → Bool) (n : Int) (c : Nat) : Bool := m c && !catchI n c
def anyC (m : Nat → Bool) (n : Int) : Nat → Bool
  | 0 => false
  | k + 1 => anyC m n k || (m k && catchI n k)
theorem anyC_no {m : Nat → Bool} {n : Int} : ∀ {k : Nat}, anyC m n k = false → ∀ c, c < k → wo m n c = m c
  | 0, _, c, hc => absurd hc (Nat.not_lt_zero _)
  | k + 1, h, c, hc => by
    unfold anyC at h
    simp only [Bool.or_eq_false_iff] at h
    by_cases e : c = k
    · subst e
      unfold wo
      cases h1 : m c
      · rfl
      · have := h.2; rw [h1, Bool.true_and] at this; rw [this]; rfl
    · exact anyC_no h.1 c (by omega)
theorem anyC_yes {m : Nat → Bool} {n : Int} : ∀ {k : Nat}, anyC m n k = true → ∃ c, c < k ∧ wo m n c = false ∧ m c = true
  | 0, h => by cases h
  | k + 1, h => by
    unfold anyC at h
    simp only [Bool.or_eq_true, Bool.and_eq_true] at h
    rcases h with h | ⟨h1, h2⟩
    · obtain ⟨c, hc, q⟩ := anyC_yes h
      exact ⟨c, by omega, q⟩
    · exact ⟨k, by omega, by unfold wo; rw [h1, h2]; rfl, h1⟩
/-- Whether a tree may raise a code. -/
def mayX : XT → Nat → Bool
  | .leaf k n, c => decide (k = 2) && decide (n = (c : Int))
  | .one k n a, c => decide (0 < n) && mayX a c
  | .two k n a b, c => if k = 4 then wo (mayX a) n c || (anyC (mayX a) n 10 && mayX b c) else mayX a c || mayX b c
theorem may_zero : ∀ {t : XT}, WfX t → mayX t 0 = false
  | .leaf k n, h => by
    unfold mayX
    by_cases hk : k = 2
    · subst hk
      have := inR_out (show inR n 1 9 = true from h.1)
      simp; omega
    · simp [hk]
  | .one k n a, h => by unfold mayX; rw [may_zero h.2.2, Bool.and_false]
  | .two k n a b, h => by
    unfold mayX wo
    rw [may_zero h.2.2.1, may_zero h.2.2.2]
    split <;> simp
theorem risingTo_congr {f g : Nat → Bool} : ∀ {k : Nat}, (∀ c, c < k → f c = g c) → risingTo f k = risingTo g k
  | 0, _ => rfl
  | k + 1, h => by
    unfold risingTo
    rw [risingTo_congr (fun c hc => h c (by omega)), h k (by omega)]
theorem rising_filter (m : Nat → Bool) (n : Int) : ∀ k, (risingTo m k).filter (fun x => !catchI n x) = risingTo (wo m n) k
  | 0 => rfl
  | k + 1 => by
    unfold risingTo
    rw [List.filter_append, rising_filter m n k]
    congr 1
    unfold wo
    cases h1 : m k <;> cases h2 : catchI n k <;> simp [h2]
theorem rising_any (m : Nat → Bool) (n : Int) : ∀ k, (risingTo m k).any (catchI n) = anyC m n k
  | 0 => rfl
  | k + 1 => by
    unfold risingTo anyC
    rw [List.any_append, rising_any m n k]
    congr 1
    cases h1 : m k <;> simp
def row10 (b0 b1 b2 b3 b4 b5 b6 b7 b8 b9 : Bool) : List Int :=
  ((((((((((([] : List Int) ++ (if b0 then [0] else [])) ++ (if b1 then [1] else [])) ++ (if b2 then [2] else [])) ++ (if b3 then [3] else [])) ++ (if b4 then [4] else [])) ++ (if b5 then [5] else [])) ++ (if b6 then [6] else [])) ++ (if b7 then [7] else [])) ++ (if b8 then [8] else [])) ++ (if b9 then [9] else []))
theorem rising_row10 (f : Nat → Bool) : risingTo f 10 = row10 (f 0) (f 1) (f 2) (f 3) (f 4) (f 5) (f 6) (f 7) (f 8) (f 9) := rfl
theorem put_row10 : ∀ (b0 b1 b2 b3 b4 b5 b6 b7 b8 b9 : Bool) (n : Fin 10), putL (row10 b0 b1 b2 b3 b4 b5 b6 b7 b8 b9) (n.val : Int) = row10 (b0 || 0 == n.val) (b1 || 1 == n.val) (b2 || 2 == n.val) (b3 || 3 == n.val) (b4 || 4 == n.val) (b5 || 5 == n.val) (b6 || 6 == n.val) (b7 || 7 == n.val) (b8 || 8 == n.val) (b9 || 9 == n.val) := by decide +kernel
theorem put_rising10 (f : Nat → Bool) {n : Nat} (h : n < 10) : putL (risingTo f 10) (n : Int) = risingTo (fun i => f i || i == n) 10 := by
  rw [rising_row10, rising_row10]
  exact put_row10 _ _ _ _ _ _ _ _ _ _ ⟨n, h⟩
/-- A list's numbers put in, one after the other. -/
def putsL (l zs : List Int) : List Int := zs.foldl putL l
theorem puts_rising (f g : Nat → Bool) : ∀ k, k ≤ 10 → putsL (risingTo f 10) (risingTo g k) = risingTo (fun i => f i || (decide (i < k) && g i)) 10
  | 0, _ => risingTo_congr (fun c _ => by simp)
  | k + 1, hk => by
    have ih := puts_rising f g k (by omega)
    unfold putsL at ih ⊢
    rw [show risingTo g (k + 1) = risingTo g k ++ (if g k then [(k : Int)] else []) from rfl, List.foldl_append, ih]
    cases h : g k
    · refine risingTo_congr (fun c _ => ?_)
      by_cases e : c = k
      · subst e; simp [h]
      · rw [show decide (c < k + 1) = decide (c < k) by congr 1; apply propext; omega]
    · show putL _ _ = _
      rw [put_rising10 _ (show k < 10 by omega)]
      refine risingTo_congr (fun c _ => ?_)
      by_cases e : c = k
      · subst e; simp [h]
      · rw [show decide (c < k + 1) = decide (c < k) by congr 1; apply propext; omega]; simp [e]
theorem puts_all (f g : Nat → Bool) : putsL (risingTo f 10) (risingTo g 10) = risingTo (fun i => f i || g i) 10 := by
  rw [puts_rising f g 10 (Nat.le_refl _)]
  exact risingTo_congr (fun c hc => by rw [decide_eq_true hc, Bool.true_and])
theorem putL_more16 (l : List Int) (n : Int) : (putL l n).length ≤ l.length + 1 := by
  unfold putL
  split
  · omega
  · have := putK_le l n; simp; omega
theorem puts_len (l : List Int) : ∀ zs, (putsL l zs).length ≤ l.length + zs.length
  | [] => Nat.le_refl _
  | z :: zs => by
    have := puts_len (putL l z) zs
    have := putL_more16 l z
    unfold putsL at *
    simp only [List.foldl_cons, List.length_cons]
    omega
theorem take_one {zs : List Int} {k : Nat} (h : k < zs.length) : zs.take (k + 1) = zs.take k ++ [zs.getD k 0] := by
  rw [List.take_add_one, List.getElem?_eq_getElem h]
  simp [List.getD, List.getElem?_eq_getElem h]
theorem puts_next {l zs : List Int} {k : Nat} (h : k < zs.length) : putsL l (zs.take (k + 1)) = putL (putsL l (zs.take k)) (zs.getD k 0) := by
  rw [take_one h]; unfold putsL; rw [List.foldl_append]; rfl
end Go.Proofs.Ytbjfhcbgghpdaaa.math
