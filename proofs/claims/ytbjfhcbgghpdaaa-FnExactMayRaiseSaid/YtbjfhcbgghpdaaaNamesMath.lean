/-
  Plain facts on names that are set and needed: rising lists of names, and what is put into one: no Go program in sight.
-/
import Derived.Test.YtbjfhcbgghpdaaaMagMath
import Derived.Test.YtbjfhcbgghpdaaaCodeMath
import Derived.Test.YtbjfhcbgghpdaaaRunMath
namespace Go.Proofs.Ytbjfhcbgghpdaaa.math
open Go
set_option linter.unusedVariables false

/-- The names below k that are in a set, rising. -/
def risingTo (f : Nat → Bool) : Nat → List Int
  | 0 => []
  | k + 1 => risingTo f k ++ (if f k then [(k : Int)] else [])
theorem rising_len (f : Nat → Bool) : ∀ k, (risingTo f k).length ≤ k
  | 0 => Nat.le_refl _
  | k + 1 => by
    have := rising_len f k
    simp only [risingTo, List.length_append]
    split <;> simp <;> omega
/-- How many of a list stand ahead of n, and n put into its place. -/
def putK (l : List Int) (n : Int) : Nat := (l.takeWhile (fun x => decide (x < n))).length
def putL (l : List Int) (n : Int) : List Int := if l[putK l n]? = some n then l else l.take (putK l n) ++ [n] ++ l.drop (putK l n)
theorem putK_le : ∀ (l : List Int) (n : Int), putK l n ≤ l.length
  | [], n => Nat.le_refl _
  | x :: l, n => by
    unfold putK
    rw [List.takeWhile_cons]
    split
    · have := putK_le l n
      unfold putK at this
      simp; exact this
    · simp
theorem putK_lt : ∀ (l : List Int) (n : Int) (k : Nat), k < putK l n → l.getD k 0 < n
  | [], n, k, h => by unfold putK at h; simp at h
  | x :: l, n, k, h => by
    unfold putK at h
    rw [List.takeWhile_cons] at h
    split at h
    · next hx =>
      cases k with
      | zero => simpa using hx
      | succ k =>
        have := putK_lt l n k (by unfold putK; simpa using h)
        simpa using this
    · simp at h
theorem putK_ge : ∀ (l : List Int) (n : Int), putK l n < l.length → n ≤ l.getD (putK l n) 0
  | [], n, h => by simp at h
  | x :: l, n, h => by
    unfold putK at h ⊢
    rw [List.takeWhile_cons] at h ⊢
    split
    · next hx =>
      rw [if_pos hx] at h
      have := putK_ge l n (by unfold putK; simpa using h)
      unfold putK at this
      simpa using this
    · next hx => simpa using hx
theorem putL_same {l : List Int} {n : Int} (h : putK l n < l.length) (e : l.getD (putK l n) 0 = n) : putL l n = l := by
  unfold putL
  rw [if_pos]
  rw [List.getElem?_eq_getElem h]
  simp only [List.getD, List.getElem?_eq_getElem h, Option.getD_some] at e
  rw [e]
theorem putL_new {l : List Int} {n : Int} (h : putK l n < l.length → l.getD (putK l n) 0 ≠ n) : putL l n = l.take (putK l n) ++ [n] ++ l.drop (putK l n) := by
  unfold putL
  rw [if_neg]
  intro e
  obtain ⟨hl, e'⟩ := List.getElem?_eq_some_iff.1 e
  apply h hl
  simp [List.getD, List.getElem?_eq_getElem hl, e']
def row8 (b0 b1 b2 b3 b4 b5 b6 b7 : Bool) : List Int :=
  ((((((((([] : List Int) ++ (if b0 then [0] else [])) ++ (if b1 then [1] else [])) ++ (if b2 then [2] else [])) ++ (if b3 then [3] else [])) ++ (if b4 then [4] else [])) ++ (if b5 then [5] else [])) ++ (if b6 then [6] else [])) ++ (if b7 then [7] else []))
theorem rising_row (f : Nat → Bool) : risingTo f 8 = row8 (f 0) (f 1) (f 2) (f 3) (f 4) (f 5) (f 6) (f 7) := rfl
theorem put_row : ∀ (b0 b1 b2 b3 b4 b5 b6 b7 : Bool) (n : Fin 8), putL (row8 b0 b1 b2 b3 b4 b5 b6 b7) (n.val : Int) = row8 (b0 || 0 == n.val) (b1 || 1 == n.val) (b2 || 2 == n.val) (b3 || 3 == n.val) (b4 || 4 == n.val) (b5 || 5 == n.val) (b6 || 6 == n.val) (b7 || 7 == n.val) := by decide +kernel
theorem put_rising (f : Nat → Bool) {n : Nat} (h : n < 8) : putL (risingTo f 8) (n : Int) = risingTo (fun i => f i || i == n) 8 := by
  rw [rising_row, rising_row]
  exact put_row _ _ _ _ _ _ _ _ ⟨n, h⟩
theorem has_row : ∀ (b0 b1 b2 b3 b4 b5 b6 b7 : Bool) (n : Fin 8), (row8 b0 b1 b2 b3 b4 b5 b6 b7).contains (n.val : Int) = (b0 && 0 == n.val || b1 && 1 == n.val || b2 && 2 == n.val || b3 && 3 == n.val || b4 && 4 == n.val || b5 && 5 == n.val || b6 && 6 == n.val || b7 && 7 == n.val) := by decide +kernel
theorem has_rising (f : Nat → Bool) {n : Nat} (h : n < 8) : (risingTo f 8).contains (n : Int) = f n := by
  rw [rising_row]
  have := has_row (f 0) (f 1) (f 2) (f 3) (f 4) (f 5) (f 6) (f 7) ⟨n, h⟩
  rw [this]
  match n, h with
  | 0, _ => simp
  | 1, _ => simp
  | 2, _ => simp
  | 3, _ => simp
  | 4, _ => simp
  | 5, _ => simp
  | 6, _ => simp
  | 7, _ => simp
  | n + 8, h => omega
/-- The names that the first k steps set. -/
def setTo (zs : List Int) : Nat → Nat → Bool
  | 0, _ => false
  | k + 1, i => setTo zs k i || (!(zs.getD (k * 5) 0 == 8) && i == (zs.getD (k * 5 + 1) 0).toNat)
/-- What a step looks at. -/
def usesL (o a b : Int) : List Int := if o = 1 then [] else if 3 ≤ o ∧ o ≤ 7 then [a, b] else [a]
def needTo (zs : List Int) : Nat → Nat → Bool
  | 0, _ => false
  | k + 1, i => needTo zs k i || ((usesL (zs.getD (k * 5) 0) (zs.getD (k * 5 + 2) 0) (zs.getD (k * 5 + 3) 0)).contains (i : Int) && !setTo zs k i)
end Go.Proofs.Ytbjfhcbgghpdaaa.math
