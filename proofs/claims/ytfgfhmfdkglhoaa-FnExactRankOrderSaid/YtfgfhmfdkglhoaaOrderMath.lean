/-
  Tasks by falling rank: one is put among those that are sorted, from the left or from the right, in the same place.
-/
import Derived.Test.YtfgfhmfdkglhoaaTaskMath
namespace Go.Proofs.Ytfgfhmfdkglhoaa.math
open Go.Proofs.Ytfgfhmfdkglhoaa.walks
set_option linter.unusedVariables false

/-- How many stand ahead of k: the first ones whose rank is not less. -/
def insP (R : Nat → Int) (l : List Nat) (k : Nat) : Nat := (l.takeWhile (fun x => decide (R k ≤ R x))).length
def insL (l : List Nat) (p k : Nat) : List Nat := l.take p ++ k :: l.drop p
def ordTo (R : Nat → Int) : Nat → List Nat
  | 0 => []
  | k + 1 => insL (ordTo R k) (insP R (ordTo R k) k) k
theorem insP_le (R : Nat → Int) (k : Nat) : ∀ l, insP R l k ≤ l.length
  | [] => Nat.le_refl _
  | x :: l => by
    have := insP_le R k l
    unfold insP at *
    simp only [List.takeWhile_cons]
    split <;> simp <;> omega
theorem insP_ge (R : Nat → Int) (k : Nat) : ∀ (l : List Nat) (i : Nat), i < insP R l k → R k ≤ R (l.getD i 0)
  | [], i, h => by simp [insP] at h
  | x :: l, i, h => by
    unfold insP at h
    simp only [List.takeWhile_cons] at h
    split at h
    · rename_i q
      cases i with
      | zero => simpa using q
      | succ i =>
        simp only [List.length_cons] at h
        simpa using insP_ge R k l i (by unfold insP; omega)
    · simp at h
theorem insP_lt (R : Nat → Int) (k : Nat) : ∀ (l : List Nat), insP R l k < l.length → R (l.getD (insP R l k) 0) < R k
  | [], h => by simp at h
  | x :: l, h => by
    by_cases q : R k ≤ R x
    · have e : insP R (x :: l) k = insP R l k + 1 := by unfold insP; simp [q]
      rw [e] at h ⊢
      simpa using insP_lt R k l (by simpa using h)
    · have e : insP R (x :: l) k = 0 := by unfold insP; simp [q]
      rw [e]
      simp
      omega
/-- Told from the left. -/
theorem insP_left {R : Nat → Int} {l : List Nat} {k p : Nat} (hp : p ≤ l.length) (h : ∀ i, i < p → R k ≤ R (l.getD i 0)) (h2 : p = l.length ∨ R (l.getD p 0) < R k) : p = insP R l k := by
  have a := insP_le R k l
  rcases Nat.lt_trichotomy p (insP R l k) with q | q | q
  · have := insP_ge R k l p q
    rcases h2 with e | e <;> omega
  · exact q
  · have := insP_lt R k l (by omega)
    have := h _ q
    omega
/-- The ranks fall. -/
def Falls (R : Nat → Int) (l : List Nat) : Prop := ∀ i j, i ≤ j → j < l.length → R (l.getD j 0) ≤ R (l.getD i 0)
/-- Told from the right. -/
theorem insP_right {R : Nat → Int} {l : List Nat} {k j : Nat} (hf : Falls R l) (hj : j ≤ l.length) (h : ∀ i, j ≤ i → i < l.length → R (l.getD i 0) < R k) (h2 : j = 0 ∨ R k ≤ R (l.getD (j - 1) 0)) : j = insP R l k := by
  have a := insP_le R k l
  rcases Nat.lt_trichotomy j (insP R l k) with q | q | q
  · have := insP_ge R k l j q
    have := h j (Nat.le_refl _) (by omega)
    omega
  · exact q
  · have h1 := insP_lt R k l (by omega)
    have h3 := hf (insP R l k) (j - 1) (by omega) (by omega)
    rcases h2 with e | e <;> omega
theorem insL_len {l : List Nat} {p k : Nat} (hp : p ≤ l.length) : (insL l p k).length = l.length + 1 := by
  unfold insL
  simp
  omega
theorem insL_at {l : List Nat} {p k : Nat} (hp : p ≤ l.length) (x : Nat) : (insL l p k).getD x 0 = if x < p then l.getD x 0 else if x = p then k else l.getD (x - 1) 0 := by
  unfold insL
  have hl : (l.take p).length = p := by rw [List.length_take]; omega
  by_cases q : x < p
  · rw [if_pos q]
    simp only [List.getD]
    rw [List.getElem?_append_left (by omega), List.getElem?_take_of_lt q]
  · rw [if_neg q]
    by_cases e : x = p
    · subst e
      rw [if_pos rfl]
      simp only [List.getD]
      rw [List.getElem?_append_right (by omega), hl, Nat.sub_self]
      rfl
    · rw [if_neg e]
      simp only [List.getD]
      rw [List.getElem?_append_right (by omega), hl, show x - p = (x - 1 - p) + 1 by omega, List.getElem?_cons_succ, List.getElem?_drop, show p + (x - 1 - p) = x - 1 by omega]
theorem ord_len (R : Nat → Int) : ∀ k, (ordTo R k).length = k
  | 0 => rfl
  | k + 1 => by simp only [ordTo]; rw [insL_len (insP_le _ _ _), ord_len R k]
theorem ord_lt (R : Nat → Int) : ∀ k i, i < k → (ordTo R k).getD i 0 < k
  | 0, i, h => by omega
  | k + 1, i, h => by
    have hl := ord_len R k
    have hp := insP_le R k (ordTo R k)
    simp only [ordTo]
    rw [insL_at hp]
    split
    · have := ord_lt R k i (by omega); omega
    · split
      · omega
      · have := ord_lt R k (i - 1) (by omega); omega
theorem ord_falls (R : Nat → Int) : ∀ k, Falls R (ordTo R k)
  | 0 => fun i j h1 h2 => by simp [ordTo] at h2
  | k + 1 => fun i j h1 h2 => by
    have hl := ord_len R k
    have hp := insP_le R k (ordTo R k)
    have ih := ord_falls R k
    have hge := insP_ge R k (ordTo R k)
    rw [ord_len] at h2
    have hlt : ∀ x, insP R (ordTo R k) k ≤ x → x < k → R ((ordTo R k).getD x 0) < R k := fun x q1 q2 => by
      have e1 := insP_lt R k (ordTo R k) (by omega)
      have e2 := ih _ x q1 (by omega)
      omega
    simp only [ordTo]
    rw [insL_at hp, insL_at hp]
    generalize insP R (ordTo R k) k = p at *
    by_cases a1 : j < p
    · rw [if_pos a1, if_pos (by omega)]
      exact ih i j h1 (by omega)
    · rw [if_neg a1]
      by_cases a2 : j = p
      · rw [if_pos a2]
        by_cases b1 : i < p
        · rw [if_pos b1]; exact hge i b1
        · rw [if_neg b1, if_pos (by omega)]; exact Int.le_refl _
      · rw [if_neg a2]
        by_cases b1 : i < p
        · rw [if_pos b1]
          have e1 := hlt (j - 1) (by omega) (by omega)
          have e2 := hge i b1
          omega
        · rw [if_neg b1]
          by_cases b2 : i = p
          · rw [if_pos b2]
            exact Int.le_of_lt (hlt (j - 1) (by omega) (by omega))
          · rw [if_neg b2]
            exact ih (i - 1) (j - 1) (by omega) (by omega)
/-- The program's row: the first ones sorted, i on its way at j. -/
def inS (l : List Nat) (j i : Nat) : Nat → Nat := fun x => if x < j then l.getD x 0 else if x = j then i else if x ≤ i then l.getD (x - 1) 0 else x
/-- .. between two rounds. -/
def rowS (R : Nat → Int) (i : Nat) : Nat → Nat := fun x => if x < i then (ordTo R i).getD x 0 else x
theorem inS_start (R : Nat → Int) (i : Nat) : inS (ordTo R i) i i = rowS R i := by
  funext x
  unfold inS rowS
  split
  · rfl
  · split
    · omega
    · split
      · omega
      · rfl
theorem inS_end {R : Nat → Int} {i p : Nat} (hp : p = insP R (ordTo R i) i) : inS (ordTo R i) p i = rowS R (i + 1) := by
  have hl := ord_len R i
  have h1 : p ≤ (ordTo R i).length := by rw [hp]; exact insP_le _ _ _
  have h2 := insL_at (k := i) h1
  funext x
  unfold inS rowS
  have e : ordTo R (i + 1) = insL (ordTo R i) p i := by rw [hp]; rfl
  rw [e, h2 x]
  split
  · rw [if_pos (by omega)]
  · split
    · rw [if_pos (by omega)]
    · split
      · rw [if_pos (by omega)]
      · rw [if_neg (by omega)]
theorem inS_swap {l : List Nat} {j i : Nat} (hj : 0 < j) (hji : j ≤ i) (x : Nat) : inS l (j - 1) i x = if x = j then inS l j i (j - 1) else if x = j - 1 then inS l j i j else inS l j i x := by
  by_cases a : x = j
  · rw [if_pos a]
    unfold inS
    rw [if_neg (by omega), if_neg (by omega), if_pos (by omega), if_pos (by omega), a]
  · rw [if_neg a]
    by_cases b : x = j - 1
    · rw [if_pos b]
      unfold inS
      rw [if_neg (by omega), if_pos b, if_neg (by omega), if_pos rfl]
    · rw [if_neg b]
      unfold inS
      by_cases c : x < j - 1
      · rw [if_pos c, if_pos (by omega)]
      · rw [if_neg c, if_neg b, if_neg (show ¬ x < j by omega), if_neg a]
theorem inS_here (l : List Nat) (j i : Nat) : inS l j i j = i := by unfold inS; rw [if_neg (by omega), if_pos rfl]
theorem inS_prev {l : List Nat} {j i : Nat} (h : 0 < j) : inS l j i (j - 1) = l.getD (j - 1) 0 := by unfold inS; rw [if_pos (by omega)]
theorem inS_lt {R : Nat → Int} {j i n : Nat} (hj : j ≤ i) (hi : i < n) (x : Nat) (hx : x < n) : inS (ordTo R i) j i x < n := by
  unfold inS
  split
  · have := ord_lt R i x (by omega); omega
  · split
    · omega
    · split
      · have := ord_lt R i (x - 1) (by omega); omega
      · exact hx
theorem rowS_one (R : Nat → Int) (x : Nat) : rowS R 1 x = x := by
  unfold rowS
  split
  · have := ord_lt R 1 x (by omega); omega
  · rfl
theorem rowS_zero (R : Nat → Int) (x : Nat) : rowS R 0 x = x := by unfold rowS; rw [if_neg (by omega)]
/-- The order, as it is told. -/
def ordZ (R : Nat → Int) (n : Nat) : List Int := (ordTo R n).map (fun x : Nat => (x : Int))
theorem ordZ_len (R : Nat → Int) (n : Nat) : (ordZ R n).length = n := by unfold ordZ; rw [List.length_map, ord_len]
theorem ordZ_at {R : Nat → Int} {n i : Nat} (h : i < n) : (ordZ R n).getD i 0 = ((ordTo R n).getD i 0 : Int) := by
  unfold ordZ
  have := ord_len R n
  simp [List.getD, this, h]
end Go.Proofs.Ytfgfhmfdkglhoaa.math
