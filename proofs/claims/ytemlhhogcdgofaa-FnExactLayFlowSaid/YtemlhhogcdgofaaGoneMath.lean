/-
  How much goes straight on in a layout, and how much jumps; the place of each block.
-/
import Derived.Test.YtemlhhogcdgofaaEdgeMath
namespace Go.Proofs.Ytemlhhogcdgofaa.math
set_option linter.unusedVariables false

theorem pig : ∀ (n : Nat) (f : Nat → Nat), (∀ i, i < n + 1 → f i < n) → (∀ i j, i < n + 1 → j < n + 1 → f i = f j → i = j) → False
  | 0, f, h, _ => by have := h 0 (by omega); omega
  | n + 1, f, h, hi => by
    refine pig n (fun i => if f i = n then f (n + 1) else f i) (fun i hn => ?_) (fun i j hn hm e => ?_)
    · have h1 := h i (by omega); have h2 := h (n + 1) (by omega)
      show (if f i = n then f (n + 1) else f i) < n
      split
      · rename_i q
        have : f (n + 1) ≠ n := fun r => by have := hi i (n + 1) (by omega) (by omega) (by omega); omega
        omega
      · omega
    · have e' : (if f i = n then f (n + 1) else f i) = (if f j = n then f (n + 1) else f j) := e
      by_cases qi : f i = n
      · by_cases qj : f j = n
        · exact hi i j (by omega) (by omega) (by omega)
        · rw [if_pos qi, if_neg qj] at e'
          have := hi (n + 1) j (by omega) (by omega) e'; omega
      · by_cases qj : f j = n
        · rw [if_neg qi, if_pos qj] at e'
          have := hi i (n + 1) (by omega) (by omega) e'; omega
        · rw [if_neg qi, if_neg qj] at e'
          exact hi i j (by omega) (by omega) e'
theorem onto {n : Nat} {f : Nat → Nat} (h : ∀ i, i < n → f i < n) (hi : ∀ i j, i < n → j < n → f i = f j → i = j) {x : Nat} (hx : x < n) : ∃ i, i < n ∧ f i = x := by
  refine Classical.byContradiction fun q => ?_
  have q' : ∀ i, i < n → f i ≠ x := fun i hn e => q ⟨i, hn, e⟩
  refine pig n (fun i => if i < n then f i else x) (fun i hn => ?_) (fun i j hn hm e => ?_)
  · show (if i < n then f i else x) < n
    split
    · exact h i ‹_›
    · exact hx
  · have e' : (if i < n then f i else x) = (if j < n then f j else x) := e
    by_cases qi : i < n
    · by_cases qj : j < n
      · rw [if_pos qi, if_pos qj] at e'; exact hi i j qi qj e'
      · rw [if_pos qi, if_neg qj] at e'; exact absurd e' (q' i qi)
    · by_cases qj : j < n
      · rw [if_neg qi, if_pos qj] at e'; exact absurd e'.symm (q' j qj)
      · omega
/-- No two places of an order are alike. -/
theorem order_one {zs : List Int} {u : Int} (h : orderB zs u = true) {i j : Nat} (hi : i < zs.length) (hj : j < zs.length) (e : zs.getD i 0 = zs.getD j 0) : i = j := by
  have h2 := (order_out h).2
  rcases Nat.lt_trichotomy i j with q | q | q
  · exact absurd e (hasTo_no (h2 j hj).2.2 q)
  · exact q
  · exact absurd e.symm (hasTo_no (h2 i hi).2.2 q)
/-- Each block has a place. -/
theorem order_all {zs : List Int} {u : Int} (h : orderB zs u = true) {x : Int} (h0 : 0 ≤ x) (h1 : x < u) : ∃ i, i < zs.length ∧ zs.getD i 0 = x := by
  have hl := (order_out h).1
  have h2 := (order_out h).2
  obtain ⟨i, hi, e⟩ := onto (n := zs.length) (f := fun i => (zs.getD i 0).toNat) (fun i hi => by have := h2 i hi; unfold OrdOk at this; omega) (fun i j hi hj e => order_one h hi hj (by have q1 := (h2 i hi).1; have q2 := (h2 j hj).1; have e' : (zs.getD i 0).toNat = (zs.getD j 0).toNat := e; omega)) (x := x.toNat) (by omega)
  exact ⟨i, hi, by have := (h2 i hi).1; have e' : (zs.getD i 0).toNat = x.toNat := e; omega⟩
/-- Among the first m + 1 places of an order t stands right behind f. -/
def onTo (zs : List Int) (f t : Int) : Nat → Bool
  | 0 => false
  | m + 1 => onTo zs f t m || (decide (zs.getD m 0 = f) && decide (zs.getD (m + 1) 0 = t))
theorem onTo_iff {zs : List Int} {f t : Int} : ∀ m, onTo zs f t m = true ↔ ∃ i, i < m ∧ zs.getD i 0 = f ∧ zs.getD (i + 1) 0 = t
  | 0 => by simp [onTo]
  | m + 1 => by
    simp only [onTo, Bool.or_eq_true, Bool.and_eq_true, decide_eq_true_eq, onTo_iff m]
    constructor
    · rintro (⟨i, h1, h2⟩ | h)
      · exact ⟨i, by omega, h2⟩
      · exact ⟨m, by omega, h⟩
    · rintro ⟨i, h1, h2⟩
      by_cases e : i = m
      · exact Or.inr (by rw [← e]; exact h2)
      · exact Or.inl ⟨i, by omega, h2⟩
/-- The place of each block, as far as the first k places tell. -/
def plcTo (zs : List Int) : Nat → Int → Int
  | 0, _ => 0
  | k + 1, b => if zs.getD k 0 = b then (k : Int) else plcTo zs k b
theorem plc_at {zs : List Int} {u : Int} (h : orderB zs u = true) {i : Nat} : ∀ k, i < k → k ≤ zs.length → plcTo zs k (zs.getD i 0) = (i : Int)
  | k + 1, h1, h2 => by
    simp only [plcTo]
    by_cases e : i = k
    · subst e; rw [if_pos rfl]
    · rw [if_neg (fun q => e (order_one h (by omega) (by omega) q).symm)]
      exact plc_at h k (by omega) (by omega)
theorem plc_le {zs : List Int} {b : Int} : ∀ k, 0 ≤ plcTo zs k b ∧ plcTo zs k b ≤ (k : Int)
  | 0 => by simp [plcTo]
  | k + 1 => by
    have := plc_le (zs := zs) (b := b) k
    simp only [plcTo]
    split <;> omega
/-- By the places it is told which edges go straight on. -/
theorem plc_on {zs : List Int} {u f t : Int} (h : orderB zs u = true) (hf0 : 0 ≤ f) (hf1 : f < u) (ht0 : 0 ≤ t) (ht1 : t < u) : decide (plcTo zs zs.length t = plcTo zs zs.length f + 1) = onTo zs f t (zs.length - 1) := by
  obtain ⟨i, hi, ei⟩ := order_all h hf0 hf1
  obtain ⟨j, hj, ej⟩ := order_all h ht0 ht1
  have pi := plc_at h _ hi (Nat.le_refl _)
  have pj := plc_at h _ hj (Nat.le_refl _)
  rw [ei] at pi
  rw [ej] at pj
  rw [pi, pj]
  by_cases e : j = i + 1
  · rw [decide_eq_true (by omega), (onTo_iff _).2 ⟨i, by omega, ei, by rw [← e]; exact ej⟩]
  · rw [decide_eq_false (by omega)]
    cases q : onTo zs f t (zs.length - 1)
    · rfl
    · obtain ⟨m, hm, e1, e2⟩ := (onTo_iff _).1 q
      have q1 := order_one h (i := m) (j := i) (by omega) hi (by omega)
      have q2 := order_one h (i := m + 1) (j := j) (by omega) hj (by omega)
      omega
/-- What goes straight on of the first k edges, and what jumps. -/
def strTo (z zs : List Int) : Nat → Int
  | 0 => 0
  | k + 1 => strTo z zs k + (if onTo zs (frE z k) (toE z k) (zs.length - 1) then ctE z k else 0)
def jmpTo (z zs : List Int) : Nat → Int
  | 0 => 0
  | k + 1 => jmpTo z zs k + (if onTo zs (frE z k) (toE z k) (zs.length - 1) then 0 else ctE z k)
theorem gone_le {z zs : List Int} {u : Int} {n : Nat} (h : ∀ k, k < n → EdgeOk z u k) : ∀ k, k ≤ n → (0 ≤ strTo z zs k ∧ strTo z zs k ≤ 100000 * (k : Int)) ∧ (0 ≤ jmpTo z zs k ∧ jmpTo z zs k ≤ 100000 * (k : Int))
  | 0, _ => by simp [strTo, jmpTo]
  | k + 1, hk => by
    have h1 := gone_le (zs := zs) h k (by omega)
    obtain ⟨_, _, ⟨h2, h3⟩, _⟩ := h k (by omega)
    simp only [strTo, jmpTo]
    split <;> omega
theorem str_yes {z zs : List Int} {k : Nat} (h : onTo zs (frE z k) (toE z k) (zs.length - 1) = true) : strTo z zs (k + 1) = strTo z zs k + ctE z k ∧ jmpTo z zs (k + 1) = jmpTo z zs k := by
  simp only [strTo, jmpTo, h, if_true, Int.add_zero, and_self]
theorem str_no {z zs : List Int} {k : Nat} (h : onTo zs (frE z k) (toE z k) (zs.length - 1) = false) : strTo z zs (k + 1) = strTo z zs k ∧ jmpTo z zs (k + 1) = jmpTo z zs k + ctE z k := by
  simp [strTo, jmpTo, h]
/-- What StraightIn and JumpsIn tell. -/
def okG (z zs : List Int) (u : Int) (n : Nat) : Bool := edgesB z u n && layB zs u
def strV (z zs : List Int) (u : Int) (n : Nat) : Int := if okG z zs u n then strTo z zs n else 0
def jmpV (z zs : List Int) (u : Int) (n : Nat) : Int := if okG z zs u n then jmpTo z zs n else 0
end Go.Proofs.Ytemlhhogcdgofaa.math
