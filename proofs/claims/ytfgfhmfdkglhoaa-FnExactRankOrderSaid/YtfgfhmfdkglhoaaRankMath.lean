/-
  The ranks of tasks, told from the back, as a fold over the tasks that have been gone through; and that they are what each task's own rank is asked to be.
-/
import Derived.Test.YtfgfhmfdkglhoaaTaskMath
namespace Go.Proofs.Ytfgfhmfdkglhoaa.math
open Go.Proofs.Ytfgfhmfdkglhoaa.walks
set_option linter.unusedVariables false

/-- x is among the first m. -/
def hasTo (zs : List Int) (x : Int) : Nat → Bool
  | 0 => false
  | m + 1 => hasTo zs x m || decide (zs.getD m 0 = x)
def hasB (zs : List Int) (x : Int) : Bool := hasTo zs x zs.length
theorem hasTo_iff {zs : List Int} {x : Int} : ∀ m, hasTo zs x m = true ↔ ∃ i, i < m ∧ zs.getD i 0 = x
  | 0 => by simp [hasTo]
  | m + 1 => by
    simp only [hasTo, Bool.or_eq_true, decide_eq_true_eq, hasTo_iff m]
    constructor
    · rintro (⟨i, h1, h2⟩ | h)
      · exact ⟨i, by omega, h2⟩
      · exact ⟨m, by omega, h⟩
    · rintro ⟨i, h1, h2⟩
      by_cases e : i = m
      · exact Or.inr (by rw [← e]; exact h2)
      · exact Or.inl ⟨i, by omega, h2⟩
theorem hasB_lt {zs : List Int} {x e : Int} (h : RiseTo zs e zs.length) (hx : hasB zs x = true) : x < e := by
  obtain ⟨i, h1, h2⟩ := (hasTo_iff _).1 hx
  have := (h i h1).2.1
  omega
/-- What one task makes of the ranks. -/
def stepR (s : Nat → Int) (x : Nat) (p : Pv) : Nat → Int := fun i => if i = x then s x + p.c else if hasB p.zs (i : Int) then max (s i) (s x + p.c) else s i
theorem stepR_same (s : Nat → Int) (x : Nat) (p : Pv) : stepR s x p x = s x + p.c := if_pos rfl
theorem stepR_yes {s : Nat → Int} {x i : Nat} {p : Pv} (h : i ≠ x) (hh : hasB p.zs (i : Int) = true) : stepR s x p i = max (s i) (s x + p.c) := by unfold stepR; rw [if_neg h, if_pos hh]
theorem stepR_no {s : Nat → Int} {x i : Nat} {p : Pv} (h : i ≠ x) (hh : hasB p.zs (i : Int) = false) : stepR s x p i = s i := by unfold stepR; rw [if_neg h, if_neg (by rw [hh]; simp)]
/-- .. in the midst of it: the first j of its After. -/
def midR (s : Nat → Int) (x : Nat) (p : Pv) (j : Nat) : Nat → Int := fun i => if i = x then s x + p.c else if hasTo p.zs (i : Int) j then max (s i) (s x + p.c) else s i
theorem midR_zero (s : Nat → Int) (x : Nat) (p : Pv) (i : Nat) : midR s x p 0 i = if i = x then s x + p.c else s i := by simp [midR, hasTo]
theorem midR_all (s : Nat → Int) (x : Nat) (p : Pv) : midR s x p p.zs.length = stepR s x p := rfl
theorem midR_same (s : Nat → Int) (x : Nat) (p : Pv) (j : Nat) : midR s x p j x = s x + p.c := if_pos rfl
theorem midR_next {s : Nat → Int} {x : Nat} {p : Pv} {j z : Nat} (hz : p.zs.getD j 0 = (z : Int)) (hne : z ≠ x) (i : Nat) : midR s x p (j + 1) i = if i = z then max (midR s x p j z) (midR s x p j x) else midR s x p j i := by
  rw [midR_same]
  unfold midR
  simp only [hasTo, hz]
  by_cases e : i = z
  · subst e
    rw [if_neg hne, if_pos rfl, if_neg hne]
    simp only [decide_true, Bool.or_true, if_true]
    cases hasTo p.zs (i : Int) j
    · simp
    · simp only [if_true]; omega
  · rw [if_neg e]
    have : decide ((z : Int) = (i : Int)) = false := decide_eq_false (by omega)
    rw [this, Bool.or_false]
theorem midR_bound {s : Nat → Int} {x : Nat} {p : Pv} {B : Int} (h : ∀ i, 0 ≤ s i ∧ s i ≤ B) (h0 : 0 ≤ p.c) (h1 : p.c ≤ 20) (j i : Nat) : 0 ≤ midR s x p j i ∧ midR s x p j i ≤ B + 20 := by
  have := h x
  have := h i
  unfold midR
  split
  · omega
  · split <;> omega
def foldR {n : Nat} (f : Nat → Pv) (pre : List (Fin n)) : Nat → Int := pre.foldl (fun s x => stepR s x.val (f x.val)) (fun _ => 0)
theorem foldR_snoc {n : Nat} (f : Nat → Pv) (pre : List (Fin n)) (x : Fin n) : foldR f (pre ++ [x]) = stepR (foldR f pre) x.val (f x.val) := by simp [foldR]
theorem foldR_bound {n : Nat} {f : Nat → Pv} (h : ∀ k, k < n → taskB (f k) k = true) (pre : List (Fin n)) (i : Nat) : 0 ≤ foldR f pre i ∧ foldR f pre i ≤ 20 * (pre.length : Int) := by
  have aux : ∀ (l : List (Fin n)) (s : Nat → Int) (B : Int), (∀ i, 0 ≤ s i ∧ s i ≤ B) → ∀ i, 0 ≤ l.foldl (fun s x => stepR s x.val (f x.val)) s i ∧ l.foldl (fun s x => stepR s x.val (f x.val)) s i ≤ B + 20 * (l.length : Int) := by
    intro l
    induction l with
    | nil => intro s B hs i; simpa using hs i
    | cons x l ih =>
      intro s B hs i
      have ht := task_out (h x.val x.isLt)
      have hm := fun i => midR_bound (x := x.val) (p := f x.val) hs (by omega) ht.2.1 (f x.val).zs.length i
      have := ih (stepR s x.val (f x.val)) (B + 20) (fun i => hm i) i
      simp only [List.foldl_cons, List.length_cons]
      omega
  have := aux pre (fun _ => 0) 0 (fun _ => ⟨Int.le_refl _, Int.le_refl _⟩) i
  unfold foldR
  omega
/-- The numbers below n, from the last one down: the first k of them. -/
def downF (n k : Nat) : List (Fin n) := (List.range k).filterMap fun j => if h : n - 1 - j < n then some ⟨n - 1 - j, h⟩ else none
theorem downF_len (n k : Nat) : (downF n k).length ≤ k := by
  unfold downF
  exact Nat.le_trans (List.length_filterMap_le _ _) (by simp)
theorem downF_next {n q : Nat} (h : q < n) : downF n (n - q) = downF n (n - (q + 1)) ++ [⟨q, h⟩] := by
  have e : n - q = (n - (q + 1)) + 1 := by omega
  rw [e]
  unfold downF
  rw [List.range_succ, List.filterMap_append]
  have e2 : n - 1 - (n - (q + 1)) = q := by omega
  simp [e2, h]
/-- The ranks when the tasks from q on have been gone through. -/
def stR (f : Nat → Pv) (n q : Nat) : Nat → Int := foldR f (downF n (n - q))
theorem stR_next {f : Nat → Pv} {n q : Nat} (h : q < n) : stR f n q = stepR (stR f n (q + 1)) q (f q) := by
  unfold stR
  rw [downF_next h, foldR_snoc]
theorem stR_end (f : Nat → Pv) (n : Nat) (i : Nat) : stR f n n i = 0 := by unfold stR; rw [Nat.sub_self]; rfl
/-- The rank of a task. -/
def rankV (f : Nat → Pv) (n i : Nat) : Int := stR f n 0 i
theorem rank_is {f : Nat → Pv} {n i : Nat} (h : ∀ k, k < n → taskB (f k) k = true) (hi : i < n) : ∀ q, q ≤ i → stR f n q i = stR f n i i := by
  intro q hq
  obtain ⟨d, hd⟩ : ∃ d, i = q + d := ⟨i - q, by omega⟩
  induction d generalizing q with
  | zero => rw [show i = q by omega]
  | succ d ih =>
    rw [stR_next (show q < n by omega), stepR_no (by omega), ih (q + 1) (by omega) (by omega)]
    cases e : hasB (f q).zs (i : Int) with
    | false => rfl
    | true => have := hasB_lt (task_out (h q (by omega))).2.2 e; omega
theorem rank_at {f : Nat → Pv} {n i : Nat} (h : ∀ k, k < n → taskB (f k) k = true) (hi : i < n) : rankV f n i = stR f n (i + 1) i + (f i).c := by
  unfold rankV
  rw [rank_is h hi 0 (by omega), stR_next hi, stepR_same]
/-- The greatest rank of those from lo up to hi that have i in their After. -/
def Most (f : Nat → Pv) (R : Nat → Int) (i lo hi : Nat) (v : Int) : Prop := 0 ≤ v ∧ (∀ k, lo ≤ k → k < hi → hasB (f k).zs (i : Int) = true → R k ≤ v) ∧ (v = 0 ∨ ∃ k, lo ≤ k ∧ k < hi ∧ hasB (f k).zs (i : Int) = true ∧ v = R k)
theorem most_nil (f : Nat → Pv) (R : Nat → Int) (i lo : Nat) : Most f R i lo lo 0 := ⟨Int.le_refl _, fun k h1 h2 => by omega, Or.inl rfl⟩
theorem most_one {f : Nat → Pv} {R : Nat → Int} {i lo hi : Nat} {v v' : Int} (h : Most f R i lo hi v) (h' : Most f R i lo hi v') : v = v' := by
  have a : v ≤ v' := by
    rcases h.2.2 with e | ⟨k, h1, h2, h3, e⟩
    · have := h'.1; omega
    · have := h'.2.1 k h1 h2 h3; omega
  have b : v' ≤ v := by
    rcases h'.2.2 with e | ⟨k, h1, h2, h3, e⟩
    · have := h.1; omega
    · have := h.2.1 k h1 h2 h3; omega
  omega
theorem most_up_no {f : Nat → Pv} {R : Nat → Int} {i lo hi : Nat} {v : Int} (h : Most f R i lo hi v) (hh : hasB (f hi).zs (i : Int) = true → R hi ≤ v) : Most f R i lo (hi + 1) v := by
  refine ⟨h.1, fun k h1 h2 h3 => ?_, ?_⟩
  · by_cases e : k = hi
    · subst e; exact hh h3
    · exact h.2.1 k h1 (by omega) h3
  · rcases h.2.2 with e | ⟨k, h1, h2, h3, e⟩
    · exact Or.inl e
    · exact Or.inr ⟨k, h1, by omega, h3, e⟩
theorem most_up_yes {f : Nat → Pv} {R : Nat → Int} {i lo hi : Nat} {v : Int} (h : Most f R i lo hi v) (hl : lo ≤ hi) (hh : hasB (f hi).zs (i : Int) = true) (hv : v < R hi) : Most f R i lo (hi + 1) (R hi) := by
  have := h.1
  refine ⟨by omega, fun k h1 h2 h3 => ?_, Or.inr ⟨hi, hl, by omega, hh, rfl⟩⟩
  by_cases e : k = hi
  · subst e; exact Int.le_refl _
  · have := h.2.1 k h1 (by omega) h3; omega
theorem most_down {f : Nat → Pv} {R : Nat → Int} {i lo hi : Nat} {v : Int} (h : Most f R i (lo + 1) hi v) (hl : lo < hi) : Most f R i lo hi (if hasB (f lo).zs (i : Int) then max v (R lo) else v) := by
  have h0 := h.1
  cases q : hasB (f lo).zs (i : Int) with
  | false =>
    simp only [Bool.false_eq_true, if_false]
    refine ⟨h.1, fun k h1 h2 h3 => ?_, ?_⟩
    · by_cases e : k = lo
      · subst e; rw [q] at h3; cases h3
      · exact h.2.1 k (by omega) h2 h3
    · rcases h.2.2 with e | ⟨k, h1, h2, h3, e⟩
      · exact Or.inl e
      · exact Or.inr ⟨k, by omega, h2, h3, e⟩
  | true =>
    simp only [if_true]
    refine ⟨by omega, fun k h1 h2 h3 => ?_, ?_⟩
    · by_cases e : k = lo
      · subst e; omega
      · have := h.2.1 k (by omega) h2 h3; omega
    · by_cases e : v ≤ R lo
      · exact Or.inr ⟨lo, Nat.le_refl _, hl, q, by omega⟩
      · rcases h.2.2 with e2 | ⟨k, h1, h2, h3, e2⟩
        · exact Or.inl (by omega)
        · exact Or.inr ⟨k, by omega, h2, h3, by omega⟩
theorem stR_most {f : Nat → Pv} {n i : Nat} (h : ∀ k, k < n → taskB (f k) k = true) (hi : i < n) : ∀ d q, q + d = n → i < q → Most f (rankV f n) i q n (stR f n q i)
  | 0, q, hd, hq => by
    obtain rfl : q = n := by omega
    rw [stR_end]; exact most_nil _ _ _ _
  | d + 1, q, hd, hq => by
    have := most_down (stR_most h hi d (q + 1) (by omega) (by omega)) (show q < n by omega)
    rw [stR_next (show q < n by omega)]
    rw [rank_at h (show q < n by omega)] at this
    unfold stepR
    rw [if_neg (show i ≠ q by omega)]
    exact this
theorem rank_most {f : Nat → Pv} {n i : Nat} {v : Int} (h : ∀ k, k < n → taskB (f k) k = true) (hi : i < n) (hv : Most f (rankV f n) i (i + 1) n v) : (f i).c + v = rankV f n i := by
  rw [rank_at h hi, most_one hv (stR_most h hi (n - (i + 1)) (i + 1) (by omega) (by omega))]
  omega
theorem downF_all (n : Nat) (f : Nat → Pv) : foldR f (downF n n) = rankV f n := by unfold rankV; unfold stR; rw [Nat.sub_zero]
theorem rank_bound {f : Nat → Pv} {n : Nat} (h : ∀ k, k < n → taskB (f k) k = true) (hn : n ≤ 12) (i : Nat) : 0 ≤ rankV f n i ∧ rankV f n i ≤ 240 := by
  have h1 := foldR_bound h (downF n n) i
  have h2 := downF_len n n
  rw [downF_all] at h1
  omega
def ranksL (f : Nat → Pv) (n : Nat) : List Int := (List.range n).map (rankV f n)
theorem ranksL_len (f : Nat → Pv) (n : Nat) : (ranksL f n).length = n := by simp [ranksL]
theorem ranksL_at {f : Nat → Pv} {n i : Nat} (h : i < n) : (ranksL f n).getD i 0 = rankV f n i := by simp [ranksL, List.getD, h]
/-- The greatest of the first k. -/
def maxTo (R : Nat → Int) : Nat → Int
  | 0 => 0
  | k + 1 => max (maxTo R k) (R k)
theorem maxTo_bound {R : Nat → Int} {B : Int} (hB : 0 ≤ B) (h : ∀ i, 0 ≤ R i ∧ R i ≤ B) : ∀ k, 0 ≤ maxTo R k ∧ maxTo R k ≤ B
  | 0 => ⟨Int.le_refl _, hB⟩
  | k + 1 => by
    have := maxTo_bound hB h k
    have := h k
    simp only [maxTo]
    omega
end Go.Proofs.Ytfgfhmfdkglhoaa.math
