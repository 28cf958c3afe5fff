/-
  Plain facts on the moves that are left: a list that loses one move after the other, and the rings laid behind: no Go program in sight.
-/
import Derived.Test.YthjcgnldlhjjmabRowMath
namespace Go.Proofs.Ythjcgnldlhjjmab.math
open Go
set_option linter.unusedVariables false

/-- Of the first n moves those whose place still waits; how many they are. -/
def leftL (z : List Int) (s : Int → Int) : Nat → List Int
  | 0 => []
  | n + 1 => if s (toM z n) = toM z n then leftL z s n else leftL z s n ++ [frM z n, toM z n]
def posL (z : List Int) (s : Int → Int) : Nat → Nat
  | 0 => 0
  | n + 1 => if s (toM z n) = toM z n then posL z s n else posL z s n + 1
theorem left_go {z : List Int} {s : Int → Int} {n : Nat} (h : s (toM z n) ≠ toM z n) : leftL z s (n + 1) = leftL z s n ++ [frM z n, toM z n] ∧ posL z s (n + 1) = posL z s n + 1 := by
  constructor
  · show (if s (toM z n) = toM z n then leftL z s n else leftL z s n ++ [frM z n, toM z n]) = _
    rw [if_neg h]
  · show (if s (toM z n) = toM z n then posL z s n else posL z s n + 1) = _
    rw [if_neg h]
theorem left_skip {z : List Int} {s : Int → Int} {n : Nat} (h : s (toM z n) = toM z n) : leftL z s (n + 1) = leftL z s n ∧ posL z s (n + 1) = posL z s n := by
  constructor
  · show (if s (toM z n) = toM z n then leftL z s n else leftL z s n ++ [frM z n, toM z n]) = _
    rw [if_pos h]
  · show (if s (toM z n) = toM z n then posL z s n else posL z s n + 1) = _
    rw [if_pos h]
theorem left_len (z : List Int) (s : Int → Int) : ∀ n, (leftL z s n).length = posL z s n * 2
  | 0 => rfl
  | n + 1 => by
    have ih := left_len z s n
    by_cases h : s (toM z n) = toM z n
    · rw [(left_skip h).1, (left_skip h).2]; exact ih
    · rw [(left_go h).1, (left_go h).2]; simp [ih]; omega
theorem pos_le (z : List Int) (s : Int → Int) : ∀ n, posL z s n ≤ n
  | 0 => Nat.le_refl _
  | n + 1 => by
    have ih := pos_le z s n
    by_cases h : s (toM z n) = toM z n
    · rw [(left_skip h).2]; omega
    · rw [(left_go h).2]; omega
theorem getD_left (A R : List Int) {i : Nat} (h : i < A.length) : (A ++ R).getD i 0 = A.getD i 0 := by
  simp only [List.getD, List.getElem?_append_left h]
theorem getD_right (A R : List Int) (i : Nat) : (A ++ R).getD (A.length + i) 0 = R.getD i 0 := by
  simp only [List.getD, List.getElem?_append_right (Nat.le_add_right _ _), Nat.add_sub_cancel_left]
theorem mv_left {A R : List Int} {m i : Nat} (hA : A.length = m * 2) (h : i < m) : frM (A ++ R) i = frM A i ∧ toM (A ++ R) i = toM A i := ⟨getD_left A R (by omega), getD_left A R (by omega)⟩
theorem mv_at {A R : List Int} {m : Nat} {x y : Int} (hA : A.length = m * 2) : frM (A ++ (x :: y :: R)) m = x ∧ toM (A ++ (x :: y :: R)) m = y := by
  constructor
  · have := getD_right A (x :: y :: R) 0
    rw [hA] at this
    exact this
  · have := getD_right A (x :: y :: R) 1
    rw [hA] at this
    exact this
theorem left_at {z : List Int} {s : Int → Int} {k : Nat} (hw : s (toM z k) ≠ toM z k) : ∀ {n}, k < n → frM (leftL z s n) (posL z s k) = frM z k ∧ toM (leftL z s n) (posL z s k) = toM z k ∧ posL z s k < posL z s n
  | 0, h => by omega
  | n + 1, h => by
    by_cases e : k = n
    · subst e
      rw [(left_go hw).1, (left_go hw).2]
      obtain ⟨h1, h2⟩ := mv_at (R := []) (x := frM z k) (y := toM z k) (left_len z s k)
      exact ⟨h1, h2, by omega⟩
    · obtain ⟨h1, h2, h3⟩ := left_at hw (n := n) (by omega)
      by_cases q : s (toM z n) = toM z n
      · rw [(left_skip q).1, (left_skip q).2]; exact ⟨h1, h2, h3⟩
      · rw [(left_go q).1, (left_go q).2]
        obtain ⟨g1, g2⟩ := mv_left (R := [frM z n, toM z n]) (left_len z s n) h3
        exact ⟨g1.trans h1, g2.trans h2, by omega⟩
theorem left_of {z : List Int} {s : Int → Int} : ∀ {n i}, i < posL z s n → ∃ k, k < n ∧ s (toM z k) ≠ toM z k ∧ posL z s k = i
  | 0, i, h => absurd h (Nat.not_lt_zero _)
  | n + 1, i, h => by
    by_cases q : s (toM z n) = toM z n
    · rw [(left_skip q).2] at h
      obtain ⟨k, h1, h2, h3⟩ := left_of h
      exact ⟨k, by omega, h2, h3⟩
    · rw [(left_go q).2] at h
      by_cases e : i = posL z s n
      · exact ⟨n, by omega, q, e.symm⟩
      · obtain ⟨k, h1, h2, h3⟩ := left_of (z := z) (s := s) (n := n) (i := i) (by omega)
        exact ⟨k, by omega, h2, h3⟩
theorem pos_mono {z : List Int} {s : Int → Int} {j : Nat} : ∀ {k}, j ≤ k → posL z s j ≤ posL z s k
  | 0, h => by
    have : j = 0 := by omega
    subst this; exact Nat.le_refl _
  | k + 1, h => by
    by_cases e : j = k + 1
    · subst e; exact Nat.le_refl _
    · have ih := pos_mono (z := z) (s := s) (j := j) (k := k) (by omega)
      by_cases q : s (toM z k) = toM z k
      · rw [(left_skip q).2]; exact ih
      · rw [(left_go q).2]; omega
theorem pos_lt {z : List Int} {s : Int → Int} {j k : Nat} (h : j < k) (hw : s (toM z j) ≠ toM z j) : posL z s j < posL z s k := by
  have := pos_mono (z := z) (s := s) (show j + 1 ≤ k by omega)
  rw [(left_go hw).2] at this
  omega
theorem left_good {z : List Int} {s : Int → Int} {n : Nat} (g : GoodM z n) : GoodM (leftL z s n) (posL z s n) := by
  intro i hi
  obtain ⟨k, hk, hw, rfl⟩ := left_of hi
  obtain ⟨h1, h2, _⟩ := left_at hw hk
  rw [h1, h2]
  refine ⟨(g k hk).1, (g k hk).2.1, fun j hj => ?_⟩
  obtain ⟨k', hk', hw', rfl⟩ := left_of (Nat.lt_trans hj hi)
  rw [(left_at hw' hk').2.1]
  have hlt : k' < k := by
    apply Classical.byContradiction
    intro q
    have := pos_mono (z := z) (s := s) (show k ≤ k' by omega)
    omega
  exact (g k hk).2.2 k' hlt
/-- Whether none of the first m moves leads from where the i-th leads. -/
def FreeY (y : List Int) (m i : Nat) : Prop := ∀ o, o < m → frM y o ≠ toM y i
theorem wait_src {z : List Int} {s : Int → Int} {n k : Nat} (g : GoodM z n) (r : RowI z n s) (hk : k < n) (hw : s (toM z k) ≠ toM z k) : s (toM z k) = frM z k := by
  obtain ⟨j, hj, e, e2⟩ := r.wait _ hw
  rw [e2]
  rcases Nat.lt_trichotomy j k with q | q | q
  · exact absurd e ((g k hk).2.2 j q)
  · rw [q]
  · exact absurd e.symm ((g j hj).2.2 k q)
theorem left_free {z : List Int} {s : Int → Int} {n k : Nat} (g : GoodM z n) (r : RowI z n s) (hk : k < n) (hw : s (toM z k) ≠ toM z k) : FreeY (leftL z s n) (posL z s n) (posL z s k) ↔ freeB s (toM z k) = true := by
  obtain ⟨_, ht, _⟩ := left_at hw hk
  constructor
  · intro h
    refine free_mk hw ?_
    cases ha : awB s (toM z k)
    · rfl
    · exfalso
      obtain ⟨q, hq, e1, e2⟩ := aw_true ha
      obtain ⟨j, hj, e3, e4⟩ := r.wait q (by rw [e1]; exact fun x => e2 x.symm)
      have hwj : s (toM z j) ≠ toM z j := by rw [e3, e1]; exact fun x => e2 x.symm
      obtain ⟨f1, _, f3⟩ := left_at hwj hj
      refine h _ f3 ?_
      rw [f1, ht, ← e4, e1]
  · intro h o ho e
    obtain ⟨_, ha⟩ := free_out h
    obtain ⟨j, hj, hwj, rfl⟩ := left_of ho
    obtain ⟨f1, _, _⟩ := left_at hwj hj
    rw [f1, ht, ← wait_src g r hj hwj] at e
    refine aw_false ha (to_pl g hj) ?_ e
    intro q
    rw [q] at e hwj
    exact hw e
theorem left_first {z : List Int} {s : Int → Int} {n : Nat} (g : GoodM z n) (r : RowI z n s) (h : firstF z s n < n) : posL z s (firstF z s n) < posL z s n ∧ FreeY (leftL z s n) (posL z s n) (posL z s (firstF z s n)) ∧ ∀ i, i < posL z s (firstF z s n) → ¬ FreeY (leftL z s n) (posL z s n) i := by
  obtain ⟨hf, hb⟩ := ff_some h
  have hw := (free_out hf).1
  refine ⟨(left_at hw h).2.2, (left_free g r h hw).2 hf, fun i hi q => ?_⟩
  obtain ⟨k, hk, hwk, rfl⟩ := left_of hi
  have := (left_free g r (Nat.lt_trans hk h) hwk).1 q
  rw [hb k hk] at this
  cases this
theorem left_none {z : List Int} {s : Int → Int} {n : Nat} (g : GoodM z n) (r : RowI z n s) (h : ¬ firstF z s n < n) : ∀ i, i < posL z s n → ¬ FreeY (leftL z s n) (posL z s n) i := by
  intro i hi q
  obtain ⟨k, hk, hwk, rfl⟩ := left_of hi
  have := (left_free g r hk hwk).1 q
  rw [ff_none h k hk] at this
  cases this
/-- The list without the move K. -/
theorem left_cut {z : List Int} {s : Int → Int} {K : Nat} (hw : s (toM z K) ≠ toM z K) : ∀ {n}, K < n → GoodM z n → ∃ R, leftL z s n = leftL z s K ++ (frM z K :: toM z K :: R) ∧ leftL z (updS s (toM z K)) n = leftL z s K ++ R ∧ posL z s n = posL z (updS s (toM z K)) n + 1
  | 0, h, _ => absurd h (Nat.not_lt_zero _)
  | n + 1, h, g => by
    have hlow : ∀ m, m ≤ K → leftL z (updS s (toM z K)) m = leftL z s m ∧ posL z (updS s (toM z K)) m = posL z s m := by
      intro m
      induction m with
      | zero => intro _; exact ⟨rfl, rfl⟩
      | succ m ih =>
        intro hm
        obtain ⟨i1, i2⟩ := ih (by omega)
        have e : updS s (toM z K) (toM z m) = s (toM z m) := if_neg (fun q => (g K h).2.2 m (by omega) q)
        by_cases q : s (toM z m) = toM z m
        · rw [(left_skip q).1, (left_skip q).2, (left_skip (e.trans q)).1, (left_skip (e.trans q)).2]; exact ⟨i1, i2⟩
        · have q' : updS s (toM z K) (toM z m) ≠ toM z m := by rw [e]; exact q
          rw [(left_go q).1, (left_go q).2, (left_go q').1, (left_go q').2, i1, i2]; exact ⟨rfl, rfl⟩
    by_cases e : K = n
    · subst e
      obtain ⟨i1, i2⟩ := hlow K (Nat.le_refl _)
      have u : updS s (toM z K) (toM z K) = toM z K := if_pos rfl
      refine ⟨[], ?_, ?_, ?_⟩
      · rw [(left_go hw).1]
      · rw [(left_skip u).1, i1, List.append_nil]
      · rw [(left_go hw).2, (left_skip u).2, i2]
    · obtain ⟨R, h1, h2, h3⟩ := left_cut hw (n := n) (by omega) (good_less g (by omega))
      have u : updS s (toM z K) (toM z n) = s (toM z n) := if_neg (fun q => (g n (by omega)).2.2 K (by omega) q.symm)
      by_cases q : s (toM z n) = toM z n
      · rw [(left_skip q).1, (left_skip q).2, (left_skip (u.trans q)).1, (left_skip (u.trans q)).2]
        exact ⟨R, h1, h2, h3⟩
      · have q' : updS s (toM z K) (toM z n) ≠ toM z n := by rw [u]; exact q
        rw [(left_go q).1, (left_go q).2, (left_go q').1, (left_go q').2, h1, h2, h3]
        exact ⟨R ++ [frM z n, toM z n], by simp, by simp, rfl⟩
theorem left_same {z : List Int} {s : Int → Int} {n : Nat} (g : GoodM z n) (r : RowI z n s) : Same (intM (leftL z s n) (posL z s n)) s := by
  refine int_same (left_good g) (fun i hi => ?_) (fun p hp => ?_)
  · obtain ⟨k, hk, hw, rfl⟩ := left_of hi
    obtain ⟨h1, h2, _⟩ := left_at hw hk
    rw [h1, h2]
    exact Or.inl (wait_src g r hk hw)
  · obtain ⟨j, hj, e, _⟩ := r.wait p hp
    have hw : s (toM z j) ≠ toM z j := by rw [e]; exact hp
    obtain ⟨_, h2, h3⟩ := left_at hw hj
    exact ⟨_, h3, h2.trans e⟩
theorem left_rings {z : List Int} {s : Int → Int} {n : Nat} (g : GoodM z n) (r : RowI z n s) : ringsTo (intM (leftL z s n) (posL z s n)) 10 = ringsTo s 10 := same_rings (int_cl (left_good g)) r.cl (left_same g r)
/-- A ring laid: c of its places filled; whence the next one is filled. -/
def layC (r : List Int) : Nat → Int
  | 0 => r.getD 0 0
  | c + 1 => r.getD (r.length - 1 - c) 0
def layTo (r : List Int) : Nat → List Int
  | 0 => [r.getD 0 0, 10]
  | c + 1 => layTo r c ++ [r.getD (r.length - 1 - c) 0, layC r c]
def layR (r : List Int) : List Int := layTo r (r.length - 1) ++ [10, layC r (r.length - 1)]
theorem layTo_len (r : List Int) : ∀ c, (layTo r c).length = (c + 1) * 2
  | 0 => rfl
  | c + 1 => by simp [layTo, layTo_len r c]; omega
theorem layR_len {r : List Int} (h : 1 ≤ r.length) : (layR r).length = (r.length + 1) * 2 := by
  simp [layR, layTo_len]; omega
/-- The rows, and behind them the first k rings. -/
def layN (L : List Int) (Z : Nat → List Int) : Nat → List Int
  | 0 => L
  | k + 1 => layN L Z k ++ layR (Z k)
def cntN (m : Nat) (Z : Nat → List Int) : Nat → Nat
  | 0 => m
  | k + 1 => cntN m Z k + ((Z k).length + 1)
theorem layN_len {L : List Int} {m : Nat} {Z : Nat → List Int} (h : L.length = m * 2) : ∀ k, (∀ j, j < k → 1 ≤ (Z j).length) → (layN L Z k).length = cntN m Z k * 2
  | 0, _ => h
  | k + 1, hz => by
    have ih := layN_len h k (fun j hj => hz j (by omega))
    show (layN L Z k ++ layR (Z k)).length = (cntN m Z k + ((Z k).length + 1)) * 2
    rw [List.length_append, ih, layR_len (hz k (by omega))]; omega
theorem cntN_le {m : Nat} {Z : Nat → List Int} : ∀ k, (∀ j, j < k → (Z j).length ≤ 10) → cntN m Z k ≤ m + 11 * k
  | 0, _ => Nat.le_refl _
  | k + 1, hz => by
    have ih := cntN_le (m := m) k (fun j hj => hz j (by omega))
    have := hz k (by omega)
    show cntN m Z k + ((Z k).length + 1) ≤ m + 11 * (k + 1)
    omega
theorem rings_all {s : Int → Int} : ∀ n r, r ∈ ringsTo s n → 1 ≤ r.length ∧ r.length ≤ 10
  | 0, r, h => by cases h
  | n + 1, r, h => by
    have h' : r ∈ (if leastR s (n : Int) = true then ringsTo s n ++ [ringL s (n : Int)] else ringsTo s n) := h
    by_cases q : leastR s (n : Int) = true
    · rw [if_pos q] at h'
      rcases List.mem_append.1 h' with k | k
      · exact rings_all n r k
      · have e : r = ringL s (n : Int) := by simpa using k
        rw [e]
        refine ⟨?_, ring_len _ _⟩
        unfold leastR at q
        rw [Bool.and_eq_true] at q
        exact List.length_pos_iff.2 (of_decide_eq_true q.1)
    · rw [if_neg q] at h'; exact rings_all n r h'
theorem ring_at_all {s : Int → Int} {k : Nat} (h : k < (ringsTo s 10).length) : 1 ≤ ((ringsTo s 10).getD k []).length ∧ ((ringsTo s 10).getD k []).length ≤ 10 := by
  refine rings_all (s := s) 10 _ ?_
  simp only [List.getD, List.getElem?_eq_getElem h, Option.getD_some]
  exact List.getElem_mem h
end Go.Proofs.Ythjcgnldlhjjmab.math
