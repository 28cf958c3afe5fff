/-
  What the specification's two answers: the number of a step of two's value.
-/
import Derived.Test.YtldmeffhbabanaaNumTwo3
import Derived.Test.YtldmeffhbabanaaNumTwo4
import Derived.Test.YtldmeffhbabanaaNumTwo5
import Derived.Test.YtldmeffhbabanaaNumTwo6
import Derived.Test.YtldmeffhbabanaaNumTwo7
import Derived.Test.YtldmeffhbabanaaNumSimp
namespace Go.Proofs.Ytldmeffhbabanaa.nums
open Go.RowKit Go.Proofs.Ytldmeffhbabanaa.math Go.Proofs.Ytldmeffhbabanaa.ints Go.Proofs.Ytldmeffhbabanaa.walks
set_option linter.unusedVariables false

theorem pair_some {vs : List V} {o : Int} {x y v : V} (h : ¬ (x.1 = 1 ∧ y.1 = 1)) (hs : simpV o x y = some v) : pairV vs o x y = v := by unfold pairV; rw [if_neg h, hs]; rfl
theorem pair_none {vs : List V} {o : Int} {x y : V} (h : ¬ (x.1 = 1 ∧ y.1 = 1)) (hs : simpV o x y = none) : pairV vs o x y = plainV vs o x y := by unfold pairV; rw [if_neg h, hs]; rfl
theorem plain_keep {vs : List V} {o : Int} {x y : V} {i j : Nat} (hi : idx vs x = i) (hj : idx vs y = j) (h : ¬ (eitherB o = true ∧ j < i)) : plainV vs o x y = (o, (i : Int), (j : Int), 0) := by unfold plainV; rw [hi, hj, if_neg h]
theorem plain_swap {vs : List V} {o : Int} {x y : V} {i j : Nat} (hi : idx vs x = i) (hj : idx vs y = j) (h : eitherB o = true ∧ j < i) : plainV vs o x y = (o, (j : Int), (i : Int), 0) := by unfold plainV; rw [hi, hj, if_pos h]
theorem at_idx {vs : List V} (hn : vs.Nodup) {k : Nat} (hk : k < vs.length) {v : V} (h : vs.getD k zV = v) : idx vs v = k := by rw [← h]; exact idx_at hn hk
theorem two_3 (i j : Nat) (B sb : Nat) (vs : List V) (ks : List Int) (W : World) (hS : St W B sb vs ks) (hBW : B ≤ W.heap.size) (hv : 0 < vs.length) (hks : 0 < ks.length) (hl : vs.length ≤ 1000) (hn : vs.Nodup) (hok : ∀ v ∈ vs, okV v) (hi : i < vs.length) (hj : j < vs.length) :
    Calls Try.prog 55 #[.pointer (some ⟨sb, 0, none⟩), .int .i64 3, .int .i64 (i : Int), .int .i64 (j : Int)] W fun e W' => FindAns W B sb vs ks (pairV vs 3 (vs.getD i zV) (vs.getD j zV)) e W' := by
  have kx := hok _ (get_mem hi)
  have ky := hok _ (get_mem hj)
  have hi' : (i : Int) < (vs.length : Int) := by omega
  have hj' : (j : Int) < (vs.length : Int) := by omega
  obtain ⟨x0, x1, x2, x3, hx⟩ : ∃ a b c d, vs.getD i zV = (a, b, c, d) := ⟨_, _, _, _, rfl⟩
  obtain ⟨y0, y1, y2, y3, hy⟩ : ∃ a b c d, vs.getD j zV = (a, b, c, d) := ⟨_, _, _, _, rfl⟩
  have qi := at_idx hn hi hx
  have qj := at_idx hn hj hy
  rw [hx] at kx ⊢
  rw [hy] at ky ⊢
  by_cases hx1 : x0 = 1
  · subst hx1
    by_cases hy1 : y0 = 1
    · subst hy1
      by_cases hij : i = j
      · subst hij
        rw [hx] at hy
        cases hy
        exact two_3_ks i x1 x2 x3 B sb vs ks W hS hBW hv hks hl hn hi' hx kx.2.2.2.1 kx.2.2.2.2 kx.2.2.2.1 kx.2.2.2.2 (if_pos ⟨rfl, rfl⟩)
      · exact two_3_k i j x1 x2 x3 y1 y2 y3 B sb vs ks W hS hBW hv hks hl hn hi' hj' hx hy kx.2.2.2.1 kx.2.2.2.2 ky.2.2.2.1 ky.2.2.2.2 (if_pos ⟨rfl, rfl⟩)
    · have hij : i ≠ j := by
        intro e; subst e
        rw [hx] at hy
        cases hy
        exact hy1 rfl
      have hnk : ∀ a b c, ¬ ((((1 : Int), a, b, c) : V).1 = 1 ∧ ((y0, y1, y2, y3) : V).1 = 1) := fun a b c h => hy1 h.2
      have hY0 : ((y0, y1, y2, y3) : V) ≠ kon 0 := fun e => hy1 (congrArg Prod.fst e)
      have hY1 : ((y0, y1, y2, y3) : V) ≠ kon 1 := fun e => hy1 (congrArg Prod.fst e)
      have hXY : ∀ a b c, (((1 : Int), a, b, c) : V) ≠ (y0, y1, y2, y3) := fun a b c e => hy1 (congrArg Prod.fst e).symm
      by_cases hX0 : (((1 : Int), x1, x2, x3) : V) = kon 0
      · obtain ⟨rfl, rfl, rfl⟩ : x1 = 0 ∧ x2 = 0 ∧ x3 = 0 := by simpa [kon] using hX0
        exact two_3_x0 i j y0 y1 y2 y3 B sb vs ks W hS hBW hv hks hl hn hi' hj' hx hy (by simpa using hy1) (decide_eq_false hy1) hy1 (by simp; omega) (decide_eq_false (by omega)) (by omega) (pair_some (hnk _ _ _) (sv_3_0 _ _ rfl))
      by_cases hX1 : (((1 : Int), x1, x2, x3) : V) = kon 1
      · obtain ⟨rfl, rfl, rfl⟩ : x1 = 0 ∧ x2 = 0 ∧ x3 = 1 := by simpa [kon] using hX1
        rcases Nat.lt_or_ge j i with hlt | hge
        · exact two_3_x1g i j y0 y1 y2 y3 B sb vs ks W hS hBW hv hks hl hn hi' hj' hx hy (by simpa using hy1) (decide_eq_false hy1) hy1 (by simp; omega) (decide_eq_false (by omega)) (by omega) (by omega) ((pair_none (hnk _ _ _) (sv_3_2 _ _ (by simp [kon]) (hY0))).trans (plain_swap qi qj ⟨rfl, hlt⟩))
        · exact two_3_x1l i j y0 y1 y2 y3 B sb vs ks W hS hBW hv hks hl hn hi' hj' hx hy (by simpa using hy1) (decide_eq_false hy1) hy1 (by simp; omega) (decide_eq_false (by omega)) (by omega) (by omega) ((pair_none (hnk _ _ _) (sv_3_2 _ _ (by simp [kon]) (hY0))).trans (plain_keep qi qj (fun h => by omega)))
      rcases Nat.lt_or_ge j i with hlt | hge
      · exact two_3_yg i j x1 x2 x3 y0 y1 y2 y3 B sb vs ks W hS hBW hv hks hl hn hi' hj' hx hy (by simpa using hy1) (decide_eq_false hy1) hy1 (by simp; omega) (decide_eq_false (by omega)) (by omega) hX0 hX1 hY0 hY1 (by omega) ((pair_none (hnk _ _ _) (sv_3_2 _ _ (hX0) (hY0))).trans (plain_swap qi qj ⟨rfl, hlt⟩))
      · exact two_3_yl i j x1 x2 x3 y0 y1 y2 y3 B sb vs ks W hS hBW hv hks hl hn hi' hj' hx hy (by simpa using hy1) (decide_eq_false hy1) hy1 (by simp; omega) (decide_eq_false (by omega)) (by omega) hX0 hX1 hY0 hY1 (by omega) ((pair_none (hnk _ _ _) (sv_3_2 _ _ (hX0) (hY0))).trans (plain_keep qi qj (fun h => by omega)))
  · have hnk : ∀ a b c d, ¬ (((x0, x1, x2, x3) : V).1 = 1 ∧ (((a : Int), b, c, d) : V).1 = 1) := fun a b c d h => hx1 h.1
    have hX0 : ((x0, x1, x2, x3) : V) ≠ kon 0 := fun e => hx1 (congrArg Prod.fst e)
    have hX1 : ((x0, x1, x2, x3) : V) ≠ kon 1 := fun e => hx1 (congrArg Prod.fst e)
    by_cases hij : i = j
    · subst hij
      rw [hx] at hy
      cases hy
      exact two_3_s i x0 x1 x2 x3 B sb vs ks W hS hBW hv hks hl hn hi' hx (by simpa using hx1) (decide_eq_false hx1) hx1 ((pair_none (hnk _ _ _ _) (sv_3_2 _ _ hX0 hX0)).trans (plain_keep qi qi (fun h => by omega)))
    · have hXY : ((x0, x1, x2, x3) : V) ≠ (y0, y1, y2, y3) := fun e => hij (at_inj hn hi hj (by rw [hx, hy]; exact e))
      by_cases hY0 : ((y0, y1, y2, y3) : V) = kon 0
      · obtain ⟨rfl, rfl, rfl, rfl⟩ : y0 = 1 ∧ y1 = 0 ∧ y2 = 0 ∧ y3 = 0 := by simpa [kon] using hY0
        exact two_3_y0 i j x0 x1 x2 x3 B sb vs ks W hS hBW hv hks hl hn hi' hj' hx hy (by simpa using hx1) (decide_eq_false hx1) hx1 (by simp; omega) (decide_eq_false (by omega)) (by omega) (pair_some (hnk _ _ _ _) (sv_3_1 _ _ hX0 rfl))
      by_cases hY1 : ((y0, y1, y2, y3) : V) = kon 1
      · obtain ⟨rfl, rfl, rfl, rfl⟩ : y0 = 1 ∧ y1 = 0 ∧ y2 = 0 ∧ y3 = 1 := by simpa [kon] using hY1
        rcases Nat.lt_or_ge j i with hlt | hge
        · exact two_3_y1g i j x0 x1 x2 x3 B sb vs ks W hS hBW hv hks hl hn hi' hj' hx hy (by simpa using hx1) (decide_eq_false hx1) hx1 (by simp; omega) (decide_eq_false (by omega)) (by omega) (by omega) ((pair_none (hnk _ _ _ _) (sv_3_2 _ _ (hX0) (by simp [kon]))).trans (plain_swap qi qj ⟨rfl, hlt⟩))
        · exact two_3_y1l i j x0 x1 x2 x3 B sb vs ks W hS hBW hv hks hl hn hi' hj' hx hy (by simpa using hx1) (decide_eq_false hx1) hx1 (by simp; omega) (decide_eq_false (by omega)) (by omega) (by omega) ((pair_none (hnk _ _ _ _) (sv_3_2 _ _ (hX0) (by simp [kon]))).trans (plain_keep qi qj (fun h => by omega)))
      rcases Nat.lt_or_ge j i with hlt | hge
      · exact two_3_xg i j x0 x1 x2 x3 y0 y1 y2 y3 B sb vs ks W hS hBW hv hks hl hn hi' hj' hx hy (by simpa using hx1) (decide_eq_false hx1) hx1 (by simp; omega) (decide_eq_false (by omega)) (by omega) hX0 hX1 hY0 hY1 (by omega) ((pair_none (hnk _ _ _ _) (sv_3_2 _ _ (hX0) (hY0))).trans (plain_swap qi qj ⟨rfl, hlt⟩))
      · exact two_3_xl i j x0 x1 x2 x3 y0 y1 y2 y3 B sb vs ks W hS hBW hv hks hl hn hi' hj' hx hy (by simpa using hx1) (decide_eq_false hx1) hx1 (by simp; omega) (decide_eq_false (by omega)) (by omega) hX0 hX1 hY0 hY1 (by omega) ((pair_none (hnk _ _ _ _) (sv_3_2 _ _ (hX0) (hY0))).trans (plain_keep qi qj (fun h => by omega)))
theorem two_4 (i j : Nat) (B sb : Nat) (vs : List V) (ks : List Int) (W : World) (hS : St W B sb vs ks) (hBW : B ≤ W.heap.size) (hv : 0 < vs.length) (hks : 0 < ks.length) (hl : vs.length ≤ 1000) (hn : vs.Nodup) (hok : ∀ v ∈ vs, okV v) (hi : i < vs.length) (hj : j < vs.length) :
    Calls Try.prog 55 #[.pointer (some ⟨sb, 0, none⟩), .int .i64 4, .int .i64 (i : Int), .int .i64 (j : Int)] W fun e W' => FindAns W B sb vs ks (pairV vs 4 (vs.getD i zV) (vs.getD j zV)) e W' := by
  have kx := hok _ (get_mem hi)
  have ky := hok _ (get_mem hj)
  have hi' : (i : Int) < (vs.length : Int) := by omega
  have hj' : (j : Int) < (vs.length : Int) := by omega
  obtain ⟨x0, x1, x2, x3, hx⟩ : ∃ a b c d, vs.getD i zV = (a, b, c, d) := ⟨_, _, _, _, rfl⟩
  obtain ⟨y0, y1, y2, y3, hy⟩ : ∃ a b c d, vs.getD j zV = (a, b, c, d) := ⟨_, _, _, _, rfl⟩
  have qi := at_idx hn hi hx
  have qj := at_idx hn hj hy
  rw [hx] at kx ⊢
  rw [hy] at ky ⊢
  by_cases hx1 : x0 = 1
  · subst hx1
    by_cases hy1 : y0 = 1
    · subst hy1
      by_cases hij : i = j
      · subst hij
        rw [hx] at hy
        cases hy
        exact two_4_ks i x1 x2 x3 B sb vs ks W hS hBW hv hks hl hn hi' hx kx.2.2.2.1 kx.2.2.2.2 kx.2.2.2.1 kx.2.2.2.2 (if_pos ⟨rfl, rfl⟩)
      · exact two_4_k i j x1 x2 x3 y1 y2 y3 B sb vs ks W hS hBW hv hks hl hn hi' hj' hx hy kx.2.2.2.1 kx.2.2.2.2 ky.2.2.2.1 ky.2.2.2.2 (if_pos ⟨rfl, rfl⟩)
    · have hij : i ≠ j := by
        intro e; subst e
        rw [hx] at hy
        cases hy
        exact hy1 rfl
      have hnk : ∀ a b c, ¬ ((((1 : Int), a, b, c) : V).1 = 1 ∧ ((y0, y1, y2, y3) : V).1 = 1) := fun a b c h => hy1 h.2
      have hY0 : ((y0, y1, y2, y3) : V) ≠ kon 0 := fun e => hy1 (congrArg Prod.fst e)
      have hY1 : ((y0, y1, y2, y3) : V) ≠ kon 1 := fun e => hy1 (congrArg Prod.fst e)
      have hXY : ∀ a b c, (((1 : Int), a, b, c) : V) ≠ (y0, y1, y2, y3) := fun a b c e => hy1 (congrArg Prod.fst e).symm
      by_cases hX0 : (((1 : Int), x1, x2, x3) : V) = kon 0
      · obtain ⟨rfl, rfl, rfl⟩ : x1 = 0 ∧ x2 = 0 ∧ x3 = 0 := by simpa [kon] using hX0
        rcases Nat.lt_or_ge j i with hlt | hge
        · exact two_4_x0g i j y0 y1 y2 y3 B sb vs ks W hS hBW hv hks hl hn hi' hj' hx hy (by simpa using hy1) (decide_eq_false hy1) hy1 (by simp; omega) (decide_eq_false (by omega)) (by omega) (by omega) ((pair_none (hnk _ _ _) (sv_4_2 _ _ (hXY _ _ _) (hY0))).trans (plain_keep qi qj (fun h => by cases h.1)))
        · exact two_4_x0l i j y0 y1 y2 y3 B sb vs ks W hS hBW hv hks hl hn hi' hj' hx hy (by simpa using hy1) (decide_eq_false hy1) hy1 (by simp; omega) (decide_eq_false (by omega)) (by omega) (by omega) ((pair_none (hnk _ _ _) (sv_4_2 _ _ (hXY _ _ _) (hY0))).trans (plain_keep qi qj (fun h => by omega)))
      by_cases hX1 : (((1 : Int), x1, x2, x3) : V) = kon 1
      · obtain ⟨rfl, rfl, rfl⟩ : x1 = 0 ∧ x2 = 0 ∧ x3 = 1 := by simpa [kon] using hX1
        rcases Nat.lt_or_ge j i with hlt | hge
        · exact two_4_x1g i j y0 y1 y2 y3 B sb vs ks W hS hBW hv hks hl hn hi' hj' hx hy (by simpa using hy1) (decide_eq_false hy1) hy1 (by simp; omega) (decide_eq_false (by omega)) (by omega) (by omega) ((pair_none (hnk _ _ _) (sv_4_2 _ _ (hXY _ _ _) (hY0))).trans (plain_keep qi qj (fun h => by cases h.1)))
        · exact two_4_x1l i j y0 y1 y2 y3 B sb vs ks W hS hBW hv hks hl hn hi' hj' hx hy (by simpa using hy1) (decide_eq_false hy1) hy1 (by simp; omega) (decide_eq_false (by omega)) (by omega) (by omega) ((pair_none (hnk _ _ _) (sv_4_2 _ _ (hXY _ _ _) (hY0))).trans (plain_keep qi qj (fun h => by omega)))
      rcases Nat.lt_or_ge j i with hlt | hge
      · exact two_4_yg i j x1 x2 x3 y0 y1 y2 y3 B sb vs ks W hS hBW hv hks hl hn hi' hj' hx hy (by simpa using hy1) (decide_eq_false hy1) hy1 (by simp; omega) (decide_eq_false (by omega)) (by omega) hX0 hX1 hY0 hY1 (by omega) ((pair_none (hnk _ _ _) (sv_4_2 _ _ (hXY _ _ _) (hY0))).trans (plain_keep qi qj (fun h => by cases h.1)))
      · exact two_4_yl i j x1 x2 x3 y0 y1 y2 y3 B sb vs ks W hS hBW hv hks hl hn hi' hj' hx hy (by simpa using hy1) (decide_eq_false hy1) hy1 (by simp; omega) (decide_eq_false (by omega)) (by omega) hX0 hX1 hY0 hY1 (by omega) ((pair_none (hnk _ _ _) (sv_4_2 _ _ (hXY _ _ _) (hY0))).trans (plain_keep qi qj (fun h => by omega)))
  · have hnk : ∀ a b c d, ¬ (((x0, x1, x2, x3) : V).1 = 1 ∧ (((a : Int), b, c, d) : V).1 = 1) := fun a b c d h => hx1 h.1
    have hX0 : ((x0, x1, x2, x3) : V) ≠ kon 0 := fun e => hx1 (congrArg Prod.fst e)
    have hX1 : ((x0, x1, x2, x3) : V) ≠ kon 1 := fun e => hx1 (congrArg Prod.fst e)
    by_cases hij : i = j
    · subst hij
      rw [hx] at hy
      cases hy
      exact two_4_s i x0 x1 x2 x3 B sb vs ks W hS hBW hv hks hl hn hi' hx (by simpa using hx1) (decide_eq_false hx1) hx1 (pair_some (hnk _ _ _ _) (sv_4_0 _ _ rfl))
    · have hXY : ((x0, x1, x2, x3) : V) ≠ (y0, y1, y2, y3) := fun e => hij (at_inj hn hi hj (by rw [hx, hy]; exact e))
      by_cases hY0 : ((y0, y1, y2, y3) : V) = kon 0
      · obtain ⟨rfl, rfl, rfl, rfl⟩ : y0 = 1 ∧ y1 = 0 ∧ y2 = 0 ∧ y3 = 0 := by simpa [kon] using hY0
        exact two_4_y0 i j x0 x1 x2 x3 B sb vs ks W hS hBW hv hks hl hn hi' hj' hx hy (by simpa using hx1) (decide_eq_false hx1) hx1 (by simp; omega) (decide_eq_false (by omega)) (by omega) (pair_some (hnk _ _ _ _) (sv_4_1 _ _ hXY rfl))
      by_cases hY1 : ((y0, y1, y2, y3) : V) = kon 1
      · obtain ⟨rfl, rfl, rfl, rfl⟩ : y0 = 1 ∧ y1 = 0 ∧ y2 = 0 ∧ y3 = 1 := by simpa [kon] using hY1
        rcases Nat.lt_or_ge j i with hlt | hge
        · exact two_4_y1g i j x0 x1 x2 x3 B sb vs ks W hS hBW hv hks hl hn hi' hj' hx hy (by simpa using hx1) (decide_eq_false hx1) hx1 (by simp; omega) (decide_eq_false (by omega)) (by omega) (by omega) ((pair_none (hnk _ _ _ _) (sv_4_2 _ _ (hXY) (by simp [kon]))).trans (plain_keep qi qj (fun h => by cases h.1)))
        · exact two_4_y1l i j x0 x1 x2 x3 B sb vs ks W hS hBW hv hks hl hn hi' hj' hx hy (by simpa using hx1) (decide_eq_false hx1) hx1 (by simp; omega) (decide_eq_false (by omega)) (by omega) (by omega) ((pair_none (hnk _ _ _ _) (sv_4_2 _ _ (hXY) (by simp [kon]))).trans (plain_keep qi qj (fun h => by omega)))
      rcases Nat.lt_or_ge j i with hlt | hge
      · exact two_4_xg i j x0 x1 x2 x3 y0 y1 y2 y3 B sb vs ks W hS hBW hv hks hl hn hi' hj' hx hy (by simpa using hx1) (decide_eq_false hx1) hx1 (by simp; omega) (decide_eq_false (by omega)) (by omega) hX0 hX1 hY0 hY1 (by omega) ((pair_none (hnk _ _ _ _) (sv_4_2 _ _ (hXY) (hY0))).trans (plain_keep qi qj (fun h => by cases h.1)))
      · exact two_4_xl i j x0 x1 x2 x3 y0 y1 y2 y3 B sb vs ks W hS hBW hv hks hl hn hi' hj' hx hy (by simpa using hx1) (decide_eq_false hx1) hx1 (by simp; omega) (decide_eq_false (by omega)) (by omega) hX0 hX1 hY0 hY1 (by omega) ((pair_none (hnk _ _ _ _) (sv_4_2 _ _ (hXY) (hY0))).trans (plain_keep qi qj (fun h => by omega)))
theorem two_5 (i j : Nat) (B sb : Nat) (vs : List V) (ks : List Int) (W : World) (hS : St W B sb vs ks) (hBW : B ≤ W.heap.size) (hv : 0 < vs.length) (hks : 0 < ks.length) (hl : vs.length ≤ 1000) (hn : vs.Nodup) (hok : ∀ v ∈ vs, okV v) (hi : i < vs.length) (hj : j < vs.length) :
    Calls Try.prog 55 #[.pointer (some ⟨sb, 0, none⟩), .int .i64 5, .int .i64 (i : Int), .int .i64 (j : Int)] W fun e W' => FindAns W B sb vs ks (pairV vs 5 (vs.getD i zV) (vs.getD j zV)) e W' := by
  have kx := hok _ (get_mem hi)
  have ky := hok _ (get_mem hj)
  have hi' : (i : Int) < (vs.length : Int) := by omega
  have hj' : (j : Int) < (vs.length : Int) := by omega
  obtain ⟨x0, x1, x2, x3, hx⟩ : ∃ a b c d, vs.getD i zV = (a, b, c, d) := ⟨_, _, _, _, rfl⟩
  obtain ⟨y0, y1, y2, y3, hy⟩ : ∃ a b c d, vs.getD j zV = (a, b, c, d) := ⟨_, _, _, _, rfl⟩
  have qi := at_idx hn hi hx
  have qj := at_idx hn hj hy
  rw [hx] at kx ⊢
  rw [hy] at ky ⊢
  by_cases hx1 : x0 = 1
  · subst hx1
    by_cases hy1 : y0 = 1
    · subst hy1
      by_cases hij : i = j
      · subst hij
        rw [hx] at hy
        cases hy
        exact two_5_ks i x1 x2 x3 B sb vs ks W hS hBW hv hks hl hn hi' hx kx.2.2.2.1 kx.2.2.2.2 kx.2.2.2.1 kx.2.2.2.2 (if_pos ⟨rfl, rfl⟩)
      · exact two_5_k i j x1 x2 x3 y1 y2 y3 B sb vs ks W hS hBW hv hks hl hn hi' hj' hx hy kx.2.2.2.1 kx.2.2.2.2 ky.2.2.2.1 ky.2.2.2.2 (if_pos ⟨rfl, rfl⟩)
    · have hij : i ≠ j := by
        intro e; subst e
        rw [hx] at hy
        cases hy
        exact hy1 rfl
      have hnk : ∀ a b c, ¬ ((((1 : Int), a, b, c) : V).1 = 1 ∧ ((y0, y1, y2, y3) : V).1 = 1) := fun a b c h => hy1 h.2
      have hY0 : ((y0, y1, y2, y3) : V) ≠ kon 0 := fun e => hy1 (congrArg Prod.fst e)
      have hY1 : ((y0, y1, y2, y3) : V) ≠ kon 1 := fun e => hy1 (congrArg Prod.fst e)
      have hXY : ∀ a b c, (((1 : Int), a, b, c) : V) ≠ (y0, y1, y2, y3) := fun a b c e => hy1 (congrArg Prod.fst e).symm
      by_cases hX0 : (((1 : Int), x1, x2, x3) : V) = kon 0
      · obtain ⟨rfl, rfl, rfl⟩ : x1 = 0 ∧ x2 = 0 ∧ x3 = 0 := by simpa [kon] using hX0
        exact two_5_x0 i j y0 y1 y2 y3 B sb vs ks W hS hBW hv hks hl hn hi' hj' hx hy (by simpa using hy1) (decide_eq_false hy1) hy1 (by simp; omega) (decide_eq_false (by omega)) (by omega) (pair_some (hnk _ _ _) (sv_5_2 _ _ (by simp [kon]) hY1 rfl))
      by_cases hX1 : (((1 : Int), x1, x2, x3) : V) = kon 1
      · obtain ⟨rfl, rfl, rfl⟩ : x1 = 0 ∧ x2 = 0 ∧ x3 = 1 := by simpa [kon] using hX1
        exact two_5_x1 i j y0 y1 y2 y3 B sb vs ks W hS hBW hv hks hl hn hi' hj' hx hy (by simpa using hy1) (decide_eq_false hy1) hy1 (by simp; omega) (decide_eq_false (by omega)) (by omega) (pair_some (hnk _ _ _) (sv_5_0 _ _ rfl))
      rcases Nat.lt_or_ge j i with hlt | hge
      · exact two_5_yg i j x1 x2 x3 y0 y1 y2 y3 B sb vs ks W hS hBW hv hks hl hn hi' hj' hx hy (by simpa using hy1) (decide_eq_false hy1) hy1 (by simp; omega) (decide_eq_false (by omega)) (by omega) hX0 hX1 hY0 hY1 (by omega) ((pair_none (hnk _ _ _) (sv_5_4 _ _ (hX1) (hY1) (hX0) (hY0))).trans (plain_swap qi qj ⟨rfl, hlt⟩))
      · exact two_5_yl i j x1 x2 x3 y0 y1 y2 y3 B sb vs ks W hS hBW hv hks hl hn hi' hj' hx hy (by simpa using hy1) (decide_eq_false hy1) hy1 (by simp; omega) (decide_eq_false (by omega)) (by omega) hX0 hX1 hY0 hY1 (by omega) ((pair_none (hnk _ _ _) (sv_5_4 _ _ (hX1) (hY1) (hX0) (hY0))).trans (plain_keep qi qj (fun h => by omega)))
  · have hnk : ∀ a b c d, ¬ (((x0, x1, x2, x3) : V).1 = 1 ∧ (((a : Int), b, c, d) : V).1 = 1) := fun a b c d h => hx1 h.1
    have hX0 : ((x0, x1, x2, x3) : V) ≠ kon 0 := fun e => hx1 (congrArg Prod.fst e)
    have hX1 : ((x0, x1, x2, x3) : V) ≠ kon 1 := fun e => hx1 (congrArg Prod.fst e)
    by_cases hij : i = j
    · subst hij
      rw [hx] at hy
      cases hy
      exact two_5_s i x0 x1 x2 x3 B sb vs ks W hS hBW hv hks hl hn hi' hx (by simpa using hx1) (decide_eq_false hx1) hx1 ((pair_none (hnk _ _ _ _) (sv_5_4 _ _ hX1 hX1 hX0 hX0)).trans (plain_keep qi qi (fun h => by omega)))
    · have hXY : ((x0, x1, x2, x3) : V) ≠ (y0, y1, y2, y3) := fun e => hij (at_inj hn hi hj (by rw [hx, hy]; exact e))
      by_cases hY0 : ((y0, y1, y2, y3) : V) = kon 0
      · obtain ⟨rfl, rfl, rfl, rfl⟩ : y0 = 1 ∧ y1 = 0 ∧ y2 = 0 ∧ y3 = 0 := by simpa [kon] using hY0
        exact two_5_y0 i j x0 x1 x2 x3 B sb vs ks W hS hBW hv hks hl hn hi' hj' hx hy (by simpa using hx1) (decide_eq_false hx1) hx1 (by simp; omega) (decide_eq_false (by omega)) (by omega) (pair_some (hnk _ _ _ _) (sv_5_3 _ _ hX1 (by simp [kon]) hX0 rfl))
      by_cases hY1 : ((y0, y1, y2, y3) : V) = kon 1
      · obtain ⟨rfl, rfl, rfl, rfl⟩ : y0 = 1 ∧ y1 = 0 ∧ y2 = 0 ∧ y3 = 1 := by simpa [kon] using hY1
        exact two_5_y1 i j x0 x1 x2 x3 B sb vs ks W hS hBW hv hks hl hn hi' hj' hx hy (by simpa using hx1) (decide_eq_false hx1) hx1 (by simp; omega) (decide_eq_false (by omega)) (by omega) (pair_some (hnk _ _ _ _) (sv_5_1 _ _ hX1 rfl))
      rcases Nat.lt_or_ge j i with hlt | hge
      · exact two_5_xg i j x0 x1 x2 x3 y0 y1 y2 y3 B sb vs ks W hS hBW hv hks hl hn hi' hj' hx hy (by simpa using hx1) (decide_eq_false hx1) hx1 (by simp; omega) (decide_eq_false (by omega)) (by omega) hX0 hX1 hY0 hY1 (by omega) ((pair_none (hnk _ _ _ _) (sv_5_4 _ _ (hX1) (hY1) (hX0) (hY0))).trans (plain_swap qi qj ⟨rfl, hlt⟩))
      · exact two_5_xl i j x0 x1 x2 x3 y0 y1 y2 y3 B sb vs ks W hS hBW hv hks hl hn hi' hj' hx hy (by simpa using hx1) (decide_eq_false hx1) hx1 (by simp; omega) (decide_eq_false (by omega)) (by omega) hX0 hX1 hY0 hY1 (by omega) ((pair_none (hnk _ _ _ _) (sv_5_4 _ _ (hX1) (hY1) (hX0) (hY0))).trans (plain_keep qi qj (fun h => by omega)))
theorem two_6 (i j : Nat) (B sb : Nat) (vs : List V) (ks : List Int) (W : World) (hS : St W B sb vs ks) (hBW : B ≤ W.heap.size) (hv : 0 < vs.length) (hks : 0 < ks.length) (hl : vs.length ≤ 1000) (hn : vs.Nodup) (hok : ∀ v ∈ vs, okV v) (hi : i < vs.length) (hj : j < vs.length) :
    Calls Try.prog 55 #[.pointer (some ⟨sb, 0, none⟩), .int .i64 6, .int .i64 (i : Int), .int .i64 (j : Int)] W fun e W' => FindAns W B sb vs ks (pairV vs 6 (vs.getD i zV) (vs.getD j zV)) e W' := by
  have kx := hok _ (get_mem hi)
  have ky := hok _ (get_mem hj)
  have hi' : (i : Int) < (vs.length : Int) := by omega
  have hj' : (j : Int) < (vs.length : Int) := by omega
  obtain ⟨x0, x1, x2, x3, hx⟩ : ∃ a b c d, vs.getD i zV = (a, b, c, d) := ⟨_, _, _, _, rfl⟩
  obtain ⟨y0, y1, y2, y3, hy⟩ : ∃ a b c d, vs.getD j zV = (a, b, c, d) := ⟨_, _, _, _, rfl⟩
  have qi := at_idx hn hi hx
  have qj := at_idx hn hj hy
  rw [hx] at kx ⊢
  rw [hy] at ky ⊢
  by_cases hx1 : x0 = 1
  · subst hx1
    by_cases hy1 : y0 = 1
    · subst hy1
      by_cases hij : i = j
      · subst hij
        rw [hx] at hy
        cases hy
        exact two_6_ks i x1 x2 x3 B sb vs ks W hS hBW hv hks hl hn hi' hx kx.2.2.2.1 kx.2.2.2.2 kx.2.2.2.1 kx.2.2.2.2 (if_pos ⟨rfl, rfl⟩)
      · exact two_6_k i j x1 x2 x3 y1 y2 y3 B sb vs ks W hS hBW hv hks hl hn hi' hj' hx hy kx.2.2.2.1 kx.2.2.2.2 ky.2.2.2.1 ky.2.2.2.2 (if_pos ⟨rfl, rfl⟩)
    · have hij : i ≠ j := by
        intro e; subst e
        rw [hx] at hy
        cases hy
        exact hy1 rfl
      have hnk : ∀ a b c, ¬ ((((1 : Int), a, b, c) : V).1 = 1 ∧ ((y0, y1, y2, y3) : V).1 = 1) := fun a b c h => hy1 h.2
      have hY0 : ((y0, y1, y2, y3) : V) ≠ kon 0 := fun e => hy1 (congrArg Prod.fst e)
      have hY1 : ((y0, y1, y2, y3) : V) ≠ kon 1 := fun e => hy1 (congrArg Prod.fst e)
      have hXY : ∀ a b c, (((1 : Int), a, b, c) : V) ≠ (y0, y1, y2, y3) := fun a b c e => hy1 (congrArg Prod.fst e).symm
      by_cases hX0 : (((1 : Int), x1, x2, x3) : V) = kon 0
      · obtain ⟨rfl, rfl, rfl⟩ : x1 = 0 ∧ x2 = 0 ∧ x3 = 0 := by simpa [kon] using hX0
        rcases Nat.lt_or_ge j i with hlt | hge
        · exact two_6_x0g i j y0 y1 y2 y3 B sb vs ks W hS hBW hv hks hl hn hi' hj' hx hy (by simpa using hy1) (decide_eq_false hy1) hy1 (by simp; omega) (decide_eq_false (by omega)) (by omega) (by omega) ((pair_none (hnk _ _ _) (sv_6_1 _ _ (hXY _ _ _))).trans (plain_keep qi qj (fun h => by cases h.1)))
        · exact two_6_x0l i j y0 y1 y2 y3 B sb vs ks W hS hBW hv hks hl hn hi' hj' hx hy (by simpa using hy1) (decide_eq_false hy1) hy1 (by simp; omega) (decide_eq_false (by omega)) (by omega) (by omega) ((pair_none (hnk _ _ _) (sv_6_1 _ _ (hXY _ _ _))).trans (plain_keep qi qj (fun h => by omega)))
      by_cases hX1 : (((1 : Int), x1, x2, x3) : V) = kon 1
      · obtain ⟨rfl, rfl, rfl⟩ : x1 = 0 ∧ x2 = 0 ∧ x3 = 1 := by simpa [kon] using hX1
        rcases Nat.lt_or_ge j i with hlt | hge
        · exact two_6_x1g i j y0 y1 y2 y3 B sb vs ks W hS hBW hv hks hl hn hi' hj' hx hy (by simpa using hy1) (decide_eq_false hy1) hy1 (by simp; omega) (decide_eq_false (by omega)) (by omega) (by omega) ((pair_none (hnk _ _ _) (sv_6_1 _ _ (hXY _ _ _))).trans (plain_keep qi qj (fun h => by cases h.1)))
        · exact two_6_x1l i j y0 y1 y2 y3 B sb vs ks W hS hBW hv hks hl hn hi' hj' hx hy (by simpa using hy1) (decide_eq_false hy1) hy1 (by simp; omega) (decide_eq_false (by omega)) (by omega) (by omega) ((pair_none (hnk _ _ _) (sv_6_1 _ _ (hXY _ _ _))).trans (plain_keep qi qj (fun h => by omega)))
      rcases Nat.lt_or_ge j i with hlt | hge
      · exact two_6_yg i j x1 x2 x3 y0 y1 y2 y3 B sb vs ks W hS hBW hv hks hl hn hi' hj' hx hy (by simpa using hy1) (decide_eq_false hy1) hy1 (by simp; omega) (decide_eq_false (by omega)) (by omega) hX0 hX1 hY0 hY1 (by omega) ((pair_none (hnk _ _ _) (sv_6_1 _ _ (hXY _ _ _))).trans (plain_keep qi qj (fun h => by cases h.1)))
      · exact two_6_yl i j x1 x2 x3 y0 y1 y2 y3 B sb vs ks W hS hBW hv hks hl hn hi' hj' hx hy (by simpa using hy1) (decide_eq_false hy1) hy1 (by simp; omega) (decide_eq_false (by omega)) (by omega) hX0 hX1 hY0 hY1 (by omega) ((pair_none (hnk _ _ _) (sv_6_1 _ _ (hXY _ _ _))).trans (plain_keep qi qj (fun h => by omega)))
  · have hnk : ∀ a b c d, ¬ (((x0, x1, x2, x3) : V).1 = 1 ∧ (((a : Int), b, c, d) : V).1 = 1) := fun a b c d h => hx1 h.1
    have hX0 : ((x0, x1, x2, x3) : V) ≠ kon 0 := fun e => hx1 (congrArg Prod.fst e)
    have hX1 : ((x0, x1, x2, x3) : V) ≠ kon 1 := fun e => hx1 (congrArg Prod.fst e)
    by_cases hij : i = j
    · subst hij
      rw [hx] at hy
      cases hy
      exact two_6_s i x0 x1 x2 x3 B sb vs ks W hS hBW hv hks hl hn hi' hx (by simpa using hx1) (decide_eq_false hx1) hx1 (pair_some (hnk _ _ _ _) (sv_6_0 _ _ rfl))
    · have hXY : ((x0, x1, x2, x3) : V) ≠ (y0, y1, y2, y3) := fun e => hij (at_inj hn hi hj (by rw [hx, hy]; exact e))
      by_cases hY0 : ((y0, y1, y2, y3) : V) = kon 0
      · obtain ⟨rfl, rfl, rfl, rfl⟩ : y0 = 1 ∧ y1 = 0 ∧ y2 = 0 ∧ y3 = 0 := by simpa [kon] using hY0
        rcases Nat.lt_or_ge j i with hlt | hge
        · exact two_6_y0g i j x0 x1 x2 x3 B sb vs ks W hS hBW hv hks hl hn hi' hj' hx hy (by simpa using hx1) (decide_eq_false hx1) hx1 (by simp; omega) (decide_eq_false (by omega)) (by omega) (by omega) ((pair_none (hnk _ _ _ _) (sv_6_1 _ _ (hXY))).trans (plain_keep qi qj (fun h => by cases h.1)))
        · exact two_6_y0l i j x0 x1 x2 x3 B sb vs ks W hS hBW hv hks hl hn hi' hj' hx hy (by simpa using hx1) (decide_eq_false hx1) hx1 (by simp; omega) (decide_eq_false (by omega)) (by omega) (by omega) ((pair_none (hnk _ _ _ _) (sv_6_1 _ _ (hXY))).trans (plain_keep qi qj (fun h => by omega)))
      by_cases hY1 : ((y0, y1, y2, y3) : V) = kon 1
      · obtain ⟨rfl, rfl, rfl, rfl⟩ : y0 = 1 ∧ y1 = 0 ∧ y2 = 0 ∧ y3 = 1 := by simpa [kon] using hY1
        rcases Nat.lt_or_ge j i with hlt | hge
        · exact two_6_y1g i j x0 x1 x2 x3 B sb vs ks W hS hBW hv hks hl hn hi' hj' hx hy (by simpa using hx1) (decide_eq_false hx1) hx1 (by simp; omega) (decide_eq_false (by omega)) (by omega) (by omega) ((pair_none (hnk _ _ _ _) (sv_6_1 _ _ (hXY))).trans (plain_keep qi qj (fun h => by cases h.1)))
        · exact two_6_y1l i j x0 x1 x2 x3 B sb vs ks W hS hBW hv hks hl hn hi' hj' hx hy (by simpa using hx1) (decide_eq_false hx1) hx1 (by simp; omega) (decide_eq_false (by omega)) (by omega) (by omega) ((pair_none (hnk _ _ _ _) (sv_6_1 _ _ (hXY))).trans (plain_keep qi qj (fun h => by omega)))
      rcases Nat.lt_or_ge j i with hlt | hge
      · exact two_6_xg i j x0 x1 x2 x3 y0 y1 y2 y3 B sb vs ks W hS hBW hv hks hl hn hi' hj' hx hy (by simpa using hx1) (decide_eq_false hx1) hx1 (by simp; omega) (decide_eq_false (by omega)) (by omega) hX0 hX1 hY0 hY1 (by omega) ((pair_none (hnk _ _ _ _) (sv_6_1 _ _ (hXY))).trans (plain_keep qi qj (fun h => by cases h.1)))
      · exact two_6_xl i j x0 x1 x2 x3 y0 y1 y2 y3 B sb vs ks W hS hBW hv hks hl hn hi' hj' hx hy (by simpa using hx1) (decide_eq_false hx1) hx1 (by simp; omega) (decide_eq_false (by omega)) (by omega) hX0 hX1 hY0 hY1 (by omega) ((pair_none (hnk _ _ _ _) (sv_6_1 _ _ (hXY))).trans (plain_keep qi qj (fun h => by omega)))
theorem two_7 (i j : Nat) (B sb : Nat) (vs : List V) (ks : List Int) (W : World) (hS : St W B sb vs ks) (hBW : B ≤ W.heap.size) (hv : 0 < vs.length) (hks : 0 < ks.length) (hl : vs.length ≤ 1000) (hn : vs.Nodup) (hok : ∀ v ∈ vs, okV v) (hi : i < vs.length) (hj : j < vs.length) :
    Calls Try.prog 55 #[.pointer (some ⟨sb, 0, none⟩), .int .i64 7, .int .i64 (i : Int), .int .i64 (j : Int)] W fun e W' => FindAns W B sb vs ks (pairV vs 7 (vs.getD i zV) (vs.getD j zV)) e W' := by
  have kx := hok _ (get_mem hi)
  have ky := hok _ (get_mem hj)
  have hi' : (i : Int) < (vs.length : Int) := by omega
  have hj' : (j : Int) < (vs.length : Int) := by omega
  obtain ⟨x0, x1, x2, x3, hx⟩ : ∃ a b c d, vs.getD i zV = (a, b, c, d) := ⟨_, _, _, _, rfl⟩
  obtain ⟨y0, y1, y2, y3, hy⟩ : ∃ a b c d, vs.getD j zV = (a, b, c, d) := ⟨_, _, _, _, rfl⟩
  have qi := at_idx hn hi hx
  have qj := at_idx hn hj hy
  rw [hx] at kx ⊢
  rw [hy] at ky ⊢
  by_cases hx1 : x0 = 1
  · subst hx1
    by_cases hy1 : y0 = 1
    · subst hy1
      by_cases hij : i = j
      · subst hij
        rw [hx] at hy
        cases hy
        exact two_7_ks i x1 x2 x3 B sb vs ks W hS hBW hv hks hl hn hi' hx kx.2.2.2.1 kx.2.2.2.2 kx.2.2.2.1 kx.2.2.2.2 (if_pos ⟨rfl, rfl⟩)
      · exact two_7_k i j x1 x2 x3 y1 y2 y3 B sb vs ks W hS hBW hv hks hl hn hi' hj' hx hy kx.2.2.2.1 kx.2.2.2.2 ky.2.2.2.1 ky.2.2.2.2 (if_pos ⟨rfl, rfl⟩)
    · have hij : i ≠ j := by
        intro e; subst e
        rw [hx] at hy
        cases hy
        exact hy1 rfl
      have hnk : ∀ a b c, ¬ ((((1 : Int), a, b, c) : V).1 = 1 ∧ ((y0, y1, y2, y3) : V).1 = 1) := fun a b c h => hy1 h.2
      have hY0 : ((y0, y1, y2, y3) : V) ≠ kon 0 := fun e => hy1 (congrArg Prod.fst e)
      have hY1 : ((y0, y1, y2, y3) : V) ≠ kon 1 := fun e => hy1 (congrArg Prod.fst e)
      have hXY : ∀ a b c, (((1 : Int), a, b, c) : V) ≠ (y0, y1, y2, y3) := fun a b c e => hy1 (congrArg Prod.fst e).symm
      by_cases hX0 : (((1 : Int), x1, x2, x3) : V) = kon 0
      · obtain ⟨rfl, rfl, rfl⟩ : x1 = 0 ∧ x2 = 0 ∧ x3 = 0 := by simpa [kon] using hX0
        rcases Nat.lt_or_ge j i with hlt | hge
        · exact two_7_x0g i j y0 y1 y2 y3 B sb vs ks W hS hBW hv hks hl hn hi' hj' hx hy (by simpa using hy1) (decide_eq_false hy1) hy1 (by simp; omega) (decide_eq_false (by omega)) (by omega) (by omega) ((pair_none (hnk _ _ _) (sv_7_1 _ _ (hXY _ _ _))).trans (plain_swap qi qj ⟨rfl, hlt⟩))
        · exact two_7_x0l i j y0 y1 y2 y3 B sb vs ks W hS hBW hv hks hl hn hi' hj' hx hy (by simpa using hy1) (decide_eq_false hy1) hy1 (by simp; omega) (decide_eq_false (by omega)) (by omega) (by omega) ((pair_none (hnk _ _ _) (sv_7_1 _ _ (hXY _ _ _))).trans (plain_keep qi qj (fun h => by omega)))
      by_cases hX1 : (((1 : Int), x1, x2, x3) : V) = kon 1
      · obtain ⟨rfl, rfl, rfl⟩ : x1 = 0 ∧ x2 = 0 ∧ x3 = 1 := by simpa [kon] using hX1
        rcases Nat.lt_or_ge j i with hlt | hge
        · exact two_7_x1g i j y0 y1 y2 y3 B sb vs ks W hS hBW hv hks hl hn hi' hj' hx hy (by simpa using hy1) (decide_eq_false hy1) hy1 (by simp; omega) (decide_eq_false (by omega)) (by omega) (by omega) ((pair_none (hnk _ _ _) (sv_7_1 _ _ (hXY _ _ _))).trans (plain_swap qi qj ⟨rfl, hlt⟩))
        · exact two_7_x1l i j y0 y1 y2 y3 B sb vs ks W hS hBW hv hks hl hn hi' hj' hx hy (by simpa using hy1) (decide_eq_false hy1) hy1 (by simp; omega) (decide_eq_false (by omega)) (by omega) (by omega) ((pair_none (hnk _ _ _) (sv_7_1 _ _ (hXY _ _ _))).trans (plain_keep qi qj (fun h => by omega)))
      rcases Nat.lt_or_ge j i with hlt | hge
      · exact two_7_yg i j x1 x2 x3 y0 y1 y2 y3 B sb vs ks W hS hBW hv hks hl hn hi' hj' hx hy (by simpa using hy1) (decide_eq_false hy1) hy1 (by simp; omega) (decide_eq_false (by omega)) (by omega) hX0 hX1 hY0 hY1 (by omega) ((pair_none (hnk _ _ _) (sv_7_1 _ _ (hXY _ _ _))).trans (plain_swap qi qj ⟨rfl, hlt⟩))
      · exact two_7_yl i j x1 x2 x3 y0 y1 y2 y3 B sb vs ks W hS hBW hv hks hl hn hi' hj' hx hy (by simpa using hy1) (decide_eq_false hy1) hy1 (by simp; omega) (decide_eq_false (by omega)) (by omega) hX0 hX1 hY0 hY1 (by omega) ((pair_none (hnk _ _ _) (sv_7_1 _ _ (hXY _ _ _))).trans (plain_keep qi qj (fun h => by omega)))
  · have hnk : ∀ a b c d, ¬ (((x0, x1, x2, x3) : V).1 = 1 ∧ (((a : Int), b, c, d) : V).1 = 1) := fun a b c d h => hx1 h.1
    have hX0 : ((x0, x1, x2, x3) : V) ≠ kon 0 := fun e => hx1 (congrArg Prod.fst e)
    have hX1 : ((x0, x1, x2, x3) : V) ≠ kon 1 := fun e => hx1 (congrArg Prod.fst e)
    by_cases hij : i = j
    · subst hij
      rw [hx] at hy
      cases hy
      exact two_7_s i x0 x1 x2 x3 B sb vs ks W hS hBW hv hks hl hn hi' hx (by simpa using hx1) (decide_eq_false hx1) hx1 (pair_some (hnk _ _ _ _) (sv_7_0 _ _ rfl))
    · have hXY : ((x0, x1, x2, x3) : V) ≠ (y0, y1, y2, y3) := fun e => hij (at_inj hn hi hj (by rw [hx, hy]; exact e))
      by_cases hY0 : ((y0, y1, y2, y3) : V) = kon 0
      · obtain ⟨rfl, rfl, rfl, rfl⟩ : y0 = 1 ∧ y1 = 0 ∧ y2 = 0 ∧ y3 = 0 := by simpa [kon] using hY0
        rcases Nat.lt_or_ge j i with hlt | hge
        · exact two_7_y0g i j x0 x1 x2 x3 B sb vs ks W hS hBW hv hks hl hn hi' hj' hx hy (by simpa using hx1) (decide_eq_false hx1) hx1 (by simp; omega) (decide_eq_false (by omega)) (by omega) (by omega) ((pair_none (hnk _ _ _ _) (sv_7_1 _ _ (hXY))).trans (plain_swap qi qj ⟨rfl, hlt⟩))
        · exact two_7_y0l i j x0 x1 x2 x3 B sb vs ks W hS hBW hv hks hl hn hi' hj' hx hy (by simpa using hx1) (decide_eq_false hx1) hx1 (by simp; omega) (decide_eq_false (by omega)) (by omega) (by omega) ((pair_none (hnk _ _ _ _) (sv_7_1 _ _ (hXY))).trans (plain_keep qi qj (fun h => by omega)))
      by_cases hY1 : ((y0, y1, y2, y3) : V) = kon 1
      · obtain ⟨rfl, rfl, rfl, rfl⟩ : y0 = 1 ∧ y1 = 0 ∧ y2 = 0 ∧ y3 = 1 := by simpa [kon] using hY1
        rcases Nat.lt_or_ge j i with hlt | hge
        · exact two_7_y1g i j x0 x1 x2 x3 B sb vs ks W hS hBW hv hks hl hn hi' hj' hx hy (by simpa using hx1) (decide_eq_false hx1) hx1 (by simp; omega) (decide_eq_false (by omega)) (by omega) (by omega) ((pair_none (hnk _ _ _ _) (sv_7_1 _ _ (hXY))).trans (plain_swap qi qj ⟨rfl, hlt⟩))
        · exact two_7_y1l i j x0 x1 x2 x3 B sb vs ks W hS hBW hv hks hl hn hi' hj' hx hy (by simpa using hx1) (decide_eq_false hx1) hx1 (by simp; omega) (decide_eq_false (by omega)) (by omega) (by omega) ((pair_none (hnk _ _ _ _) (sv_7_1 _ _ (hXY))).trans (plain_keep qi qj (fun h => by omega)))
      rcases Nat.lt_or_ge j i with hlt | hge
      · exact two_7_xg i j x0 x1 x2 x3 y0 y1 y2 y3 B sb vs ks W hS hBW hv hks hl hn hi' hj' hx hy (by simpa using hx1) (decide_eq_false hx1) hx1 (by simp; omega) (decide_eq_false (by omega)) (by omega) hX0 hX1 hY0 hY1 (by omega) ((pair_none (hnk _ _ _ _) (sv_7_1 _ _ (hXY))).trans (plain_swap qi qj ⟨rfl, hlt⟩))
      · exact two_7_xl i j x0 x1 x2 x3 y0 y1 y2 y3 B sb vs ks W hS hBW hv hks hl hn hi' hj' hx hy (by simpa using hx1) (decide_eq_false hx1) hx1 (by simp; omega) (decide_eq_false (by omega)) (by omega) hX0 hX1 hY0 hY1 (by omega) ((pair_none (hnk _ _ _ _) (sv_7_1 _ _ (hXY))).trans (plain_keep qi qj (fun h => by omega)))
theorem spec_twoV (o : Int) (i j : Nat) (B sb : Nat) (vs : List V) (ks : List Int) (W : World) (o3 : 3 ≤ o) (o7 : o ≤ 7) (hS : St W B sb vs ks) (hBW : B ≤ W.heap.size) (hv : 0 < vs.length) (hks : 0 < ks.length) (hl : vs.length ≤ 1000) (hn : vs.Nodup) (hok : ∀ v ∈ vs, okV v) (hi : i < vs.length) (hj : j < vs.length) :
    Calls Try.prog 55 #[.pointer (some ⟨sb, 0, none⟩), .int .i64 o, .int .i64 (i : Int), .int .i64 (j : Int)] W fun e W' => FindAns W B sb vs ks (pairV vs o (vs.getD i zV) (vs.getD j zV)) e W' := by
  obtain rfl | rfl | rfl | rfl | rfl : o = 3 ∨ o = 4 ∨ o = 5 ∨ o = 6 ∨ o = 7 := by omega
  · exact two_3 i j B sb vs ks W hS hBW hv hks hl hn hok hi hj
  · exact two_4 i j B sb vs ks W hS hBW hv hks hl hn hok hi hj
  · exact two_5 i j B sb vs ks W hS hBW hv hks hl hn hok hi hj
  · exact two_6 i j B sb vs ks W hS hBW hv hks hl hn hok hi hj
  · exact two_7 i j B sb vs ks W hS hBW hv hks hl hn hok hi hj
end Go.Proofs.Ytldmeffhbabanaa.nums
