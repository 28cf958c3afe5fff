/-
  The cover by the patterns with the least costs: it is there where the least costs are, and costs just these.
-/
import Derived.Test.YtapbfoooflpejaaBestMath
import Derived.Test.YtapbfoooflpejaaPiecesMath
import Derived.Test.YtapbfoooflpejaaBestSpec
import Derived.Test.YtapbfoooflpejaaCoverBy
namespace Go.Proofs.Ytapbfoooflpejaa.walks
open Go.Proofs.Ytapbfoooflpejaa.math
set_option linter.unusedVariables false

theorem sumP_congr {s s' : Bs} : ∀ (hs : List Nat) (c : Int), (∀ x ∈ hs, s x = s' x) → sumP s hs c = sumP s' hs c
  | [], c, _ => rfl
  | h :: hs, c, e => by
    simp only [sumP]
    rw [e h (List.mem_cons_self ..)]
    exact sumP_congr hs _ (fun x hx => e x (List.mem_cons_of_mem _ hx))
/-- What a place's pattern is. -/
def OkB (t : List Int) (f : Nat → Pv) (n : Nat) (s : Bs) (a : Nat) : Prop := (s a).2 ≠ 0 → ∃ hs, (s a).1 < n ∧ fitL t (f (s a).1).zs a = some hs ∧ (s a).2 = sumP s hs (f (s a).1).c ∧ ∀ x ∈ hs, (s x).2 ≠ 0
theorem round_ok {t : List Int} {f : Nat → Pv} {n q : Nat} {s : Bs} (ht : wholeB false t = true) (hl : t.length ≤ 40) (hg : GoodPs f n) (hq : q < t.length) (hb : Bnd t s) (h0 : (s q).2 = 0) : ∀ k, k ≤ n → (roundB t f q s k q).2 ≠ 0 → ∃ hs, (roundB t f q s k q).1 < k ∧ fitL t (f (roundB t f q s k q).1).zs q = some hs ∧ (roundB t f q s k q).2 = sumP s hs (f (roundB t f q s k q).1).c ∧ ∀ x ∈ hs, (s x).2 ≠ 0
  | 0, _, h => absurd h0 h
  | k + 1, hk, h => by
    have ih := round_ok ht hl hg hq hb h0 k (by omega)
    have hbk := roundB_bnd ht hl hg hq hb k (by omega)
    simp only [roundB] at h ⊢
    have old : (roundB t f q s k q).2 ≠ 0 → ∃ hs, (roundB t f q s k q).1 < k + 1 ∧ fitL t (f (roundB t f q s k q).1).zs q = some hs ∧ (roundB t f q s k q).2 = sumP s hs (f (roundB t f q s k q).1).c ∧ ∀ x ∈ hs, (s x).2 ≠ 0 := fun e => by
      obtain ⟨hs, a1, a2, a3, a4⟩ := ih e
      exact ⟨hs, by omega, a2, a3, a4⟩
    cases hc : costB t f (roundB t f q s k) k q with
    | none => rw [hc, takeB_none] at h; rw [takeB_none]; exact old h
    | some c =>
      rw [hc] at h
      by_cases e : (roundB t f q s k q).2 = 0 ∨ c < (roundB t f q s k q).2
      · rw [takeB_yes e, updB_same]
        obtain ⟨_, _, hs, hf, he, hne⟩ := costB_bound ht hl hg (by omega) hq hbk hc
        obtain ⟨g1, g2, g3, g4, g5⟩ := hg k (by omega)
        have hin := fit_behind ht g3 hq g2 hf
        have hsame : ∀ x ∈ hs, roundB t f q s k x = s x := fun x hx => roundB_other _ _ _ (by have := (hin x hx).1; omega) k
        exact ⟨hs, by show k < k + 1; omega, hf, by show c = _; rw [he]; exact sumP_congr hs _ hsame, fun x hx => by rw [← hsame x hx]; exact hne x hx⟩
      · have e1 : (roundB t f q s k q).2 ≠ 0 := fun q => e (Or.inl q)
        have e2 : (roundB t f q s k q).2 ≤ c := by omega
        rw [takeB_no e1 e2] at h ⊢
        exact old h
theorem st_ok {t : List Int} {f : Nat → Pv} {n : Nat} (ht : wholeB false t = true) (hl : t.length ≤ 40) (hg : GoodPs f n) : ∀ (d m : Nat), m + d = t.length → ∀ a, m ≤ a → a < t.length → OkB t f n (stB t f n t.length m) a
  | 0, m, hd, a, h1, h2 => by omega
  | d + 1, m, hd, a, h1, h2 => by
    have hm : m < t.length := by omega
    have hb : Bnd t (stB t f n t.length (m + 1)) := foldB_bnd rfl ht hl hg _
    have h0 := stB_none (t := t) (f := f) (n := n) (tl := t.length) (t.length - (m + 1)) (m + 1) (by omega) m (by omega)
    have ih := st_ok ht hl hg d (m + 1) (by omega)
    rw [stB_next hm]
    generalize stB t f n t.length (m + 1) = s at hb h0 ih
    have same : ∀ x, x ≠ m → roundB t f m s n x = s x := fun x hx => roundB_other _ _ _ hx n
    by_cases e : a = m
    · subst e
      intro hne
      obtain ⟨hs, r1, r2, r3, r4⟩ := round_ok ht hl hg hm hb (by rw [h0]) n (Nat.le_refl _) hne
      obtain ⟨g1, g2, g3, g4, g5⟩ := hg _ r1
      have hin := fit_behind ht g3 hm g2 r2
      have hsame : ∀ x ∈ hs, roundB t f a s n x = s x := fun x hx => same x (by have := (hin x hx).1; omega)
      exact ⟨hs, r1, r2, r3.trans (sumP_congr hs _ (fun x hx => (hsame x hx).symm)), fun x hx => by rw [hsame x hx]; exact r4 x hx⟩
    · have hs0 := same a e
      intro hne
      rw [hs0] at hne
      obtain ⟨hs, r1, r2, r3, r4⟩ := ih a (by omega) h2 hne
      obtain ⟨g1, g2, g3, g4, g5⟩ := hg _ r1
      have hin := fit_behind ht g3 h2 g2 r2
      have hsame : ∀ x ∈ hs, roundB t f m s n x = s x := fun x hx => same x (by have := (hin x hx).1; omega)
      rw [hs0]
      exact ⟨hs, r1, r2, r3.trans (sumP_congr hs _ (fun x hx => (hsame x hx).symm)), fun x hx => by rw [hsame x hx]; exact r4 x hx⟩
theorem least_ok {t : List Int} {f : Nat → Pv} {n a : Nat} (ht : wholeB false t = true) (hl : t.length ≤ 40) (hg : GoodPs f n) (ha : a < t.length) : OkB t f n (leastS t f n) a := by
  have := st_ok ht hl hg t.length 0 (by omega) a (Nat.zero_le _) ha
  have e : stB t f n t.length 0 = leastS t f n := by unfold leastS stB; rw [Nat.sub_zero]
  rw [e] at this
  exact this
/-- The choice. -/
def chL (t : List Int) (f : Nat → Pv) (n a : Nat) : Option Nat := if a < t.length ∧ (leastS t f n a).2 ≠ 0 then some (leastS t f n a).1 else none
theorem chL_yes {t : List Int} {f : Nat → Pv} {n a : Nat} (ha : a < t.length) (h : (leastS t f n a).2 ≠ 0) : chL t f n a = some (leastS t f n a).1 := if_pos ⟨ha, h⟩
theorem chL_no {t : List Int} {f : Nat → Pv} {n a : Nat} (h : (leastS t f n a).2 = 0) : chL t f n a = none := if_neg (fun q => q.2 h)
theorem chL_out {t : List Int} {f : Nat → Pv} {n a k : Nat} (h : chL t f n a = some k) : a < t.length ∧ (leastS t f n a).2 ≠ 0 ∧ (leastS t f n a).1 = k := by
  unfold chL at h
  split at h
  · rename_i q; exact ⟨q.1, q.2, Option.some.inj h⟩
  · cases h
theorem chL_in {t : List Int} {f : Nat → Pv} {n : Nat} (ht : wholeB false t = true) (hl : t.length ≤ 40) (hg : GoodPs f n) : ChB (chL t f n) n := fun a k h => by
  obtain ⟨h1, h2, h3⟩ := chL_out h
  obtain ⟨hs, r1, _⟩ := least_ok ht hl hg h1 h2
  omega
theorem chL_fit {t : List Int} {f : Nat → Pv} {n a k : Nat} (ht : wholeB false t = true) (hl : t.length ≤ 40) (hg : GoodPs f n) (h : chL t f n a = some k) : ∃ hs, fitL t (f k).zs a = some hs := by
  obtain ⟨h1, h2, h3⟩ := chL_out h
  obtain ⟨hs, _, r2, _⟩ := least_ok ht hl hg h1 h2
  exact ⟨hs, by rw [← h3]; exact r2⟩
def sumL (s : Bs) (os : List Nat) : Int := (os.map fun o => (s o).2).sum
theorem sumL_app (s : Bs) (a b : List Nat) : sumL s (a ++ b) = sumL s a + sumL s b := by simp [sumL]
theorem sumL_cons (s : Bs) (o : Nat) (os : List Nat) : sumL s (o :: os) = (s o).2 + sumL s os := by simp [sumL]
theorem sumP_sum (s : Bs) : ∀ (hs : List Nat) (c : Int), sumP s hs c = c + sumL s hs
  | [], c => by simp [sumP, sumL]
  | h :: hs, c => by
    simp only [sumP]
    rw [sumP_sum s hs, sumL_cons]
    omega
theorem best_pcs {t : List Int} {f : Nat → Pv} {n : Nat} (ht : wholeB false t = true) (hl : t.length ≤ 40) (hg : GoodPs f n) : ∀ (N : Nat) (os : List Nat), szS t os ≤ N → OpenB t os → (∀ o ∈ os, (leastS t f n o).2 ≠ 0) → ∃ ps, pcs t f (chL t f n) os = some ps ∧ costP f ps = sumL (leastS t f n) os
  | N, [], _, _, _ => ⟨[], pcs_nil, rfl⟩
  | 0, a :: os, hs, ho, _ => by
    have := open_len ht (a :: os) ho
    simp at this
    omega
  | N + 1, a :: os, hs, ho, hne => by
    have ha := ho a (List.mem_cons_self ..)
    have hna := hne a (List.mem_cons_self ..)
    obtain ⟨hh, r1, r2, r3, r4⟩ := least_ok ht hl hg ha hna
    have hk := chL_yes ha hna
    have hc := chL_in ht hl hg
    obtain ⟨ho', hs'⟩ := open_app ht hg hc ho hk r2
    obtain ⟨ps, p1, p2⟩ := best_pcs ht hl hg N (hh ++ os) (by omega) ho' (fun o hx => by
      rcases List.mem_append.1 hx with q | q
      · exact r4 o q
      · exact hne o (List.mem_cons_of_mem _ q))
    refine ⟨(a, (leastS t f n a).1) :: ps, ?_, ?_⟩
    · rw [pcs_some ht hg hc ho hk r2, p1]; rfl
    · simp only [costP]
      rw [p2, sumL_app, sumL_cons, r3, sumP_sum]
      omega
theorem best_none {t : List Int} {f : Nat → Pv} {n : Nat} (ht : wholeB false t = true) (hl : t.length ≤ 40) (hg : GoodPs f n) (h : (leastS t f n 0).2 = 0) : pcs t f (chL t f n) [0] = none :=
  pcs_none ht hg (chL_in ht hl hg) (fun o ho => by simp at ho; subst ho; exact (whole_iff.1 ht).1) (chL_no h)
theorem best_some {t : List Int} {f : Nat → Pv} {n : Nat} (ht : wholeB false t = true) (hl : t.length ≤ 40) (hg : GoodPs f n) (h : (leastS t f n 0).2 ≠ 0) : ∃ ps, pcs t f (chL t f n) [0] = some ps ∧ costP f ps = (leastS t f n 0).2 := by
  obtain ⟨ps, h1, h2⟩ := best_pcs ht hl hg _ [0] (Nat.le_refl _) (fun o ho => by simp at ho; subst ho; exact (whole_iff.1 ht).1) (fun o ho => by simp at ho; subst ho; exact h)
  exact ⟨ps, h1, by rw [h2, sumL_cons]; simp [sumL]⟩
end Go.Proofs.Ytapbfoooflpejaa.walks
