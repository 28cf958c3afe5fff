/-
  A list without doubles, put number by number into a rising one; what grows till all that is reached is in it.
-/
import Derived.Test.YtokaibpkajloeaaMagMath
import Derived.Test.YtokaibpkajloeaaNamesMath
import Derived.Test.YtokaibpkajloeaaDeep
import Derived.Test.YtokaibpkajloeaaDeepRow
import Derived.Test.YtokaibpkajloeaaMarkMath
import Derived.Test.YtokaibpkajloeaaLiveMath15
namespace Go.Proofs.Ytokaibpkajloeaa.math
open Go Go.Proofs.Ytokaibpkajloeaa.deep
set_option linter.unusedVariables false

theorem not_at {m : List Int} {k : Nat} {n : Int} (hm : n ∉ m) : k < m.length → m.getD k 0 ≠ n := fun hk q => hm (by
  have e : m.getD k 0 = m[k] := by simp [List.getD, List.getElem?_eq_getElem hk]
  rw [← q, e]
  exact List.getElem_mem hk)
theorem putL_less {l : List Int} {x n : Int} (h : x < n) (hn : n ∉ l) : putL (x :: l) n = x :: putL l n := by
  have e : putK (x :: l) n = putK l n + 1 := by
    unfold putK
    rw [List.takeWhile_cons, if_pos (by simpa using h)]
    rfl
  rw [putL_new (not_at (by simp; exact ⟨by omega, hn⟩)), putL_new (not_at hn), e]
  simp
theorem putL_more {l : List Int} {x n : Int} (h : n < x) : putL (x :: l) n = n :: x :: l := by
  have e : putK (x :: l) n = 0 := by
    unfold putK
    rw [List.takeWhile_cons, if_neg (by simp; omega)]
    rfl
  rw [putL_new (by rw [e]; intro _; simp; omega), e]
  simp
theorem putL_nil (n : Int) : putL [] n = [n] := by
  rw [putL_new (by simp)]
  simp
theorem put_in : ∀ {l : List Int} {n : Int}, l.Pairwise (· < ·) → n ∉ l → (putL l n).Pairwise (· < ·) ∧ ∀ x, x ∈ putL l n ↔ x = n ∨ x ∈ l
  | [], n, _, _ => by rw [putL_nil]; simp
  | y :: l, n, h, hn => by
    rw [List.pairwise_cons] at h
    by_cases q : y < n
    · obtain ⟨a, b⟩ := put_in (n := n) h.2 (fun r => hn (List.mem_cons_of_mem _ r))
      rw [putL_less q (fun r => hn (List.mem_cons_of_mem _ r))]
      refine ⟨?_, fun x => ?_⟩
      · rw [List.pairwise_cons]
        refine ⟨fun x hx => ?_, a⟩
        rcases (b x).1 hx with r | r
        · omega
        · exact h.1 x r
      · rw [List.mem_cons, b x, List.mem_cons]
        constructor
        · rintro (r | r | r)
          · exact Or.inr (Or.inl r)
          · exact Or.inl r
          · exact Or.inr (Or.inr r)
        · rintro (r | r | r)
          · exact Or.inr (Or.inl r)
          · exact Or.inl r
          · exact Or.inr (Or.inr r)
    · have q2 : n < y := by
        have : n ≠ y := fun r => hn (by rw [r]; simp)
        omega
      rw [putL_more q2]
      refine ⟨?_, fun x => by rw [List.mem_cons]⟩
      rw [List.pairwise_cons, List.pairwise_cons]
      exact ⟨fun x hx => by
        rcases List.mem_cons.1 hx with r | r
        · omega
        · have := h.1 x r; omega, h⟩
/-- The first k of a list, put into nothing one by one. -/
def putAll (zs : List Int) : Nat → List Int
  | 0 => []
  | k + 1 => putL (putAll zs k) (zs.getD k 0)
theorem putAll_in {zs : List Int} (hz : zs.Nodup) : ∀ k, k ≤ zs.length → (putAll zs k).Pairwise (· < ·) ∧ (∀ x, x ∈ putAll zs k ↔ ∃ i, i < k ∧ zs.getD i 0 = x) ∧ (k < zs.length → zs.getD k 0 ∉ putAll zs k)
  | 0, _ => ⟨List.Pairwise.nil, fun x => by unfold putAll; simp, fun _ => by unfold putAll; simp⟩
  | k + 1, hk => by
    obtain ⟨a, b, c⟩ := putAll_in hz k (by omega)
    obtain ⟨p, q⟩ := put_in a (c (by omega))
    have mem : ∀ x, x ∈ putAll zs (k + 1) ↔ ∃ i, i < k + 1 ∧ zs.getD i 0 = x := fun x => by
      show x ∈ putL _ _ ↔ _
      rw [q x, b x]
      constructor
      · rintro (r | ⟨i, hi, r⟩)
        · exact ⟨k, by omega, r.symm⟩
        · exact ⟨i, by omega, r⟩
      · rintro ⟨i, hi, r⟩
        by_cases e : i = k
        · subst e; exact Or.inl r.symm
        · exact Or.inr ⟨i, by omega, r⟩
    refine ⟨p, mem, fun hk2 hm => ?_⟩
    obtain ⟨i, hi, r⟩ := (mem _).1 hm
    have e1 : zs.getD i 0 = zs[i]'(by omega) := by simp [List.getD, List.getElem?_eq_getElem (show i < zs.length by omega)]
    have e2 : zs.getD (k + 1) 0 = zs[k + 1]'hk2 := by simp [List.getD, List.getElem?_eq_getElem hk2]
    rw [e1, e2] at r
    exact absurd r (List.pairwise_iff_getElem.1 hz i (k + 1) (by omega) hk2 hi)
theorem putAll_len {zs : List Int} (hz : zs.Nodup) : ∀ k, k ≤ zs.length → (putAll zs k).length = k
  | 0, _ => rfl
  | k + 1, hk => by
    obtain ⟨a, b, c⟩ := putAll_in hz k (by omega)
    have hn : zs.getD k 0 ∉ putAll zs k := c (by omega)
    show (putL _ _).length = _
    rw [putL_new (not_at hn)]
    have := putK_le (putAll zs k) (zs.getD k 0)
    have := putAll_len hz k (by omega)
    simp; omega
theorem sorted_same15 : ∀ {l l' : List Int}, l.Pairwise (· < ·) → l'.Pairwise (· < ·) → (∀ x, x ∈ l ↔ x ∈ l') → l = l'
  | [], [], _, _, _ => rfl
  | [], y :: l', _, _, h => by have := (h y).2 (by simp); simp at this
  | x :: l, [], _, _, h => by have := (h x).1 (by simp); simp at this
  | x :: l, y :: l', h1, h2, h => by
    rw [List.pairwise_cons] at h1 h2
    have e : x = y := by
      have a := (h x).1 (by simp)
      have b := (h y).2 (by simp)
      rcases List.mem_cons.1 a with r | r
      · exact r
      · rcases List.mem_cons.1 b with q | q
        · exact q.symm
        · have := h2.1 x r
          have := h1.1 y q
          omega
    subst e
    congr 1
    refine sorted_same15 h1.2 h2.2 (fun z => ⟨fun q => ?_, fun q => ?_⟩)
    · rcases List.mem_cons.1 ((h z).1 (List.mem_cons_of_mem _ q)) with r | r
      · subst r; have := h1.1 z q; omega
      · exact r
    · rcases List.mem_cons.1 ((h z).2 (List.mem_cons_of_mem _ q)) with r | r
      · subst r; have := h2.1 z q; omega
      · exact r
/-- A row without doubles of numbers below n is no longer than n. -/
theorem few : ∀ (n : Nat) (zs : List Int), zs.Nodup → (∀ x ∈ zs, ∃ k : Nat, x = (k : Int) ∧ k < n) → zs.length ≤ n
  | 0, zs, _, h => by
    cases zs with
    | nil => simp
    | cons x l => obtain ⟨k, _, hk⟩ := h x (by simp); omega
  | n + 1, zs, hz, h => by
    have q := few n (zs.filter (fun x => decide (x ≠ (n : Int)))) (hz.filter _) (fun x hx => by
      rw [List.mem_filter] at hx
      obtain ⟨k, e, hk⟩ := h x hx.1
      have := of_decide_eq_true hx.2
      exact ⟨k, e, by omega⟩)
    have r : zs.length ≤ (zs.filter (fun x => decide (x ≠ (n : Int)))).length + 1 := by
      clear q h
      induction zs with
      | nil => simp
      | cons x l ih =>
        rw [List.nodup_cons] at hz
        by_cases e : x = (n : Int)
        · have hf : l.filter (fun x => decide (x ≠ (n : Int))) = l := by
            rw [List.filter_eq_self]
            intro y hy
            refine decide_eq_true (fun q => hz.1 ?_)
            rw [e, ← q]; exact hy
          rw [List.filter_cons, if_neg (by simp [e]), hf]; simp
        · rw [List.filter_cons, if_pos (by simp [e])]
          have := ih hz.2
          simp only [List.length_cons]
          omega
    omega
end Go.Proofs.Ytokaibpkajloeaa.math
