/-
  Numbered code tells and leaves what the code did, is good, and costs no more.
-/
import Derived.Test.YtldmeffhbabanaaNumSound
import Derived.Test.YtldmeffhbabanaaNumCode
import Derived.Test.YtldmeffhbabanaaCost
namespace Go.Proofs.Ytldmeffhbabanaa.nums
open Go Go.Proofs.Ytldmeffhbabanaa.math Go.Proofs.Ytldmeffhbabanaa.walks
set_option linter.unusedVariables false

theorem out_pre (zs : List Int) (j : Nat) : ∀ len, ∀ i, i < len * 5 → len ≤ j → (outTo zs j).getD i 0 = (outTo zs len).getD i 0 := by
  induction j with
  | zero => intro len i hi hl; omega
  | succ j ih =>
    intro len i hi hl
    by_cases e : len = j + 1
    · rw [e]
    · simp only [outTo]
      rw [getD_app (by rw [out_len]; omega)]
      exact ih len i hi (by omega)
theorem out_at (zs : List Int) {len k : Nat} (hk : k < len) : ∀ i, i < 5 → (outTo zs len).getD (k * 5 + i) 0 = (flat5 (cheapI (numTo zs k).1 (numTo zs k).2 (zs.getD (k * 5) 0) (zs.getD (k * 5 + 1) 0) (zs.getD (k * 5 + 2) 0) (zs.getD (k * 5 + 3) 0) (zs.getD (k * 5 + 4) 0))).getD i 0 := by
  intro i hi
  rw [out_pre zs len (k + 1) (k * 5 + i) (by omega) (by omega)]
  simp only [outTo]
  have hl := out_len zs k
  rw [List.getD, List.getElem?_append_right (by omega), hl, show k * 5 + i - k * 5 = i by omega]
  rfl
/-- What a step becomes: good, no dearer, and it does the same. -/
theorem cheap_right {ws cur : List Int} {vs ns : List V} {D : List Int} {m : Nat} {o d a b n : Int} (hI : Inv vs ns m) (hm : m ≤ 65535) (h : Snd ws vs ns cur D) (g : goodI o d a b n = true) :
    goodI (cheapI vs ns o d a b n).1 (cheapI vs ns o d a b n).2.1 (cheapI vs ns o d a b n).2.2.1 (cheapI vs ns o d a b n).2.2.2.1 (cheapI vs ns o d a b n).2.2.2.2 = true ∧ costI (cheapI vs ns o d a b n).1 ≤ costI o ∧
      stepW cur (cheapI vs ns o d a b n).1 (cheapI vs ns o d a b n).2.1 (cheapI vs ns o d a b n).2.2.1 (cheapI vs ns o d a b n).2.2.2.1 (cheapI vs ns o d a b n).2.2.2.2 = stepW cur o d a b n ∧ toldBy cur (cheapI vs ns o d a b n).1 (cheapI vs ns o d a b n).2.2.1 = toldBy cur o a := by
  unfold cheapI
  by_cases h8 : o = 8
  · rw [if_pos h8]; exact ⟨g, Int.le_refl _, rfl, rfl⟩
  · rw [if_neg h8]
    have hd := dst_of g h8
    have hv := val_ok hI hm g h8
    have hw := val_word hI h g h8
    have hc0 := (cost_bd o).1
    generalize valV vs ns o a b n = v at hv hw
    unfold cheapV
    have ht : toldBy cur o a = [] := if_neg h8
    by_cases h1 : v.1 = 1
    · rw [if_pos h1]
      have e1 : wordV ws D v = v.2.2.2 := by unfold wordV; rw [if_neg (by omega), if_pos h1]
      refine ⟨?_, ?_, ?_, ?_⟩
      · rw [goodI_1]; simp only [inR_mk hd.1 hd.2, inR_mk hv.2.2.2.1 hv.2.2.2.2]; rfl
      · simpa [costI] using hc0
      · unfold stepW
        rw [if_neg (by simp), if_neg h8, if_pos rfl, ← hw, e1]
      · rw [ht]; exact if_neg (by simp)
    · rw [if_neg h1]
      by_cases hmem : v ∈ ns
      · rw [if_pos hmem]
        have hj : idx ns v < 8 := by have := idx_lt hmem; rw [hI.len] at this; exact this
        refine ⟨?_, ?_, ?_, ?_⟩
        · rw [goodI_2]; simp only [inR_mk hd.1 hd.2, inR_mk (show (0 : Int) ≤ (idx ns v : Int) by omega) (show (idx ns v : Int) ≤ 7 by omega)]; rfl
        · simpa [costI] using hc0
        · unfold stepW
          rw [if_neg (by simp), if_neg h8, if_neg (by simp), if_pos rfl, ← hw]
          simp only [Int.toNat_natCast]
          rw [h.words _ hj, idx_get hmem, h.den.of (hI.mem v hmem)]
        · rw [ht]; exact if_neg (by simp)
      · rw [if_neg hmem]; exact ⟨g, Int.le_refl _, rfl, rfl⟩
theorem out_step {zs ws : List Int} {len k : Nat} (hc : codeB zs len = true) (hw : wordsB ws = true) (hk : k < len) :
    stepB (outTo zs len) k = true ∧ costI ((outTo zs len).getD (k * 5) 0) ≤ costI (zs.getD (k * 5) 0) ∧
      stepW (runW zs ws k) ((outTo zs len).getD (k * 5) 0) ((outTo zs len).getD (k * 5 + 1) 0) ((outTo zs len).getD (k * 5 + 2) 0) ((outTo zs len).getD (k * 5 + 3) 0) ((outTo zs len).getD (k * 5 + 4) 0) = runW zs ws (k + 1) ∧ toldBy (runW zs ws k) ((outTo zs len).getD (k * 5) 0) ((outTo zs len).getD (k * 5 + 2) 0) = toldBy (runW zs ws k) (zs.getD (k * 5) 0) (zs.getD (k * 5 + 2) 0) := by
  obtain ⟨D, hD⟩ := snd_to hc hw k (by omega)
  have h30 := (code_out hc).1
  obtain ⟨h1, h2, h3, h4⟩ := cheap_right (inv_to hc k (by omega)) (show 8 + k ≤ 65535 by omega) hD ((code_out hc).2 k hk)
  have e0 := out_at zs hk 0 (by omega)
  have e1 := out_at zs hk 1 (by omega)
  have e2 := out_at zs hk 2 (by omega)
  have e3 := out_at zs hk 3 (by omega)
  have e4 := out_at zs hk 4 (by omega)
  rw [Nat.add_zero] at e0
  unfold stepB
  rw [e0, e1, e2, e3, e4]
  exact ⟨h1, h2, h3, h4⟩
theorem words_zero : wordsB [0, 0, 0, 0, 0, 0, 0, 0] = true := by decide
theorem out_good {zs : List Int} {len : Nat} (hc : codeB zs len = true) : codeB (outTo zs len) len = true := code_mk (code_out hc).1 (fun k hk => (out_step hc words_zero hk).1)
theorem out_cost {zs : List Int} {len : Nat} (hc : codeB zs len = true) : ∀ k, k ≤ len → costTo (outTo zs len) k ≤ costTo zs k
  | 0, _ => Int.le_refl _
  | k + 1, hk => by
    have h1 := out_cost hc k (by omega)
    have h2 := (out_step hc words_zero (show k < len by omega)).2.1
    simp only [costTo]
    omega
theorem out_run {zs ws : List Int} {len : Nat} (hc : codeB zs len = true) (hw : wordsB ws = true) : ∀ k, k ≤ len → runW (outTo zs len) ws k = runW zs ws k ∧ toldTo (outTo zs len) ws k = toldTo zs ws k
  | 0, _ => ⟨rfl, rfl⟩
  | k + 1, hk => by
    obtain ⟨h1, h2⟩ := out_run hc hw k (by omega)
    obtain ⟨_, _, h3, h4⟩ := out_step hc hw (show k < len by omega)
    refine ⟨?_, ?_⟩
    · rw [show runW (outTo zs len) ws (k + 1) = stepW (runW (outTo zs len) ws k) ((outTo zs len).getD (k * 5) 0) ((outTo zs len).getD (k * 5 + 1) 0) ((outTo zs len).getD (k * 5 + 2) 0) ((outTo zs len).getD (k * 5 + 3) 0) ((outTo zs len).getD (k * 5 + 4) 0) from rfl, h1, h3]
    · rw [show toldTo (outTo zs len) ws (k + 1) = toldTo (outTo zs len) ws k ++ toldBy (runW (outTo zs len) ws k) ((outTo zs len).getD (k * 5) 0) ((outTo zs len).getD (k * 5 + 2) 0) from rfl, h1, h2, h4]
      rfl
end Go.Proofs.Ytldmeffhbabanaa.nums
