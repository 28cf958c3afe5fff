/-
  Code in two parts does what it does whole, and looks at just the names that are needed: no Go program in sight.
-/
import Derived.Test.YtfejfbafoaiidaaMagMath
import Derived.Test.YtfejfbafoaiidaaCodeMath
import Derived.Test.YtfejfbafoaiidaaRunMath
import Derived.Test.YtfejfbafoaiidaaNamesMath
namespace Go.Proofs.Ytfejfbafoaiidaa.math
open Go
set_option linter.unusedVariables false

theorem getD_take {zs : List Int} {m i : Nat} (h : i < m) : (zs.take m).getD i 0 = zs.getD i 0 := by simp [List.getD, h]
theorem getD_drop {zs : List Int} {m i : Nat} : (zs.drop m).getD i 0 = zs.getD (m + i) 0 := by simp [List.getD, List.getElem?_drop]
theorem set_same {l : List Int} {d : Nat} {v : Int} (h : d < l.length) : (l.set d v).getD d 0 = v := by simp [List.getD, h]
theorem set_other {l : List Int} {d i : Nat} {v : Int} (h : d ≠ i) : (l.set d v).getD i 0 = l.getD i 0 := by simp [List.getD, List.getElem?_set_ne h]
theorem step_take {zs : List Int} {k j : Nat} (h : j < k) : stepB (zs.take (k * 5)) j = stepB zs j := by
  unfold stepB
  rw [getD_take (by omega), getD_take (by omega), getD_take (by omega), getD_take (by omega), getD_take (by omega)]
theorem step_drop {zs : List Int} {k j : Nat} : stepB (zs.drop (k * 5)) j = stepB zs (k + j) := by
  unfold stepB
  rw [getD_drop, getD_drop, getD_drop, getD_drop, getD_drop]
  rw [show k * 5 + j * 5 = (k + j) * 5 by omega, show k * 5 + (j * 5 + 1) = (k + j) * 5 + 1 by omega, show k * 5 + (j * 5 + 2) = (k + j) * 5 + 2 by omega, show k * 5 + (j * 5 + 3) = (k + j) * 5 + 3 by omega, show k * 5 + (j * 5 + 4) = (k + j) * 5 + 4 by omega]
theorem code_take {zs : List Int} {k len : Nat} (h : codeB zs len = true) (hk : k ≤ len) : codeB (zs.take (k * 5)) k = true := by
  obtain ⟨h0, h1⟩ := code_out h
  exact code_mk (by omega) fun j hj => by rw [step_take hj]; exact h1 j (by omega)
theorem code_drop {zs : List Int} {k len : Nat} (h : codeB zs len = true) (hk : k ≤ len) : codeB (zs.drop (k * 5)) (len - k) = true := by
  obtain ⟨h0, h1⟩ := code_out h
  exact code_mk (by omega) fun j hj => by rw [step_drop]; exact h1 (k + j) (by omega)
theorem run_take {zs ws : List Int} {k : Nat} : ∀ j, j ≤ k → runW (zs.take (k * 5)) ws j = runW zs ws j
  | 0, _ => rfl
  | j + 1, h => by
    simp only [runW]
    rw [run_take j (by omega), getD_take (by omega), getD_take (by omega), getD_take (by omega), getD_take (by omega), getD_take (by omega)]
theorem told_take {zs ws : List Int} {k : Nat} : ∀ j, j ≤ k → toldTo (zs.take (k * 5)) ws j = toldTo zs ws j
  | 0, _ => rfl
  | j + 1, h => by
    simp only [toldTo]
    rw [told_take j (by omega), run_take j (by omega), getD_take (by omega), getD_take (by omega)]
theorem run_drop {zs ws : List Int} {k : Nat} : ∀ j, runW (zs.drop (k * 5)) (runW zs ws k) j = runW zs ws (k + j)
  | 0 => rfl
  | j + 1 => by
    rw [show k + (j + 1) = (k + j) + 1 by omega]
    simp only [runW]
    rw [run_drop j, getD_drop, getD_drop, getD_drop, getD_drop, getD_drop]
    rw [show k * 5 + j * 5 = (k + j) * 5 by omega, show k * 5 + (j * 5 + 1) = (k + j) * 5 + 1 by omega, show k * 5 + (j * 5 + 2) = (k + j) * 5 + 2 by omega, show k * 5 + (j * 5 + 3) = (k + j) * 5 + 3 by omega, show k * 5 + (j * 5 + 4) = (k + j) * 5 + 4 by omega]
theorem told_drop {zs ws : List Int} {k : Nat} : ∀ j, toldTo zs ws (k + j) = toldTo zs ws k ++ toldTo (zs.drop (k * 5)) (runW zs ws k) j
  | 0 => by simp [toldTo]
  | j + 1 => by
    rw [show k + (j + 1) = (k + j) + 1 by omega]
    simp only [toldTo]
    rw [told_drop j, run_drop j, getD_drop, getD_drop, List.append_assoc]
    rw [show k * 5 + j * 5 = (k + j) * 5 by omega, show k * 5 + (j * 5 + 2) = (k + j) * 5 + 2 by omega]
/-- Both parts of a run. -/
theorem run_parts {zs ws : List Int} {k len : Nat} (hk : k ≤ len) : runW (zs.drop (k * 5)) (runW (zs.take (k * 5)) ws k) (len - k) = runW zs ws len := by
  rw [run_take k (Nat.le_refl _), run_drop, show k + (len - k) = len by omega]
theorem told_parts {zs ws : List Int} {k len : Nat} (hk : k ≤ len) : toldTo (zs.take (k * 5)) ws k ++ toldTo (zs.drop (k * 5)) (runW (zs.take (k * 5)) ws k) (len - k) = toldTo zs ws len := by
  rw [run_take k (Nat.le_refl _), told_take k (Nat.le_refl _), ← told_drop, show k + (len - k) = len by omega]
theorem need_up {zs : List Int} {i : Nat} : ∀ {k len : Nat}, k ≤ len → needTo zs k i = true → needTo zs len i = true := by
  intro k len h hk
  induction len with
  | zero => rw [show k = 0 by omega] at hk; exact hk
  | succ n ih =>
    by_cases e : k = n + 1
    · rw [← e]; exact hk
    · simp only [needTo, Bool.or_eq_true]
      exact Or.inl (ih (by omega))
theorem step_len (ws : List Int) (o d a b n : Int) : (stepW ws o d a b n).length = ws.length := by
  unfold stepW
  split <;> simp
theorem run_len (zs ws : List Int) : ∀ k, (runW zs ws k).length = ws.length
  | 0 => rfl
  | k + 1 => by simp only [runW]; rw [step_len, run_len zs ws k]
/-- What is told, and what the names that are set hold, hangs on the names that are needed alone. -/
theorem live_run {zs ws ws' : List Int} {len : Nat} (hg : ∀ k, k < len → stepB zs k = true) (h8 : ws.length = 8) (h8' : ws'.length = 8) (hn : ∀ i, i < 8 → needTo zs len i = true → ws.getD i 0 = ws'.getD i 0) :
    ∀ k, k ≤ len → toldTo zs ws k = toldTo zs ws' k ∧ ∀ i, i < 8 → (setTo zs k i = true → (runW zs ws k).getD i 0 = (runW zs ws' k).getD i 0) ∧ (setTo zs k i = false → (runW zs ws k).getD i 0 = ws.getD i 0 ∧ (runW zs ws' k).getD i 0 = ws'.getD i 0)
  | 0, _ => ⟨rfl, fun i hi => ⟨fun h => by simp [setTo] at h, fun _ => ⟨rfl, rfl⟩⟩⟩
  | k + 1, hk => by
    obtain ⟨ht, hv⟩ := live_run hg h8 h8' hn k (by omega)
    have hs := hg k (by omega)
    unfold stepB at hs
    have hl : (runW zs ws k).length = 8 := by rw [run_len]; exact h8
    have hl' : (runW zs ws' k).length = 8 := by rw [run_len]; exact h8'
    have val : ∀ x : Int, 0 ≤ x → x ≤ 7 → (usesL (zs.getD (k * 5) 0) (zs.getD (k * 5 + 2) 0) (zs.getD (k * 5 + 3) 0)).contains x = true → (runW zs ws k).getD x.toNat 0 = (runW zs ws' k).getD x.toNat 0 := by
      intro x x0 x7 hu
      obtain ⟨h1, h2⟩ := hv x.toNat (by omega)
      cases hset : setTo zs k x.toNat
      · have hneed : needTo zs (k + 1) x.toNat = true := by
          simp only [needTo, Bool.or_eq_true, Bool.and_eq_true, Bool.not_eq_true']
          refine Or.inr ⟨?_, hset⟩
          rw [show ((x.toNat : Nat) : Int) = x by omega]; exact hu
        have e := hn x.toNat (by omega) (need_up hk hneed)
        obtain ⟨e1, e2⟩ := h2 hset
        rw [e1, e2, e]
      · exact h1 hset
    simp only [toldTo, runW]
    have setS : ∀ i, setTo zs (k + 1) i = (setTo zs k i || (!(zs.getD (k * 5) 0 == 8) && i == (zs.getD (k * 5 + 1) 0).toNat)) := fun i => rfl
    revert hs val setS
    generalize zs.getD (k * 5) 0 = o
    generalize zs.getD (k * 5 + 1) 0 = d
    generalize zs.getD (k * 5 + 2) 0 = a
    generalize zs.getD (k * 5 + 3) 0 = b
    generalize zs.getD (k * 5 + 4) 0 = n
    intro hs val setS
    have put : ∀ v : Int, 0 ≤ d → d ≤ 7 → o ≠ 8 → ∀ i, i < 8 → (setTo zs (k + 1) i = true → ((runW zs ws k).set d.toNat v).getD i 0 = ((runW zs ws' k).set d.toNat v).getD i 0) ∧ (setTo zs (k + 1) i = false → ((runW zs ws k).set d.toNat v).getD i 0 = ws.getD i 0 ∧ ((runW zs ws' k).set d.toNat v).getD i 0 = ws'.getD i 0) := by
      intro v d0 d7 o8 i hi
      rw [setS i]
      by_cases e : i = d.toNat
      · subst e
        rw [set_same (by omega), set_same (by omega)]
        exact ⟨fun _ => rfl, fun h => by simp [o8] at h⟩
      · rw [set_other (fun q => e q.symm), set_other (fun q => e q.symm)]
        have : (setTo zs k i || (!(o == 8) && i == d.toNat)) = setTo zs k i := by
          have : (i == d.toNat) = false := by simpa using e
          rw [this]; simp
        rw [this]
        exact hv i hi
    rcases good_cases hs with ⟨rfl, ⟨d0, d1⟩, n0, n1⟩ | ⟨rfl, ⟨d0, d1⟩, x0, x1⟩ | ⟨rfl, x0, x1⟩ | ⟨⟨o3, o7⟩, ⟨d0, d1⟩, ⟨x0, x1⟩, y0, y1⟩
    · refine ⟨by simp [toldBy, ht], ?_⟩
      simp only [stepW, show ¬ ((1 : Int) = 8) by omega, if_false, if_true]
      exact put n d0 d1 (by omega)
    · refine ⟨by simp [toldBy, ht], ?_⟩
      have ea := val a x0 x1 (by simp [usesL])
      simp only [stepW, show ¬ ((2 : Int) = 8) by omega, show ¬ ((2 : Int) = 1) by omega, if_false, if_true]
      rw [ea]
      exact put _ d0 d1 (by omega)
    · have ea := val a x0 x1 (by simp [usesL])
      refine ⟨by simp only [toldBy, if_true]; rw [ht, ea], ?_⟩
      simp only [stepW, if_true]
      intro i hi
      rw [setS i]
      simpa using hv i hi
    · have hu : usesL o a b = [a, b] := by unfold usesL; rw [if_neg (by omega), if_pos ⟨o3, o7⟩]
      have ea := val a x0 x1 (by rw [hu]; simp)
      have eb := val b y0 y1 (by rw [hu]; simp)
      refine ⟨by simp only [toldBy, if_neg (show ¬ o = 8 by omega)]; rw [ht], ?_⟩
      simp only [stepW, if_neg (show ¬ o = 8 by omega), if_neg (show ¬ o = 1 by omega), if_neg (show ¬ o = 2 by omega)]
      rw [ea, eb]
      exact put _ d0 d1 (by omega)
/-- Words with those that are not needed made others, up to a name. -/
def otherTo (f : Nat → Bool) (c : Int) (ws : List Int) : Nat → List Int
  | 0 => ws
  | j + 1 => if f j then otherTo f c ws j else (otherTo f c ws j).set j ((ws.getD j 0 + 1 + c) % 65536)
theorem other_len (f : Nat → Bool) (c : Int) (ws : List Int) : ∀ j, (otherTo f c ws j).length = ws.length
  | 0 => rfl
  | j + 1 => by
    unfold otherTo
    split
    · exact other_len f c ws j
    · simp [other_len f c ws j]
theorem other_late (f : Nat → Bool) (c : Int) (ws : List Int) : ∀ j i, j ≤ i → (otherTo f c ws j).getD i 0 = ws.getD i 0
  | 0, i, _ => rfl
  | j + 1, i, h => by
    unfold otherTo
    split
    · exact other_late f c ws j i (by omega)
    · rw [set_other (by omega)]; exact other_late f c ws j i (by omega)
theorem other_kept (f : Nat → Bool) (c : Int) (ws : List Int) {i : Nat} (h : f i = true) : ∀ j, (otherTo f c ws j).getD i 0 = ws.getD i 0
  | 0 => rfl
  | j + 1 => by
    unfold otherTo
    split
    · exact other_kept f c ws h j
    · rename_i hf
      rw [set_other (fun q => by subst q; exact hf h)]; exact other_kept f c ws h j
theorem other_words {f : Nat → Bool} {c : Int} {ws : List Int} (h : wordsB ws = true) : ∀ j, wordsB (otherTo f c ws j) = true
  | 0 => h
  | j + 1 => by
    unfold otherTo
    split
    · exact other_words h j
    · exact set_words (other_words h j) (inR_mk (by omega) (by omega))
end Go.Proofs.Ytfejfbafoaiidaa.math
