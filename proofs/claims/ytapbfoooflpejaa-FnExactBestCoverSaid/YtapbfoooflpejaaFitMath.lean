/-
  A pattern held against a tree: where it fits, and which places it leaves.
-/
import Derived.Test.YtapbfoooflpejaaTreeMath
namespace Go.Proofs.Ytapbfoooflpejaa.math

/-- The places that kinds leave from a place on, none where they don't fit. -/
def fitL (t : List Int) : List Int → Nat → Option (List Nat)
  | [], _ => some []
  | k :: ks, at0 => if k = 0 then (fitL t ks (at0 + szT false t at0)).map (at0 :: ·) else if t.getD at0 0 = k then fitL t ks (at0 + 1) else none
/-- Where one is when j kinds of a pattern have been held: n trees are awaited on both sides. -/
structure FitI (t p : List Int) (E j pos n : Nat) : Prop where
  pat : skipL true (p.drop j) n = some (p.length - j)
  tree : skipL false (t.drop pos) n = some (E - pos)
  le : pos ≤ E
  end_le : E ≤ t.length
theorem ar_false_true {k : Int} (h : k ≠ 0) : arK false k = arK true k := by unfold arK; rw [if_neg h, if_neg h]
theorem fit_start {t p : List Int} {at0 : Nat} (ht : wholeB false t = true) (hp : wholeB true p = true) (hat : at0 < t.length) : FitI t p (at0 + szT false t at0) 0 at0 1 := by
  have h := whole_each ht hat
  have hl := sz_le h (by omega)
  exact ⟨by rw [List.drop_zero, Nat.sub_zero]; exact (whole_iff.1 hp).2, by rw [h]; congr 1; omega, by omega, hl.2⟩
theorem FitI.pos {t p : List Int} {E j pos n : Nat} (h : FitI t p E j pos n) (hj : j < p.length) : ∃ m, n = m + 1 ∧ pos < E := by
  cases n with
  | zero => have := h.pat; rw [skip_zero] at this; simp at this; omega
  | succ m => exact ⟨m, rfl, by have := (skip_le _ _ _ _ h.tree).2; omega⟩
theorem FitI.any {t p : List Int} {E j pos m : Nat} (h : FitI t p E j pos (m + 1)) (hj : j < p.length) (hk : p.getD j 0 = 0) : FitI t p E (j + 1) (pos + szT false t pos) m ∧ skipL false (t.drop pos) 1 = some (szT false t pos) := by
  have hpos : pos < E := by have := (skip_le _ _ _ _ h.tree).2; omega
  have h1 := h.tree
  rw [Nat.add_comm m 1, skip_add] at h1
  cases q : skipL false (t.drop pos) 1 with
  | none => rw [q] at h1; cases h1
  | some s =>
    have hs : szT false t pos = s := by unfold szT; rw [q]; rfl
    rw [q] at h1
    simp only [Option.bind_some, List.drop_drop] at h1
    cases q2 : skipL false (t.drop (pos + s)) m with
    | none => rw [q2] at h1; cases h1
    | some e =>
      rw [q2] at h1
      simp at h1
      have h2 := h.pat
      rw [drop_at hj, hk, skip_cons_some (show arK true 0 = some 0 from rfl)] at h2
      rw [hs]
      refine ⟨⟨?_, ?_, by omega, h.end_le⟩, rfl⟩
      · simp only [Nat.add_zero] at h2
        cases q3 : skipL true (p.drop (j + 1)) m with
        | none => rw [q3] at h2; cases h2
        | some x => rw [q3] at h2; simp at h2; congr 1; omega
      · rw [q2]; congr 1; omega
theorem FitI.kind {t p : List Int} {E j pos m : Nat} (h : FitI t p E j pos (m + 1)) (hj : j < p.length) (hk : p.getD j 0 ≠ 0) (he : t.getD pos 0 = p.getD j 0) : ∃ n, FitI t p E (j + 1) (pos + 1) n := by
  have hpos : pos < E := by have := (skip_le _ _ _ _ h.tree).2; omega
  have hE := h.end_le
  have h2 := h.pat
  rw [drop_at hj] at h2
  cases hA : arK true (p.getD j 0) with
  | none => rw [skip_cons_none hA] at h2; cases h2
  | some a =>
    rw [skip_cons_some hA] at h2
    have h1 := h.tree
    rw [drop_at (show pos < t.length by omega), he, skip_cons_some (by rw [ar_false_true hk]; exact hA)] at h1
    refine ⟨m + a, ?_, ?_, by omega, hE⟩
    · cases q3 : skipL true (p.drop (j + 1)) (m + a) with
      | none => rw [q3] at h2; cases h2
      | some x => rw [q3] at h2; simp at h2; congr 1; omega
    · cases q3 : skipL false (t.drop (pos + 1)) (m + a) with
      | none => rw [q3] at h1; cases h1
      | some x => rw [q3] at h1; simp at h1; congr 1; omega
theorem fit_any {t p : List Int} {j pos : Nat} (hj : j < p.length) (hk : p.getD j 0 = 0) : fitL t (p.drop j) pos = (fitL t (p.drop (j + 1)) (pos + szT false t pos)).map (pos :: ·) := by rw [drop_at hj, hk]; simp [fitL]
theorem fit_kind {t p : List Int} {j pos : Nat} (hj : j < p.length) (hk : p.getD j 0 ≠ 0) (he : t.getD pos 0 = p.getD j 0) : fitL t (p.drop j) pos = fitL t (p.drop (j + 1)) (pos + 1) := by
  rw [drop_at hj]
  simp only [fitL]
  rw [if_neg hk, if_pos he]
theorem fit_none {t p : List Int} {j pos : Nat} (hj : j < p.length) (hk : p.getD j 0 ≠ 0) (he : t.getD pos 0 ≠ p.getD j 0) : fitL t (p.drop j) pos = none := by
  rw [drop_at hj]
  simp only [fitL]
  rw [if_neg hk, if_neg he]
theorem fit_end {t p : List Int} {pos : Nat} : fitL t (p.drop p.length) pos = some [] := by rw [List.drop_length]; rfl
/-- What is gathered up to kind j. -/
def Gath (t p : List Int) (at0 j pos : Nat) (hs : List Nat) : Prop := fitL t p at0 = (fitL t (p.drop j) pos).map (hs ++ ·)
theorem gath_start (t p : List Int) (at0 : Nat) : Gath t p at0 0 at0 [] := by unfold Gath; rw [List.drop_zero]; cases fitL t p at0 <;> simp
theorem Gath.any {t p : List Int} {at0 j pos : Nat} {hs : List Nat} (h : Gath t p at0 j pos hs) (hj : j < p.length) (hk : p.getD j 0 = 0) : Gath t p at0 (j + 1) (pos + szT false t pos) (hs ++ [pos]) := by
  unfold Gath at h ⊢
  rw [h, fit_any hj hk]
  cases fitL t (p.drop (j + 1)) (pos + szT false t pos) <;> simp
theorem Gath.kind {t p : List Int} {at0 j pos : Nat} {hs : List Nat} (h : Gath t p at0 j pos hs) (hj : j < p.length) (hk : p.getD j 0 ≠ 0) (he : t.getD pos 0 = p.getD j 0) : Gath t p at0 (j + 1) (pos + 1) hs := by
  unfold Gath at h ⊢
  rw [h, fit_kind hj hk he]
theorem Gath.none {t p : List Int} {at0 j pos : Nat} {hs : List Nat} (h : Gath t p at0 j pos hs) (hj : j < p.length) (hk : p.getD j 0 ≠ 0) (he : t.getD pos 0 ≠ p.getD j 0) : fitL t p at0 = Option.none := by
  unfold Gath at h
  rw [h, fit_none hj hk he]
  rfl
theorem Gath.done {t p : List Int} {at0 pos : Nat} {hs : List Nat} (h : Gath t p at0 p.length pos hs) : fitL t p at0 = some hs := by
  unfold Gath at h
  rw [h, fit_end]
  simp
/-- All places that are left lie from where one is up to the end. -/
theorem fit_between {t p : List Int} {E : Nat} : ∀ (d j pos n : Nat) (hs : List Nat), p.length - j = d → j ≤ p.length → FitI t p E j pos n → fitL t (p.drop j) pos = some hs → ∀ h ∈ hs, pos ≤ h ∧ h < E
  | 0, j, pos, n, hs, hd, hj, hF, hf => by
    obtain rfl : j = p.length := by omega
    rw [fit_end] at hf
    cases hf
    simp
  | d + 1, j, pos, n, hs, hd, hj, hF, hf => by
    have hlt : j < p.length := by omega
    obtain ⟨m, rfl, hpE⟩ := hF.pos hlt
    by_cases hk : p.getD j 0 = 0
    · rw [fit_any hlt hk] at hf
      obtain ⟨hF2, _⟩ := hF.any hlt hk
      cases q : fitL t (p.drop (j + 1)) (pos + szT false t pos) with
      | none => rw [q] at hf; cases hf
      | some hs' =>
        rw [q] at hf
        simp at hf
        subst hf
        have ih := fit_between d (j + 1) _ _ hs' (by omega) (by omega) hF2 q
        intro h hh
        simp at hh
        rcases hh with rfl | hh
        · exact ⟨Nat.le_refl _, hpE⟩
        · have := ih h hh
          omega
    · by_cases he : t.getD pos 0 = p.getD j 0
      · rw [fit_kind hlt hk he] at hf
        obtain ⟨n2, hF2⟩ := hF.kind hlt hk he
        have ih := fit_between d (j + 1) _ _ hs (by omega) (by omega) hF2 hf
        intro h hh
        have := ih h hh
        omega
      · rw [fit_none hlt hk he] at hf
        cases hf
theorem fit_in {t p : List Int} {at0 : Nat} {hs : List Nat} (ht : wholeB false t = true) (hp : wholeB true p = true) (hat : at0 < t.length) (hf : fitL t p at0 = some hs) : ∀ h ∈ hs, at0 ≤ h ∧ h < at0 + szT false t at0 ∧ h < t.length := by
  intro h hh
  have hF := fit_start ht hp hat
  have := fit_between p.length 0 at0 1 hs (by omega) (by omega) hF (by rw [List.drop_zero]; exact hf) h hh
  have hE := hF.end_le
  omega
/-- Behind a first kind that is told all places are. -/
theorem fit_behind {t p : List Int} {at0 : Nat} {hs : List Nat} (ht : wholeB false t = true) (hp : wholeB true p = true) (hat : at0 < t.length) (h0 : p.getD 0 0 ≠ 0) (hf : fitL t p at0 = some hs) : ∀ h ∈ hs, at0 < h ∧ h < at0 + szT false t at0 ∧ h < t.length := by
  intro h hh
  have hF := fit_start ht hp hat
  have hE := hF.end_le
  have hpl := (whole_iff.1 hp).1
  have hf' : fitL t (p.drop 0) at0 = some hs := by rw [List.drop_zero]; exact hf
  by_cases he : t.getD at0 0 = p.getD 0 0
  · rw [fit_kind hpl h0 he] at hf'
    obtain ⟨n2, hF2⟩ := hF.kind hpl h0 he
    have := fit_between (p.length - 1) 1 _ _ hs (by omega) (by omega) hF2 hf' h hh
    omega
  · rw [fit_none hpl h0 he] at hf'
    cases hf'
end Go.Proofs.Ytapbfoooflpejaa.math
