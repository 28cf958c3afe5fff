/-
  A set of small numbers as the datum of a map whose elements are empty: what putting in and taking out makes of it.
-/
import Derived.Maps.OwnSet
import Derived.Maps.Ext
namespace Go.Proofs.Ytfmgbalfabpogaa.math
open Go Go.Maps
set_option linter.unusedVariables false

/-- The datum of a set: its members below 64, rising. -/
def setE (f : Nat → Bool) : List (Lit × DataW Unit) := ((List.range 64).filter f).map fun (i : Nat) => (Lit.int .i64 (i : Int), DataW.agg [])
def setD (f : Nat → Bool) : DataW Unit := .map (setE f)
theorem setE_mem (f : Nat → Bool) (p : Lit × DataW Unit) : p ∈ setE f ↔ ∃ i : Nat, i < 64 ∧ f i = true ∧ p = (.int .i64 (i : Int), .agg []) := by
  unfold setE
  rw [List.mem_map]
  constructor
  · rintro ⟨i, hi, rfl⟩
    rw [List.mem_filter, List.mem_range] at hi
    exact ⟨i, hi.1, hi.2, rfl⟩
  · rintro ⟨i, hi, hf, rfl⟩
    exact ⟨i, by rw [List.mem_filter, List.mem_range]; exact ⟨hi, hf⟩, rfl⟩
theorem setD_has (f : Nat → Bool) (k : Lit) : Maps.has (setD f) k = true ↔ ∃ i : Nat, i < 64 ∧ f i = true ∧ k = .int .i64 (i : Int) := by
  unfold setD
  rw [Maps.has_eq, List.any_eq_true]
  constructor
  · rintro ⟨p, hp, hs⟩
    obtain ⟨i, hi, hf, rfl⟩ := (setE_mem f p).1 hp
    refine ⟨i, hi, hf, ?_⟩
    cases k <;> simp [Lit.sameKey] at hs
    obtain ⟨rfl, rfl⟩ := hs
    rfl
  · rintro ⟨i, hi, hf, rfl⟩
    exact ⟨_, (setE_mem f _).2 ⟨i, hi, hf, rfl⟩, by simp [Lit.sameKey]⟩
theorem sd_has (f : Nat → Bool) {i : Nat} (hi : i < 64) : Maps.has (setD f) (.int .i64 (i : Int)) = f i := by
  cases h : f i
  · cases h' : Maps.has (setD f) (.int .i64 (i : Int))
    · rfl
    · obtain ⟨j, hj, hf, e⟩ := (setD_has f _).1 h'
      have : j = i := by simp at e; omega
      subst this
      rw [h] at hf; cases hf
  · exact (setD_has f _).2 ⟨i, hi, h, rfl⟩
theorem setD_at (f : Nat → Bool) (k : Lit) (z : DataW Unit) (h : Maps.has (setD f) k = true) : (setD f).atKey k z = .agg [] := by
  unfold setD at h ⊢
  rw [Maps.has_eq, List.any_eq_true] at h
  obtain ⟨p, hp, hs⟩ := h
  unfold DataW.atKey
  cases e : (setE f).find? (fun p => p.1.sameKey k) with
  | none =>
    have := List.find?_eq_none.1 e p hp
    simp [hs] at this
  | some q =>
    have hm := List.mem_of_find?_eq_some e
    obtain ⟨i, _, _, rfl⟩ := (setE_mem f q).1 hm
    simp [e]
theorem setD_canon (f : Nat → Bool) : Maps.Canon (setD f) := by
  refine ⟨setE f, rfl, ?_, ?_⟩
  · unfold setE
    rw [List.pairwise_map]
    have h0 : (List.range 64).Pairwise (· < ·) := List.pairwise_lt_range
    exact (h0.filter f).imp fun {a b} h => by simp [Lit.before]; omega
  · intro p hp
    obtain ⟨i, _, _, rfl⟩ := (setE_mem f p).1 hp
    trivial
theorem setE_len (f : Nat → Bool) : (setE f).length ≤ 64 := by
  unfold setE
  rw [List.length_map]
  exact Nat.le_trans (List.length_filter_le _ _) (by simp)
theorem sd_eq {D : DataW Unit} {f : Nat → Bool} (c : Maps.Canon D) (hh : ∀ k, Maps.has D k = Maps.has (setD f) k) (ha : ∀ k z, Maps.has D k = true → D.atKey k z = .agg []) : D = setD f :=
  Maps.ext c (setD_canon f) hh (fun k z h => by rw [ha k z h, setD_at f k z (by rw [← hh k]; exact h)])
theorem sd_put {f : Nat → Bool} {i : Nat} (hi : i < 64) (c : Maps.Canon ((setD f).put (.int .i64 (i : Int)) (.agg []))) : (setD f).put (.int .i64 (i : Int)) (.agg []) = setD (fun j => f j || j == i) := by
  have hM : Maps.IsMap (setD f) := ⟨_, rfl⟩
  have hk : WideAt.IsKeyLit (.int .i64 (i : Int)) := trivial
  have hb : ∀ k, k ≠ Lit.int .i64 (i : Int) → (Maps.has (setD (fun j => f j || j == i)) k = Maps.has (setD f) k) := by
    intro k hne
    cases h : Maps.has (setD f) k
    · cases h' : Maps.has (setD (fun j => f j || j == i)) k
      · rfl
      · obtain ⟨j, hj, hf, rfl⟩ := (setD_has _ _).1 h'
        have hji : j ≠ i := fun e => hne (by rw [e])
        have hf' : f j = true := by simpa [hji] using hf
        rw [(setD_has f _).2 ⟨j, hj, hf', rfl⟩] at h
        cases h
    · obtain ⟨j, hj, hf, rfl⟩ := (setD_has _ _).1 h
      exact (setD_has _ _).2 ⟨j, hj, by simp [hf], rfl⟩
  refine sd_eq c (fun k => ?_) (fun k z h => ?_)
  · by_cases e : k = .int .i64 (i : Int)
    · subst e
      rw [Maps.has_put_same hM hk, sd_has _ hi]; simp
    · rw [Maps.has_put_other e, hb k e]
  · by_cases e : k = .int .i64 (i : Int)
    · subst e
      rw [Maps.atKey_put_same hM hk]
    · rw [Maps.has_put_other e] at h
      rw [Maps.atKey_put_other e, setD_at f k z h]
theorem sd_del {f : Nat → Bool} {i : Nat} (hi : i < 64) (c : Maps.Canon ((setD f).del (.int .i64 (i : Int)))) : (setD f).del (.int .i64 (i : Int)) = setD (fun j => f j && !(j == i)) := by
  have hb : ∀ k, k ≠ Lit.int .i64 (i : Int) → (Maps.has (setD (fun j => f j && !(j == i))) k = Maps.has (setD f) k) := by
    intro k hne
    cases h : Maps.has (setD f) k
    · cases h' : Maps.has (setD (fun j => f j && !(j == i))) k
      · rfl
      · obtain ⟨j, hj, hf, rfl⟩ := (setD_has _ _).1 h'
        have hf' : f j = true := by simp at hf; exact hf.1
        rw [(setD_has f _).2 ⟨j, hj, hf', rfl⟩] at h
        cases h
    · obtain ⟨j, hj, hf, rfl⟩ := (setD_has _ _).1 h
      have hji : j ≠ i := fun e => hne (by rw [e])
      exact (setD_has _ _).2 ⟨j, hj, by simp [hf, hji], rfl⟩
  refine sd_eq c (fun k => ?_) (fun k z h => ?_)
  · by_cases e : k = .int .i64 (i : Int)
    · subst e
      rw [Maps.has_del_same, sd_has _ hi]; simp
    · rw [Maps.has_del_other e, hb k e]
  · by_cases e : k = .int .i64 (i : Int)
    · subst e
      rw [Maps.has_del_same] at h; cases h
    · rw [Maps.has_del_other e] at h
      rw [Maps.atKey_del_other e, setD_at f k z h]
theorem sd_none : setD (fun _ => false) = .map [] := by
  unfold setD setE
  simp
theorem sd_same {f g : Nat → Bool} (h : ∀ i, i < 64 → f i = g i) : setD f = setD g := by
  unfold setD setE
  have : (List.range 64).filter f = (List.range 64).filter g := List.filter_congr fun i hi => h i (List.mem_range.1 hi)
  rw [this]
/-- Members put into a set, one behind the other. -/
def addS (f : Nat → Bool) (us : List Int) (i : Nat) : Bool := f i || us.contains (i : Int)
theorem adds_none (f : Nat → Bool) : ∀ i, i < 64 → f i = addS f [] i := fun i _ => by simp [addS]
theorem adds_snoc (f : Nat → Bool) (us : List Int) (n : Nat) : ∀ i, i < 64 → (addS f us i || i == n) = addS f (us ++ [(n : Int)]) i := fun i _ => by
  unfold addS
  simp only [List.contains_append]
  by_cases e : i = n
  · subst e; simp
  · have e' : ¬ (i : Int) = (n : Int) := by omega
    simp [e, e']
/-- Its members, rising. -/
def listS (f : Nat → Bool) : List Int := ((List.range 64).filter f).map fun (i : Nat) => (i : Int)
theorem sd_size (f : Nat → Bool) : Maps.size (setD f) = (listS f).length := by
  unfold setD setE listS
  rw [Maps.size_eq]; simp
theorem listS_sorted (f : Nat → Bool) : (listS f).Pairwise (fun a b => decide (a ≤ b) = true) := by
  unfold listS
  rw [List.pairwise_map]
  have h0 : (List.range 64).Pairwise (· < ·) := List.pairwise_lt_range
  exact (h0.filter f).imp fun {a b} h => by simp; omega
end Go.Proofs.Ytfmgbalfabpogaa.math
