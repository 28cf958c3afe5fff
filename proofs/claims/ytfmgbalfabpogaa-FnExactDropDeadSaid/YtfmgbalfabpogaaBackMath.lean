/-
  Names that are needed, step by step from the last one back: plain facts, no Go program in sight.
-/
import Derived.Test.YtfmgbalfabpogaaMagMath
import Derived.Test.YtfmgbalfabpogaaCodeMath
import Derived.Test.YtfmgbalfabpogaaRunMath
import Derived.Test.YtfmgbalfabpogaaNamesMath
import Derived.Test.YtfmgbalfabpogaaSetMath
namespace Go.Proofs.Ytfmgbalfabpogaa.math
open Go
set_option linter.unusedVariables false

/-- What one step makes of the names that are needed behind it (p: whether A and B count in any case). -/
def backAt (p : Bool) (o d a b : Int) (f : Nat → Bool) (i : Nat) : Bool :=
  (f i && !(!(o == 8) && i == d.toNat)) || ((o == 8 || f d.toNat || p) && (usesL o a b).contains (i : Int))
def stepBack (p : Bool) (zs : List Int) (k : Nat) (f : Nat → Bool) : Nat → Bool :=
  backAt p (zs.getD (k * 5) 0) (zs.getD (k * 5 + 1) 0) (zs.getD (k * 5 + 2) 0) (zs.getD (k * 5 + 3) 0) f
/-- .. the last m of len steps. -/
def backK (p : Bool) (zs : List Int) (len : Nat) (f : Nat → Bool) : Nat → Nat → Bool
  | 0 => f
  | m + 1 => stepBack p zs (len - 1 - m) (backK p zs len f m)
/-- Rising names. -/
def namesTo (zs : List Int) : Nat → Bool
  | 0 => true
  | k + 1 => namesTo zs k && inR (zs.getD k 0) 0 7 && (k == 0 || decide (zs.getD (k - 1) 0 < zs.getD k 0))
def namesB (zs : List Int) : Bool := namesTo zs zs.length
def memS (zs : List Int) (i : Nat) : Bool := zs.contains (i : Int)
theorem names_bad {zs : List Int} {k : Nat} (h : namesTo zs (k + 1) = false) : ∀ m, k + 1 ≤ m → namesTo zs m = false
  | 0, hm => by omega
  | m + 1, hm => by
    by_cases e : m = k
    · subst e; exact h
    · have := names_bad h m (by omega)
      simp [namesTo, this]
theorem names_one {zs : List Int} : ∀ {m : Nat}, namesTo zs m = true → ∀ k, k < m → (0 ≤ zs.getD k 0 ∧ zs.getD k 0 ≤ 7) ∧ (0 < k → zs.getD (k - 1) 0 < zs.getD k 0)
  | 0, _, k, hk => by omega
  | m + 1, h, k, hk => by
    simp only [namesTo, Bool.and_eq_true] at h
    by_cases e : k = m
    · subst e
      refine ⟨inR_out h.1.2, fun h0 => ?_⟩
      have h2 := h.2
      have : (k == 0) = false := by simp; omega
      rw [this] at h2
      simpa using h2
    · exact names_one h.1.1 k (by omega)
theorem mem_rising (f : Nat → Bool) (x : Int) : ∀ k, x ∈ risingTo f k ↔ ∃ i : Nat, i < k ∧ f i = true ∧ x = (i : Int)
  | 0 => by simp [risingTo]
  | k + 1 => by
    have ih := mem_rising f x k
    simp only [risingTo, List.mem_append, ih]
    constructor
    · rintro (⟨i, hi, hf, e⟩ | h)
      · exact ⟨i, by omega, hf, e⟩
      · cases hf : f k
        · simp [hf] at h
        · simp [hf] at h
          exact ⟨k, by omega, hf, h⟩
    · rintro ⟨i, hi, hf, e⟩
      by_cases h : i = k
      · subst h; right; simp [hf, e]
      · left; exact ⟨i, by omega, hf, e⟩
theorem rising_sorted (f : Nat → Bool) : ∀ k, (risingTo f k).Pairwise (· < ·)
  | 0 => List.Pairwise.nil
  | k + 1 => by
    simp only [risingTo]
    rw [List.pairwise_append]
    refine ⟨rising_sorted f k, ?_, ?_⟩
    · split <;> simp
    · intro a ha b hb
      obtain ⟨i, hi, _, rfl⟩ := (mem_rising f a k).1 ha
      split at hb
      · simp at hb; subst hb; omega
      · simp at hb
theorem sorted_same {l l' : List Int} (h : l.Pairwise (· < ·)) (h' : l'.Pairwise (· < ·)) (hm : ∀ x, x ∈ l ↔ x ∈ l') : l = l' := by
  have n1 : l.Nodup := h.imp fun {a b} q => Int.ne_of_lt q
  have n2 : l'.Nodup := h'.imp fun {a b} q => Int.ne_of_lt q
  refine List.Perm.eq_of_pairwise (le := fun a b => a < b) (fun a b _ _ h1 h2 => ?_) h h' ((List.perm_ext_iff_of_nodup n1 n2).2 hm)
  omega
theorem names_sorted {zs : List Int} (h : namesB zs = true) : zs.Pairwise (· < ·) := by
  have step : ∀ k, k + 1 < zs.length → zs.getD k 0 < zs.getD (k + 1) 0 := fun k hk => by
    have := (names_one h (k + 1) hk).2 (by omega)
    simpa using this
  have far : ∀ d k, k + d + 1 < zs.length → zs.getD k 0 < zs.getD (k + d + 1) 0 := by
    intro d
    induction d with
    | zero => intro k hk; exact step k hk
    | succ d ih =>
      intro k hk
      have h1 := ih k (by omega)
      have h2 := step (k + d + 1) (by omega)
      have : k + (d + 1) + 1 = k + d + 1 + 1 := by omega
      rw [this]; omega
  rw [List.pairwise_iff_getElem]
  intro i j hi hj hij
  have := far (j - i - 1) i (by omega)
  have e : i + (j - i - 1) + 1 = j := by omega
  rw [e] at this
  simpa [List.getD, List.getElem?_eq_getElem hi, List.getElem?_eq_getElem hj] using this
theorem names_mem {zs : List Int} (h : namesB zs = true) {x : Int} (hx : x ∈ zs) : 0 ≤ x ∧ x ≤ 7 := by
  obtain ⟨i, hi, rfl⟩ := List.getElem_of_mem hx
  have := (names_one h i hi).1
  simpa [List.getD, List.getElem?_eq_getElem hi] using this
theorem names_rising {zs : List Int} (h : namesB zs = true) : zs = risingTo (memS zs) 8 := by
  refine sorted_same (names_sorted h) (rising_sorted _ _) fun x => ?_
  rw [mem_rising]
  constructor
  · intro hx
    obtain ⟨h0, h7⟩ := names_mem h hx
    exact ⟨x.toNat, by omega, by unfold memS; rw [List.contains_iff_mem]; rw [show ((x.toNat : Nat) : Int) = x by omega]; exact hx, by omega⟩
  · rintro ⟨i, _, hf, rfl⟩
    unfold memS at hf
    rwa [List.contains_iff_mem] at hf
theorem names_hi {zs : List Int} (h : namesB zs = true) {i : Nat} (hi : 8 ≤ i) : memS zs i = false := by
  cases e : memS zs i
  · rfl
  · unfold memS at e
    rw [List.contains_iff_mem] at e
    have := names_mem h e
    omega
theorem listS_rising (f : Nat → Bool) : listS f = risingTo f 64 := by
  have : ∀ k, ((List.range k).filter f).map (fun (i : Nat) => (i : Int)) = risingTo f k := by
    intro k
    induction k with
    | zero => rfl
    | succ k ih =>
      rw [List.range_succ, List.filter_append, List.map_append, ih]
      simp only [risingTo]
      cases h : f k <;> simp [h]
  exact this 64
theorem rising_few {f : Nat → Bool} (h : ∀ i, 8 ≤ i → f i = false) : ∀ k, 8 ≤ k → risingTo f k = risingTo f 8
  | 0, hk => by omega
  | k + 1, hk => by
    by_cases e : k + 1 = 8
    · rw [e]
    · show risingTo f k ++ (if f k then [(k : Int)] else []) = _
      rw [h k (by omega), rising_few h k (by omega)]
      exact List.append_nil _
theorem listS_names {f : Nat → Bool} (h : ∀ i, 8 ≤ i → f i = false) : listS f = risingTo f 8 := by
  rw [listS_rising, rising_few h 64 (by omega)]
theorem uses_few {o d a b n : Int} (h : goodI o d a b n = true) {i : Nat} (hi : 8 ≤ i) : (usesL o a b).contains (i : Int) = false := by
  rw [← Bool.not_eq_true, List.contains_iff_mem]
  unfold usesL
  rcases good_cases h with ⟨rfl, _⟩ | ⟨rfl, _, hx⟩ | ⟨rfl, hx⟩ | ⟨⟨o3, o7⟩, _, hx, hy⟩
  · simp
  · simp; omega
  · simp; omega
  · rw [if_neg (by omega), if_pos ⟨o3, o7⟩]; simp; omega
theorem back_hi {p : Bool} {o d a b n : Int} {f : Nat → Bool} (h : goodI o d a b n = true) (hf : ∀ i, 8 ≤ i → f i = false) : ∀ i, 8 ≤ i → backAt p o d a b f i = false := by
  intro i hi
  unfold backAt
  rw [hf i hi, uses_few h hi]
  simp
theorem backK_hi {p : Bool} {zs : List Int} {len : Nat} {f : Nat → Bool} (h : ∀ k, k < len → stepB zs k = true) (hf : ∀ i, 8 ≤ i → f i = false) : ∀ m, m ≤ len → ∀ i, 8 ≤ i → backK p zs len f m i = false
  | 0, _ => hf
  | m + 1, hm => back_hi (h (len - 1 - m) (by omega)) (backK_hi h hf m (by omega))
/-- A step that does nothing. -/
def deadB (o d : Int) (f : Nat → Bool) : Bool := !(o == 8) && !f d.toNat
theorem back_dead {o d a b : Int} {f : Nat → Bool} (h : deadB o d f = true) (i : Nat) : backAt false o d a b f i = f i := by
  simp only [deadB, Bool.and_eq_true, Bool.not_eq_true'] at h
  unfold backAt
  rw [h.1, h.2]
  by_cases e : i = d.toNat
  · subst e; simp [h.2]
  · simp [e]
theorem back_live {o d a b : Int} {f : Nat → Bool} (h : deadB o d f = false) (i : Nat) : backAt false o d a b f i = backAt true o d a b f i := by
  simp only [deadB] at h
  unfold backAt
  cases h8 : (o == 8) <;> cases hd : f d.toNat <;> simp_all
end Go.Proofs.Ytfmgbalfabpogaa.math
