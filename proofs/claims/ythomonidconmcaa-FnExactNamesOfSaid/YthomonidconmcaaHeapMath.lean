/-
  Heaps as deep data: when they are good.
-/
import Derived.Test.YthomonidconmcaaMagMath
import Derived.Test.YthomonidconmcaaDeep
import Derived.Test.YthomonidconmcaaDeepRow
namespace Go.Proofs.Ythomonidconmcaa.math
open Go.Proofs.Ythomonidconmcaa.deep
set_option linter.unusedVariables false

/-- The k-th object: its name, whether it is old, its links. -/
def hnm (cs : Nat → Dv) (k : Nat) : Int := (cs (k * 3)).int
def hod (cs : Nat → Dv) (k : Nat) : Bool := (cs (k * 3 + 1)).bool
def hnl (cs : Nat → Dv) (k : Nat) : Nat := (cs (k * 3 + 2)).len
def hls (cs : Nat → Dv) (k : Nat) : List Int := intsOf (fun i => (cs (k * 3 + 2)).at i) (hnl cs k)
theorem hls_len (cs : Nat → Dv) (k : Nat) : (hls cs k).length = hnl cs k := intsOf_len _ _
/-- A name that is there; one of a young object. -/
def Has (cs : Nat → Dv) (n : Nat) (x : Int) : Prop := ∃ k, k < n ∧ hnm cs k = x
def Yng (cs : Nat → Dv) (n : Nat) (x : Int) : Prop := ∃ k, k < n ∧ hnm cs k = x ∧ hod cs k = false
def NamesOk (cs : Nat → Dv) (n : Nat) (nx : Int) : Prop := (∀ k, k < n → 0 ≤ hnm cs k ∧ hnm cs k < nx) ∧ ∀ k, k + 1 < n → hnm cs k < hnm cs (k + 1)
def LeadsOk (cs : Nat → Dv) (n : Nat) (rs : List Int) : Prop := (∀ k, k < n → ∀ x ∈ hls cs k, x = -1 ∨ Has cs n x) ∧ ∀ x ∈ rs, x = -1 ∨ Has cs n x
def RiseOk (ns : List Int) : Prop := ∀ i, i + 1 < ns.length → ns.getD i 0 < ns.getD (i + 1) 0
def NotedOk (cs : Nat → Dv) (n : Nat) (ns : List Int) : Prop := (∀ x ∈ ns, ∃ k, k < n ∧ hnm cs k = x ∧ hod cs k = true) ∧ ∀ k, k < n → hod cs k = true → ∀ x ∈ hls cs k, Yng cs n x → hnm cs k ∈ ns
def SizeOk (n : Nat) (rs : List Int) (nx : Int) : Prop := n ≤ 24 ∧ rs.length = 6 ∧ 0 ≤ nx ∧ nx ≤ 1000
def HeapOk (cs : Nat → Dv) (n : Nat) (rs ns : List Int) (nx : Int) : Prop := SizeOk n rs nx ∧ NamesOk cs n nx ∧ (∀ k, k < n → hnl cs k = 2) ∧ LeadsOk cs n rs ∧ RiseOk ns ∧ NotedOk cs n ns
noncomputable instance (cs : Nat → Dv) (n : Nat) (rs ns : List Int) (nx : Int) : Decidable (HeapOk cs n rs ns nx) := Classical.propDecidable _
noncomputable def heapB (cs : Nat → Dv) (n : Nat) (rs ns : List Int) (nx : Int) : Bool := decide (HeapOk cs n rs ns nx)
theorem heap_out {cs : Nat → Dv} {n : Nat} {rs ns : List Int} {nx : Int} (h : heapB cs n rs ns nx = true) : HeapOk cs n rs ns nx := by
  unfold heapB at h; exact of_decide_eq_true h
theorem heap_yes {cs : Nat → Dv} {n : Nat} {rs ns : List Int} {nx : Int} (h : HeapOk cs n rs ns nx) : heapB cs n rs ns nx = true := by
  unfold heapB; exact decide_eq_true h
theorem heap_no {cs : Nat → Dv} {n : Nat} {rs ns : List Int} {nx : Int} (h : ¬ HeapOk cs n rs ns nx) : heapB cs n rs ns nx = false := by
  unfold heapB; exact decide_eq_false h
/-- Names that rise are unlike. -/
theorem names_lt {cs : Nat → Dv} {n : Nat} (h : ∀ k, k + 1 < n → hnm cs k < hnm cs (k + 1)) : ∀ (d i : Nat), i + d + 1 < n → hnm cs i < hnm cs (i + d + 1)
  | 0, i, hi => h i hi
  | d + 1, i, hi => by
    have q := names_lt h d i (by omega)
    have q2 := h (i + d + 1) (by omega)
    have e : i + (d + 1) + 1 = i + d + 1 + 1 := by omega
    rw [e]; omega
theorem names_one {cs : Nat → Dv} {n i j : Nat} (h : ∀ k, k + 1 < n → hnm cs k < hnm cs (k + 1)) (hi : i < n) (hj : j < n) (e : hnm cs i = hnm cs j) : i = j := by
  rcases Nat.lt_trichotomy i j with q | q | q
  · have := names_lt h (j - i - 1) i (by omega)
    rw [show i + (j - i - 1) + 1 = j by omega] at this; omega
  · exact q
  · have := names_lt h (i - j - 1) j (by omega)
    rw [show j + (i - j - 1) + 1 = i by omega] at this; omega
/-- Where the first object with a name stands among the first m, -1 for none. -/
def posH (cs : Nat → Dv) (x : Int) : Nat → Int
  | 0 => -1
  | m + 1 => if 0 ≤ posH cs x m then posH cs x m else if hnm cs m = x then (m : Int) else -1
theorem pos_in (cs : Nat → Dv) (x : Int) : ∀ m, (posH cs x m = -1 ∧ ∀ k, k < m → hnm cs k ≠ x) ∨ ∃ k : Nat, posH cs x m = (k : Int) ∧ k < m ∧ hnm cs k = x ∧ ∀ j, j < k → hnm cs j ≠ x
  | 0 => Or.inl ⟨rfl, fun k hk => by omega⟩
  | m + 1 => by
    rcases pos_in cs x m with ⟨e, h⟩ | ⟨k, e, hk, hx, hj⟩
    · by_cases q : hnm cs m = x
      · exact Or.inr ⟨m, by simp [posH, e, q], by omega, q, h⟩
      · refine Or.inl ⟨by simp [posH, e, q], fun k hk => ?_⟩
        by_cases r : k = m
        · rw [r]; exact q
        · exact h k (by omega)
    · refine Or.inr ⟨k, ?_, by omega, hx, hj⟩
      show (if 0 ≤ posH cs x m then posH cs x m else _) = _
      rw [if_pos (by omega), e]
theorem pos_at {cs : Nat → Dv} {x : Int} {k : Nat} : ∀ {n : Nat}, k < n → hnm cs k = x → (∀ j, j < k → hnm cs j ≠ x) → posH cs x n = (k : Int) := by
  intro n hk e h
  rcases pos_in cs x n with ⟨_, q⟩ | ⟨j, q, hj, e2, h2⟩
  · exact absurd e (q k hk)
  · rw [q]
    rcases Nat.lt_trichotomy j k with r | r | r
    · exact absurd e2 (h j r)
    · rw [r]
    · exact absurd e (h2 k r)
theorem pos_no {cs : Nat → Dv} {x : Int} {n : Nat} (h : ∀ j, j < n → hnm cs j ≠ x) : posH cs x n = -1 := by
  rcases pos_in cs x n with ⟨q, _⟩ | ⟨j, q, hj, e2, _⟩
  · exact q
  · exact absurd e2 (h j hj)
theorem pos_none {cs : Nat → Dv} {x : Int} {n : Nat} (h : posH cs x n = -1) : ¬ Has cs n x := by
  rintro ⟨k, hk, e⟩
  rcases pos_in cs x n with ⟨_, q⟩ | ⟨j, q, _⟩
  · exact q k hk e
  · omega
theorem pos_of {cs : Nat → Dv} {n k : Nat} (h : ∀ k, k + 1 < n → hnm cs k < hnm cs (k + 1)) (hk : k < n) : posH cs (hnm cs k) n = (k : Int) := by
  rcases pos_in cs (hnm cs k) n with ⟨_, q⟩ | ⟨j, q, hj, e, _⟩
  · exact absurd rfl (q k hk)
  · rw [q, names_one h hj hk e]
/-- The k-th object in memory is as is said; the parts of what is good. -/
def linkB (cs : Nat → Dv) (n : Nat) (x : Int) : Bool := decide (x = -1) || decide (0 ≤ posH cs x n)
theorem link_out {cs : Nat → Dv} {n : Nat} {x : Int} : linkB cs n x = true ↔ (x = -1 ∨ Has cs n x) := by
  unfold linkB
  rw [Bool.or_eq_true, decide_eq_true_eq, decide_eq_true_eq]
  constructor
  · rintro (q | q)
    · exact Or.inl q
    · rcases pos_in cs x n with ⟨e, _⟩ | ⟨k, _, hk, e, _⟩
      · omega
      · exact Or.inr ⟨k, hk, e⟩
  · rintro (q | q)
    · exact Or.inl q
    · refine Or.inr ?_
      rcases pos_in cs x n with ⟨e, _⟩ | ⟨k, e, _⟩
      · exact absurd q (pos_none e)
      · omega
def youngB (cs : Nat → Dv) (n : Nat) (x : Int) : Bool := decide (0 ≤ posH cs x n) && !(hod cs (posH cs x n).toNat)
theorem young_out {cs : Nat → Dv} {n : Nat} {x : Int} (h : youngB cs n x = true) : Yng cs n x := by
  unfold youngB at h
  rw [Bool.and_eq_true, decide_eq_true_eq] at h
  rcases pos_in cs x n with ⟨e, _⟩ | ⟨k, e, hk, hx, _⟩
  · omega
  · refine ⟨k, hk, hx, ?_⟩
    have := h.2
    rw [e, Int.toNat_natCast] at this
    simpa using this
theorem young_iff {cs : Nat → Dv} {n : Nat} (h : ∀ k, k + 1 < n → hnm cs k < hnm cs (k + 1)) (x : Int) : youngB cs n x = true ↔ Yng cs n x := by
  refine ⟨young_out, ?_⟩
  rintro ⟨k, hk, rfl, ho⟩
  unfold youngB
  rw [pos_of h hk]
  simp [ho]
/-- What is asked of the k-th object, of the i-th one that is noted. -/
def LinkOk (cs : Nat → Dv) (n : Nat) (ns : List Int) (k : Nat) (x : Int) : Prop := linkB cs n x = true ∧ (hod cs k = true → youngB cs n x = true → hnm cs k ∈ ns)
def ObjOk (cs : Nat → Dv) (n : Nat) (ns : List Int) (nx : Int) (k : Nat) : Prop := (0 ≤ hnm cs k ∧ hnm cs k < nx) ∧ (0 < k → hnm cs (k - 1) < hnm cs k) ∧ hnl cs k = 2 ∧ ∀ i, i < 2 → LinkOk cs n ns k ((hls cs k).getD i 0)
def NoteOk (cs : Nat → Dv) (n : Nat) (ns : List Int) (i : Nat) : Prop := (∃ k : Nat, posH cs (ns.getD i 0) n = (k : Int) ∧ hod cs k = true) ∧ (0 < i → ns.getD (i - 1) 0 < ns.getD i 0)
theorem mem_at {zs : List Int} {x : Int} : x ∈ zs ↔ ∃ k, k < zs.length ∧ zs.getD k 0 = x := by
  constructor
  · intro h
    obtain ⟨k, hk, e⟩ := List.getElem_of_mem h
    exact ⟨k, hk, by simp [List.getD, hk, e]⟩
  · rintro ⟨k, hk, rfl⟩
    simp only [List.getD, List.getElem?_eq_getElem hk, Option.getD_some]
    exact List.getElem_mem hk
theorem heap_of {cs : Nat → Dv} {n : Nat} {rs ns : List Int} {nx : Int} (h0 : SizeOk n rs nx) (h1 : ∀ k, k < n → ObjOk cs n ns nx k) (h2 : ∀ i, i < rs.length → linkB cs n (rs.getD i 0) = true) (h3 : ∀ i, i < ns.length → NoteOk cs n ns i) : HeapOk cs n rs ns nx := by
  have hr : ∀ k, k + 1 < n → hnm cs k < hnm cs (k + 1) := fun k hk => by
    have := (h1 (k + 1) hk).2.1 (by omega)
    simpa using this
  refine ⟨h0, ⟨fun k hk => (h1 k hk).1, hr⟩, fun k hk => (h1 k hk).2.2.1, ⟨fun k hk x hx => ?_, fun x hx => ?_⟩, fun i hi => ?_, fun x hx => ?_, fun k hk ho x hx hy => ?_⟩
  · obtain ⟨j, hj, rfl⟩ := mem_at.1 hx
    rw [hls_len, (h1 k hk).2.2.1] at hj
    exact link_out.1 ((h1 k hk).2.2.2 j hj).1
  · obtain ⟨j, hj, rfl⟩ := mem_at.1 hx
    exact link_out.1 (h2 j hj)
  · have := (h3 (i + 1) hi).2 (by omega)
    simpa using this
  · obtain ⟨j, hj, rfl⟩ := mem_at.1 hx
    obtain ⟨⟨k, e, ho⟩, _⟩ := h3 j hj
    rcases pos_in cs (ns.getD j 0) n with ⟨e2, _⟩ | ⟨k2, e2, hk2, hx2, _⟩
    · omega
    · have : k = k2 := by omega
      subst this
      exact ⟨k, hk2, hx2, ho⟩
  · obtain ⟨j, hj, rfl⟩ := mem_at.1 hx
    rw [hls_len, (h1 k hk).2.2.1] at hj
    exact ((h1 k hk).2.2.2 j hj).2 ho ((young_iff hr _).2 hy)
theorem heap_obj {cs : Nat → Dv} {n : Nat} {rs ns : List Int} {nx : Int} (h : HeapOk cs n rs ns nx) {k : Nat} (hk : k < n) : ObjOk cs n ns nx k := by
  obtain ⟨_, h1, h2, h3, _, h5⟩ := h
  refine ⟨h1.1 k hk, fun q => ?_, h2 k hk, fun i hi => ⟨?_, fun ho hy => ?_⟩⟩
  · have := h1.2 (k - 1) (by omega)
    rwa [show k - 1 + 1 = k by omega] at this
  · exact link_out.2 (h3.1 k hk _ (mem_at.2 ⟨i, by rw [hls_len, h2 k hk]; exact hi, rfl⟩))
  · exact h5.2 k hk ho _ (mem_at.2 ⟨i, by rw [hls_len, h2 k hk]; exact hi, rfl⟩) (young_out hy)
theorem heap_root {cs : Nat → Dv} {n : Nat} {rs ns : List Int} {nx : Int} (h : HeapOk cs n rs ns nx) {i : Nat} (hi : i < rs.length) : linkB cs n (rs.getD i 0) = true := link_out.2 (h.2.2.2.1.2 _ (mem_at.2 ⟨i, hi, rfl⟩))
theorem heap_note {cs : Nat → Dv} {n : Nat} {rs ns : List Int} {nx : Int} (h : HeapOk cs n rs ns nx) {i : Nat} (hi : i < ns.length) : NoteOk cs n ns i := by
  obtain ⟨_, h1, _, _, h4, h5⟩ := h
  refine ⟨?_, fun q => ?_⟩
  · obtain ⟨k, hk, e, ho⟩ := h5.1 _ (mem_at.2 ⟨i, hi, rfl⟩)
    exact ⟨k, by rw [← e]; exact pos_of h1.2 hk, ho⟩
  · have := h4 (i - 1) (by omega)
    rwa [show i - 1 + 1 = i by omega] at this
end Go.Proofs.Ythomonidconmcaa.math
