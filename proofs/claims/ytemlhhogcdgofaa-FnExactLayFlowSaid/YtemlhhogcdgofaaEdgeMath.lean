/-
  Edges as one flat list of ints, when they are good; orders, when they are layouts.
-/
import Derived.Test.YtemlhhogcdgofaaMagMath
namespace Go.Proofs.Ytemlhhogcdgofaa.math
set_option linter.unusedVariables false

def frE (z : List Int) (k : Nat) : Int := z.getD (k * 3) 0
def toE (z : List Int) (k : Nat) : Int := z.getD (k * 3 + 1) 0
def ctE (z : List Int) (k : Nat) : Int := z.getD (k * 3 + 2) 0
/-- The k-th edge is one from a block to a block, with a count, and unlike those ahead of it. -/
def EdgeOk (z : List Int) (u : Int) (k : Nat) : Prop := (0 ≤ frE z k ∧ frE z k < u) ∧ (0 ≤ toE z k ∧ toE z k < u) ∧ (0 ≤ ctE z k ∧ ctE z k ≤ 100000) ∧ ∀ j, j < k → ¬ (frE z j = frE z k ∧ toE z j = toE z k)
instance (z : List Int) (u : Int) (k : Nat) : Decidable (EdgeOk z u k) := by unfold EdgeOk; exact inferInstance
def edgesB (z : List Int) (u : Int) (n : Nat) : Bool := decide (1 ≤ u ∧ u ≤ 8 ∧ n ≤ 20 ∧ ∀ k, k < n → EdgeOk z u k)
theorem edges_bad {z : List Int} {u : Int} {n k : Nat} (hk : k < n) (h : ¬ EdgeOk z u k) : edgesB z u n = false := decide_eq_false (fun q => h (q.2.2.2 k hk))
theorem edges_u {z : List Int} {u : Int} {n : Nat} (h : inR u 1 8 = false) : edgesB z u n = false := decide_eq_false (fun q => by rw [inR_mk q.1 q.2.1] at h; cases h)
theorem edges_many {z : List Int} {u : Int} {n : Nat} (h : 20 < n) : edgesB z u n = false := decide_eq_false (fun q => by omega)
theorem edges_yes {z : List Int} {u : Int} {n : Nat} (h : inR u 1 8 = true) (hn : n ≤ 20) (h2 : ∀ k, k < n → EdgeOk z u k) : edgesB z u n = true := decide_eq_true ⟨(inR_out h).1, (inR_out h).2, hn, h2⟩
theorem edges_out {z : List Int} {u : Int} {n : Nat} (h : edgesB z u n = true) : 1 ≤ u ∧ u ≤ 8 ∧ n ≤ 20 ∧ ∀ k, k < n → EdgeOk z u k := of_decide_eq_true h

/-- The place x * 8 + y is taken by one of the first k edges. -/
def takE (z : List Int) : Nat → Int → Bool
  | 0, _ => false
  | k + 1, i => takE z k i || decide (frE z k * 8 + toE z k = i)
theorem takE_iff {z : List Int} {i : Int} : ∀ k, takE z k i = true ↔ ∃ j, j < k ∧ frE z j * 8 + toE z j = i
  | 0 => by simp [takE]
  | m + 1 => by
    simp only [takE, Bool.or_eq_true, decide_eq_true_eq, takE_iff m]
    constructor
    · rintro (⟨i, h1, h2⟩ | h)
      · exact ⟨i, by omega, h2⟩
      · exact ⟨m, by omega, h⟩
    · rintro ⟨i, h1, h2⟩
      by_cases e : i = m
      · exact Or.inr (by rw [← e]; exact h2)
      · exact Or.inl ⟨i, by omega, h2⟩
theorem edge_ok {z : List Int} {u : Int} {k : Nat} (hu : u ≤ 8) (h : ∀ j, j < k → EdgeOk z u j) (hx : inR (frE z k) 0 (u - 1) = true) (hy : inR (toE z k) 0 (u - 1) = true) (hc : inR (ctE z k) 0 100000 = true) (ht : takE z k (frE z k * 8 + toE z k) = false) : EdgeOk z u k := by
  have h1 := inR_out hx; have h2 := inR_out hy
  refine ⟨⟨h1.1, by omega⟩, ⟨h2.1, by omega⟩, inR_out hc, fun j hj q => ?_⟩
  rw [(takE_iff k).2 ⟨j, hj, by rw [q.1, q.2]⟩] at ht
  cases ht
theorem edge_no {z : List Int} {u : Int} {k : Nat} (hu : u ≤ 8) (h : ∀ j, j < k → EdgeOk z u j) (hn : inR (frE z k) 0 (u - 1) = false ∨ inR (toE z k) 0 (u - 1) = false ∨ inR (ctE z k) 0 100000 = false ∨ takE z k (frE z k * 8 + toE z k) = true) : ¬ EdgeOk z u k := by
  rintro ⟨⟨r0, r1⟩, ⟨r2, r3⟩, ⟨r4, r5⟩, r6⟩
  rcases hn with q | q | q | q
  · rw [inR_mk r0 (by omega)] at q; cases q
  · rw [inR_mk r2 (by omega)] at q; cases q
  · rw [inR_mk r4 r5] at q; cases q
  · obtain ⟨j, hj, e⟩ := (takE_iff k).1 q
    obtain ⟨⟨s0, s1⟩, ⟨s2, s3⟩, _⟩ := h j hj
    exact r6 j hj ⟨by omega, by omega⟩
/-- x is among the first m. -/
def hasTo (zs : List Int) (x : Int) : Nat → Bool
  | 0 => false
  | m + 1 => hasTo zs x m || decide (zs.getD m 0 = x)
theorem hasTo_iff {zs : List Int} {x : Int} : ∀ m, hasTo zs x m = true ↔ ∃ i, i < m ∧ zs.getD i 0 = x
  | 0 => by simp [hasTo]
  | m + 1 => by
    simp only [hasTo, Bool.or_eq_true, decide_eq_true_eq, hasTo_iff m]
    constructor
    · rintro (⟨i, h1, h2⟩ | h)
      · exact ⟨i, by omega, h2⟩
      · exact ⟨m, by omega, h⟩
    · rintro ⟨i, h1, h2⟩
      by_cases e : i = m
      · exact Or.inr (by rw [← e]; exact h2)
      · exact Or.inl ⟨i, by omega, h2⟩
theorem hasTo_no {zs : List Int} {x : Int} {m : Nat} (h : hasTo zs x m = false) {i : Nat} (hi : i < m) : zs.getD i 0 ≠ x := fun e => by
  rw [(hasTo_iff m).2 ⟨i, hi, e⟩] at h; cases h
/-- The place i of an order: a block, and one that was not told ahead of it. -/
def OrdOk (zs : List Int) (u : Int) (i : Nat) : Prop := 0 ≤ zs.getD i 0 ∧ zs.getD i 0 < u ∧ hasTo zs (zs.getD i 0) i = false
instance (zs : List Int) (u : Int) (k : Nat) : Decidable (OrdOk zs u k) := by unfold OrdOk; exact inferInstance
def orderB (zs : List Int) (u : Int) : Bool := decide ((zs.length : Int) = u ∧ ∀ i, i < zs.length → OrdOk zs u i)
theorem order_len {zs : List Int} {u : Int} (h : (zs.length : Int) ≠ u) : orderB zs u = false := decide_eq_false (fun q => h q.1)
theorem order_bad {zs : List Int} {u : Int} {k : Nat} (hk : k < zs.length) (h : ¬ OrdOk zs u k) : orderB zs u = false := decide_eq_false (fun q => h (q.2 k hk))
theorem order_yes {zs : List Int} {u : Int} (h : (zs.length : Int) = u) (h2 : ∀ i, i < zs.length → OrdOk zs u i) : orderB zs u = true := decide_eq_true ⟨h, h2⟩
theorem order_out {zs : List Int} {u : Int} (h : orderB zs u = true) : (zs.length : Int) = u ∧ ∀ i, i < zs.length → OrdOk zs u i := of_decide_eq_true h
def layB (zs : List Int) (u : Int) : Bool := inR u 1 8 && orderB zs u && decide (zs.getD 0 0 = 0)
theorem lay_u {zs : List Int} {u : Int} (h : inR u 1 8 = false) : layB zs u = false := by unfold layB; rw [h]; rfl
theorem lay_ord {zs : List Int} {u : Int} (h : orderB zs u = false) : layB zs u = false := by unfold layB; rw [h]; simp
theorem lay_first {zs : List Int} {u : Int} (h : zs.getD 0 0 ≠ 0) : layB zs u = false := by unfold layB; rw [decide_eq_false h]; simp
theorem lay_yes {zs : List Int} {u : Int} (h : inR u 1 8 = true) (h1 : orderB zs u = true) (h2 : zs.getD 0 0 = 0) : layB zs u = true := by unfold layB; rw [h, h1, decide_eq_true h2]; rfl
theorem lay_out {zs : List Int} {u : Int} (h : layB zs u = true) : 1 ≤ u ∧ u ≤ 8 ∧ orderB zs u = true ∧ zs.getD 0 0 = 0 := by
  unfold layB at h
  simp only [Bool.and_eq_true, decide_eq_true_eq] at h
  exact ⟨(inR_out h.1.1).1, (inR_out h.1.1).2, h.1.2, h.2⟩
end Go.Proofs.Ytemlhhogcdgofaa.math
