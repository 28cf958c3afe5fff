/-
  Markers as deep data: when they are good.
-/
import Derived.Test.YtokaibpkajloeaaMagMath
import Derived.Test.YtokaibpkajloeaaDeep
import Derived.Test.YtokaibpkajloeaaDeepRow
import Derived.Test.YtokaibpkajloeaaMarkMath
namespace Go.Proofs.Ytokaibpkajloeaa.math
open Go.Proofs.Ytokaibpkajloeaa.deep
set_option linter.unusedVariables false

/-- The k-th cell: its links, its color, whether it is free. -/
def mln (cs : Nat → Dv) (k : Nat) : Nat := (cs (k * 3)).len
def mls (cs : Nat → Dv) (k : Nat) : List Int := intsOf (fun i => (cs (k * 3)).at i) (mln cs k)
def mco (cs : Nat → Dv) (k : Nat) : Int := (cs (k * 3 + 1)).int
def mfr (cs : Nat → Dv) (k : Nat) : Bool := (cs (k * 3 + 2)).bool
theorem mls_len (cs : Nat → Dv) (k : Nat) : (mls cs k).length = mln cs k := intsOf_len _ _
/-- What came in, as a marker at work. -/
def stM (cs : Nat → Dv) (rs : List Int) (on : Bool) : Mst := ⟨fun k j => (mls cs k).getD j 0, mfr cs, mco cs, fun j => rs.getD j 0, on⟩
/-- -1, or a cell that is taken; its color (grey for none). -/
def takB (fr : Nat → Bool) (n : Nat) (x : Int) : Bool := decide (0 ≤ x) && decide (x < (n : Int)) && !(fr x.toNat)
def cellB (fr : Nat → Bool) (n : Nat) (x : Int) : Bool := decide (x = -1) || takB fr n x
def colC (co : Nat → Int) (x : Int) : Int := if x < 0 then 1 else co x.toNat
theorem cellB_out {fr : Nat → Bool} {n : Nat} {x : Int} (h : cellB fr n x = true) : x = -1 ∨ ∃ k : Nat, x = (k : Int) ∧ k < n ∧ fr k = false := by
  unfold cellB takB at h
  simp only [Bool.or_eq_true, Bool.and_eq_true, decide_eq_true_eq, Bool.not_eq_true'] at h
  rcases h with q | ⟨⟨q1, q2⟩, q3⟩
  · exact Or.inl q
  · exact Or.inr ⟨x.toNat, by omega, by omega, q3⟩
def LinkW (s : Mst) (n k : Nat) (x : Int) : Prop := cellB s.fr n x = true ∧ (s.fr k = true → x = -1) ∧ (s.co k = 2 → colC s.co x ≠ 0)
def RootW (s : Mst) (n : Nat) (x : Int) : Prop := cellB s.fr n x = true ∧ (s.on = true → colC s.co x ≠ 0)
def CellW (s : Mst) (n k : Nat) : Prop := (0 ≤ s.co k ∧ s.co k ≤ 2) ∧ ((s.fr k = true ∨ s.on = false) → s.co k = 0) ∧ ∀ j, j < 2 → LinkW s n k (s.lk k j)
def MarkW (s : Mst) (n : Nat) : Prop := (2 ≤ n ∧ n ≤ 10) ∧ (∀ k, k < n → CellW s n k) ∧ ∀ j, j < 2 → RootW s n (s.rt j)
def MarkOk (cs : Nat → Dv) (n : Nat) (rs : List Int) (on : Bool) : Prop := rs.length = 2 ∧ (∀ k, k < n → mln cs k = 2) ∧ MarkW (stM cs rs on) n
noncomputable instance (cs : Nat → Dv) (n : Nat) (rs : List Int) (on : Bool) : Decidable (MarkOk cs n rs on) := Classical.propDecidable _
noncomputable def markB (cs : Nat → Dv) (n : Nat) (rs : List Int) (on : Bool) : Bool := decide (MarkOk cs n rs on)
theorem mark_out {cs : Nat → Dv} {n : Nat} {rs : List Int} {on : Bool} (h : markB cs n rs on = true) : MarkOk cs n rs on := by
  unfold markB at h; exact of_decide_eq_true h
theorem mark_yes {cs : Nat → Dv} {n : Nat} {rs : List Int} {on : Bool} (h : MarkOk cs n rs on) : markB cs n rs on = true := by
  unfold markB; exact decide_eq_true h
theorem mark_no {cs : Nat → Dv} {n : Nat} {rs : List Int} {on : Bool} (h : ¬ MarkOk cs n rs on) : markB cs n rs on = false := by
  unfold markB; exact decide_eq_false h
/-- What the specification asks of the k-th cell, as it asks it. -/
def CellOk (cs : Nat → Dv) (n : Nat) (rs : List Int) (on : Bool) (k : Nat) : Prop := mln cs k = 2 ∧ CellW (stM cs rs on) n k
theorem mark_of {cs : Nat → Dv} {n : Nat} {rs : List Int} {on : Bool} (h0 : 2 ≤ n ∧ n ≤ 10) (h1 : rs.length = 2) (h2 : ∀ k, k < n → CellOk cs n rs on k) (h3 : ∀ j, j < 2 → RootW (stM cs rs on) n (rs.getD j 0)) : MarkOk cs n rs on := ⟨h1, fun k hk => (h2 k hk).1, h0, fun k hk => (h2 k hk).2, h3⟩
theorem mark_cell {cs : Nat → Dv} {n : Nat} {rs : List Int} {on : Bool} (h : MarkOk cs n rs on) {k : Nat} (hk : k < n) : CellOk cs n rs on k := ⟨h.2.1 k hk, h.2.2.2.1 k hk⟩
end Go.Proofs.Ytokaibpkajloeaa.math
