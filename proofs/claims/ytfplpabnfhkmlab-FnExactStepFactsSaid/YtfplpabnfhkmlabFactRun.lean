/-
  Facts behind code, as plain data.
-/
import Derived.Test.YtfplpabnfhkmlabFactMath
import Derived.Test.YtfplpabnfhkmlabCodeMath
import Derived.Test.YtfplpabnfhkmlabRunMath
import Derived.WalkKit
namespace Go.Proofs.Ytfplpabnfhkmlab.math

def zeroF : Fv := ⟨false, true, 0⟩
def knownF (n : Int) : Fv := ⟨false, true, n⟩
/-- The fact of a step of two. -/
def twoF (o : Int) (f h : Fv) : Fv := if f.k = true ∧ h.k = true then ⟨false, true, doV o f.n h.n⟩ else if o = 5 ∧ (f = zeroF ∨ h = zeroF) then zeroF else any
def setF (g : Nat → Fv) (k : Nat) (f : Fv) : Nat → Fv := fun i => if i = k then f else g i
theorem setF_same (g : Nat → Fv) (k : Nat) (f : Fv) : setF g k f k = f := if_pos rfl
theorem setF_other (g : Nat → Fv) {k i : Nat} (f : Fv) (h : i ≠ k) : setF g k f i = g i := if_neg h
def stepF (g : Nat → Fv) (o d a b n : Int) : Nat → Fv := if o = 1 then setF g d.toNat (knownF n) else if o = 2 then setF g d.toNat (g a.toNat) else if o = 8 then g else setF g d.toNat (twoF o (g a.toNat) (g b.toNat))
def runF (zs : List Int) (g : Nat → Fv) : Nat → Nat → Fv
  | 0 => g
  | k + 1 => stepF (runF zs g k) (zs.getD (k * 5) 0) (zs.getD (k * 5 + 1) 0) (zs.getD (k * 5 + 2) 0) (zs.getD (k * 5 + 3) 0) (zs.getD (k * 5 + 4) 0)
/-- A good fact that is not Top. -/
def Fv.come (f : Fv) : Bool := f.good && !f.t
def factsB (g : Nat → Fv) (n : Nat) : Bool := decide (n = 8 ∧ ∀ i, i < n → (g i).come = true)
theorem facts_out {g : Nat → Fv} {n : Nat} (h : factsB g n = true) : n = 8 ∧ ∀ i, i < n → (g i).come = true := of_decide_eq_true h
theorem facts_mk {g : Nat → Fv} {n : Nat} (h : n = 8) (k : ∀ i, i < n → (g i).come = true) : factsB g n = true := decide_eq_true ⟨h, k⟩
theorem facts_no {g : Nat → Fv} {n : Nat} (h : n ≠ 8) : factsB g n = false := decide_eq_false (fun ⟨k, _⟩ => h k)
theorem facts_bad {g : Nat → Fv} {n i : Nat} (hi : i < n) (h : (g i).come = false) : factsB g n = false := decide_eq_false (fun ⟨_, k⟩ => by rw [k i hi] at h; cases h)
theorem come_out {f : Fv} (h : f.come = true) : f.t = false ∧ (f.k = true → 0 ≤ f.n ∧ f.n ≤ 65535) ∧ (f.k = false → f.n = 0) := by
  simp [Fv.come] at h
  refine ⟨h.2, fun k => ?_, fun k => good_else h.1 k⟩
  have := good_word h.1 k
  exact this.2
theorem come_known {n : Int} (h0 : 0 ≤ n) (h1 : n ≤ 65535) : (knownF n).come = true := by
  simp [Fv.come, knownF, Fv.good, goodF, inR_mk h0 h1]
theorem come_any : any.come = true := rfl
theorem come_two {o : Int} {f h : Fv} : (twoF o f h).come = true := by
  unfold twoF
  split
  · exact come_known do_bd.1 do_bd.2
  · split
    · rfl
    · rfl
theorem come_set {g : Nat → Fv} {j : Nat} {f : Fv} (h : ∀ i, i < 8 → (g i).come = true) (hf : f.come = true) : ∀ i, i < 8 → (setF g j f i).come = true := by
  intro i hi
  by_cases e : i = j
  · subst e; rw [setF_same]; exact hf
  · rw [setF_other g f e]; exact h i hi
theorem come_step {g : Nat → Fv} {o d a b n : Int} (h : ∀ i, i < 8 → (g i).come = true) (hg : goodI o d a b n = true) : ∀ i, i < 8 → (stepF g o d a b n i).come = true := by
  unfold stepF
  rcases good_cases hg with ⟨rfl, ⟨d0, d1⟩, n0, n1⟩ | ⟨rfl, ⟨d0, d1⟩, x0, x1⟩ | ⟨rfl, x0, x1⟩ | ⟨⟨o3, o7⟩, ⟨d0, d1⟩, ⟨x0, x1⟩, y0, y1⟩
  · rw [if_pos rfl]; exact come_set h (come_known n0 n1)
  · rw [if_neg (by omega), if_pos rfl]; exact come_set h (h _ (by omega))
  · rw [if_neg (by omega), if_neg (by omega), if_pos rfl]; exact h
  · rw [if_neg (by omega), if_neg (by omega), if_neg (by omega)]; exact come_set h come_two
theorem come_run {zs : List Int} {g : Nat → Fv} {len : Nat} (h : ∀ i, i < 8 → (g i).come = true) (hg : ∀ k, k < len → stepB zs k = true) : ∀ k, k ≤ len → ∀ i, i < 8 → (runF zs g k i).come = true
  | 0, _ => h
  | k + 1, hk => come_step (come_run h hg k (by omega)) (hg k (by omega))
end Go.Proofs.Ytfplpabnfhkmlab.math
