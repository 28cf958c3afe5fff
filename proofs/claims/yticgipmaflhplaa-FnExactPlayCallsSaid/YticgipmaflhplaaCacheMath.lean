/-
  Caches: when they are good.
-/
import Derived.Test.YticgipmaflhplaaWorldMath
namespace Go.Proofs.Yticgipmaflhplaa.math
open Go.Proofs.Yticgipmaflhplaa.deep
set_option linter.unusedVariables false

def clW (cw : Nat → Dv) (i : Nat) : Int := (cw (i * 2)).int
def tgW (cw : Nat → Dv) (i : Nat) : Int := (cw (i * 2 + 1)).int
/-- A state goes with so many ways. -/
def stateB (s : Int) (l : Nat) : Bool := if s = 0 ∨ s = 3 then decide (l = 0) else if s = 1 then decide (l = 1) else decide (s = 2) && inR (l : Int) 2 4
def WayOk (cs : Nat → Dv) (n : Nat) (st cst : Int) (nm : Nat) (cw : Nat → Dv) (i : Nat) : Prop := (0 ≤ clW cw i ∧ clW cw i < (n : Int)) ∧ (1 ≤ tgW cw i ∧ tgW cw i ≤ 1000) ∧ (cst = st → findC cs (clW cw i) nm = tgW cw i) ∧ ∀ j, j < i → clW cw j ≠ clW cw i
instance (cs : Nat → Dv) (n : Nat) (st cst : Int) (nm : Nat) (cw : Nat → Dv) (i : Nat) : Decidable (WayOk cs n st cst nm cw i) := by unfold WayOk; exact inferInstance
def headB (cs : Nat → Dv) (n : Nat) (st nm s cst h lk : Int) (l : Nat) : Bool := worldB cs n st && inR nm 0 4 && stateB s l && inR cst 0 st && inR h 0 1000000 && inR lk 0 1000000
def cacheB (cs : Nat → Dv) (n : Nat) (st nm s : Int) (l : Nat) (cw : Nat → Dv) (cst h lk : Int) : Bool := headB cs n st nm s cst h lk l && decide (∀ i, i < l → WayOk cs n st cst nm.toNat cw i)
theorem cache_head {cs : Nat → Dv} {n : Nat} {st nm s : Int} {l : Nat} {cw : Nat → Dv} {cst h lk : Int} (q : headB cs n st nm s cst h lk l = false) : cacheB cs n st nm s l cw cst h lk = false := by unfold cacheB; rw [q]; rfl
theorem cache_bad {cs : Nat → Dv} {n : Nat} {st nm s : Int} {l : Nat} {cw : Nat → Dv} {cst h lk : Int} {i : Nat} (hi : i < l) (q : ¬ WayOk cs n st cst nm.toNat cw i) : cacheB cs n st nm s l cw cst h lk = false := by
  unfold cacheB; rw [decide_eq_false (fun r => q (r i hi))]; simp
theorem cache_yes {cs : Nat → Dv} {n : Nat} {st nm s : Int} {l : Nat} {cw : Nat → Dv} {cst h lk : Int} (q : headB cs n st nm s cst h lk l = true) (r : ∀ i, i < l → WayOk cs n st cst nm.toNat cw i) : cacheB cs n st nm s l cw cst h lk = true := by
  unfold cacheB; rw [q, decide_eq_true r]; rfl
theorem head_no {cs : Nat → Dv} {n : Nat} {st nm s : Int} {l : Nat} {cst h lk : Int} (q : worldB cs n st = false ∨ inR nm 0 4 = false ∨ stateB s l = false ∨ inR cst 0 st = false ∨ inR h 0 1000000 = false ∨ inR lk 0 1000000 = false) : headB cs n st nm s cst h lk l = false := by
  unfold headB
  rcases q with q | q | q | q | q | q <;> rw [q] <;> simp
theorem head_yes {cs : Nat → Dv} {n : Nat} {st nm s : Int} {l : Nat} {cst h lk : Int} (q0 : worldB cs n st = true) (q1 : inR nm 0 4 = true) (q2 : stateB s l = true) (q3 : inR cst 0 st = true) (q4 : inR h 0 1000000 = true) (q5 : inR lk 0 1000000 = true) : headB cs n st nm s cst h lk l = true := by
  unfold headB; rw [q0, q1, q2, q3, q4, q5]; rfl
theorem head_out {cs : Nat → Dv} {n : Nat} {st nm s : Int} {l : Nat} {cst h lk : Int} (q : headB cs n st nm s cst h lk l = true) : worldB cs n st = true ∧ inR nm 0 4 = true ∧ stateB s l = true ∧ inR cst 0 st = true ∧ inR h 0 1000000 = true ∧ inR lk 0 1000000 = true := by
  unfold headB at q
  simp only [Bool.and_eq_true] at q
  exact ⟨q.1.1.1.1.1, q.1.1.1.1.2, q.1.1.1.2, q.1.1.2, q.1.2, q.2⟩
theorem state_few {s : Int} {l : Nat} (h : stateB s l = true) : l ≤ 4 := by
  unfold stateB at h
  split at h
  · have := of_decide_eq_true h; omega
  · split at h
    · have := of_decide_eq_true h; omega
    · simp only [Bool.and_eq_true] at h
      have := inR_out h.2; omega
end Go.Proofs.Yticgipmaflhplaa.math
