/-
  Stack code as plain mathematics: what a step takes off and puts on, which code is good, how many are on the stack.
-/
import Derived.Test.YtdacpbhdemkacaaMagMath
import Derived.Test.YtdacpbhdemkacaaDeep
namespace Go.Proofs.Ytdacpbhdemkacaa.math
open Go.Proofs.Ytdacpbhdemkacaa.deep
set_option linter.unusedVariables false

def opS (cs : Nat → Dv) (k : Nat) : Int := (cs (k * 2)).int
def nS (cs : Nat → Dv) (k : Nat) : Int := (cs (k * 2 + 1)).int
def offK (o : Int) : Int := if o = 1 ∨ o = 2 then 0 else if o = 3 ∨ o = 9 ∨ o = 10 then 1 else if o = 8 then 1 else 2
def onK (o : Int) : Int := if o = 1 ∨ o = 2 then 1 else if o = 3 ∨ o = 9 ∨ o = 10 then 0 else if o = 8 then 2 else 1
def okS (o n : Int) : Bool := if o = 1 then inR n 0 65535 else if o = 2 ∨ o = 3 then inR n 0 2 else inR o 4 10 && n == 0
/-- How many are on the stack ahead of step k. -/
def dpt (cs : Nat → Dv) : Nat → Int
  | 0 => 0
  | k + 1 => dpt cs k + (onK (opS cs k) - offK (opS cs k))
def StepOk (cs : Nat → Dv) (k : Nat) : Prop := okS (opS cs k) (nS cs k) = true ∧ offK (opS cs k) ≤ dpt cs k ∧ dpt cs k - offK (opS cs k) + onK (opS cs k) ≤ 4
instance (cs : Nat → Dv) (k : Nat) : Decidable (StepOk cs k) := by unfold StepOk; exact inferInstance
def stepsB (cs : Nat → Dv) (n : Nat) : Bool := decide (n ≤ 20 ∧ ∀ k, k < n → StepOk cs k)
def depL (cs : Nat → Dv) (n : Nat) : List Int := (List.range (n + 1)).map (dpt cs)
def depZ (cs : Nat → Dv) (n : Nat) : List Int := if stepsB cs n then depL cs n else []
theorem depL_len (cs : Nat → Dv) (n : Nat) : (depL cs n).length = n + 1 := by simp [depL]
theorem depL_at (cs : Nat → Dv) {n k : Nat} (h : k ≤ n) : (depL cs n).getD k 0 = dpt cs k := by
  have : k < n + 1 := by omega
  simp [depL, List.getD, this]
theorem depL_snoc (cs : Nat → Dv) (n : Nat) : depL cs n ++ [dpt cs (n + 1)] = depL cs (n + 1) := by
  unfold depL
  rw [List.range_succ (n := n + 1), List.map_append]; rfl
theorem depZ_len (cs : Nat → Dv) (n : Nat) : (depZ cs n).length ≤ 21 := by
  unfold depZ
  cases h : stepsB cs n
  · simp
  · have := (of_decide_eq_true h).1
    simp [depL_len]; omega
theorem on_pos (o : Int) : 0 ≤ onK o ∧ onK o ≤ 2 := by unfold onK; repeat (first | omega | split)
theorem off_pos (o : Int) : 0 ≤ offK o ∧ offK o ≤ 2 := by unfold offK; repeat (first | omega | split)
theorem dpt_in {cs : Nat → Dv} : ∀ {k : Nat}, (∀ j, j < k → StepOk cs j) → 0 ≤ dpt cs k ∧ dpt cs k ≤ 4
  | 0, _ => by show (0 : Int) ≤ 0 ∧ (0 : Int) ≤ 4; omega
  | k + 1, h => by
    have h1 := h k (by omega)
    obtain ⟨_, h2, h3⟩ := h1
    have h4 := on_pos (opS cs k)
    show 0 ≤ dpt cs k + (onK (opS cs k) - offK (opS cs k)) ∧ dpt cs k + (onK (opS cs k) - offK (opS cs k)) ≤ 4
    omega
theorem steps_out {cs : Nat → Dv} {n : Nat} (h : stepsB cs n = true) : n ≤ 20 ∧ ∀ k, k < n → StepOk cs k := of_decide_eq_true h
theorem steps_long {cs : Nat → Dv} {n : Nat} (h : 20 < n) : stepsB cs n = false := decide_eq_false (fun q => by omega)
theorem steps_bad {cs : Nat → Dv} {n k : Nat} (h : k < n) (hb : ¬ StepOk cs k) : stepsB cs n = false := decide_eq_false (fun q => hb (q.2 k h))
theorem steps_yes {cs : Nat → Dv} {n : Nat} (h : n ≤ 20) (hb : ∀ k, k < n → StepOk cs k) : stepsB cs n = true := decide_eq_true ⟨h, hb⟩
theorem depZ_no {cs : Nat → Dv} {n : Nat} (h : stepsB cs n = false) : depZ cs n = [] := by unfold depZ; rw [h]; rfl
theorem depZ_yes {cs : Nat → Dv} {n : Nat} (h : stepsB cs n = true) : depZ cs n = depL cs n := by unfold depZ; rw [h]; rfl
theorem okS_op {o n : Int} (h : okS o n = true) : 1 ≤ o ∧ o ≤ 10 := by
  unfold okS at h
  by_cases h1 : o = 1
  · omega
  · rw [if_neg h1] at h
    by_cases h2 : o = 2 ∨ o = 3
    · omega
    · rw [if_neg h2] at h
      simp only [Bool.and_eq_true] at h
      have := inR_out h.1
      omega
end Go.Proofs.Ytdacpbhdemkacaa.math
