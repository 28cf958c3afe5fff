/-
  Tasks and when they begin: which are being done at a moment, which may begin, and when this is a schedule.
-/
import Derived.Test.YtbnddgdembmooaaTaskMath
namespace Go.Proofs.Ytbnddgdembmooaa.math
open Go.Proofs.Ytbnddgdembmooaa.walks
set_option linter.unusedVariables false

/-- When a task that has begun is over. -/
def overV (f : Nat → Pv) (t : List Int) (k : Nat) : Int := t.getD k 0 + (f k).c
/-- It is being done. -/
def onB (f : Nat → Pv) (t : List Int) (m : Int) (k : Nat) : Bool := decide (0 ≤ t.getD k 0 ∧ t.getD k 0 ≤ m ∧ m < overV f t k)
def runTo (f : Nat → Pv) (t : List Int) (m : Int) : Nat → Nat
  | 0 => 0
  | k + 1 => runTo f t m k + (if onB f t m k then 1 else 0)
theorem runTo_le (f : Nat → Pv) (t : List Int) (m : Int) : ∀ k, runTo f t m k ≤ k
  | 0 => Nat.le_refl _
  | k + 1 => by have := runTo_le f t m k; simp only [runTo]; split <;> omega
theorem runTo_yes {f : Nat → Pv} {t : List Int} {m : Int} {k : Nat} (h0 : 0 ≤ t.getD k 0) (h1 : t.getD k 0 ≤ m) (h2 : m < overV f t k) : runTo f t m (k + 1) = runTo f t m k + 1 := by
  simp only [runTo]; unfold onB; rw [decide_eq_true ⟨h0, h1, h2⟩]; rfl
theorem runTo_no {f : Nat → Pv} {t : List Int} {m : Int} {k : Nat} (h : t.getD k 0 < 0 ∨ m < t.getD k 0 ∨ overV f t k ≤ m) : runTo f t m (k + 1) = runTo f t m k := by
  simp only [runTo]; unfold onB; rw [decide_eq_false (by omega)]; rfl
/-- The first j of those that a task hangs on are over. -/
def ReadyTo (f : Nat → Pv) (t : List Int) (zs : List Int) (m : Int) (j : Nat) : Prop := ∀ i, i < j → 0 ≤ t.getD (zs.getD i 0).toNat 0 ∧ overV f t (zs.getD i 0).toNat ≤ m
def readyB (f : Nat → Pv) (t : List Int) (k : Nat) (m : Int) : Bool := decide (∀ i, i < (f k).zs.length → 0 ≤ t.getD ((f k).zs.getD i 0).toNat 0 ∧ overV f t ((f k).zs.getD i 0).toNat ≤ m)
theorem ready_yes {f : Nat → Pv} {t : List Int} {k : Nat} {m : Int} (h : ReadyTo f t (f k).zs m (f k).zs.length) : readyB f t k m = true := by unfold readyB; exact decide_eq_true (fun i hi => h i hi)
theorem ready_no {f : Nat → Pv} {t : List Int} {k j : Nat} {m : Int} (hj : j < (f k).zs.length) (h : t.getD ((f k).zs.getD j 0).toNat 0 < 0 ∨ m < overV f t ((f k).zs.getD j 0).toNat) : readyB f t k m = false := by
  unfold readyB
  exact decide_eq_false (fun q => by have := q j hj; omega)
theorem ready_nil (f : Nat → Pv) (t zs : List Int) (m : Int) : ReadyTo f t zs m 0 := fun i hi => by omega
theorem ready_next {f : Nat → Pv} {t zs : List Int} {m : Int} {j : Nat} (h : ReadyTo f t zs m j) (h0 : 0 ≤ t.getD (zs.getD j 0).toNat 0) (h1 : overV f t (zs.getD j 0).toNat ≤ m) : ReadyTo f t zs m (j + 1) := fun i hi => by
  by_cases q : i = j
  · subst q; exact ⟨h0, h1⟩
  · exact h i (by omega)
/-- Starts that may be asked about. -/
def startsB (t : List Int) (n : Nat) : Bool := decide (t.length = n ∧ ∀ i, i < n → 0 ≤ t.getD i 0 ∧ t.getD i 0 ≤ 1000)
theorem starts_len {t : List Int} {n : Nat} (h : t.length ≠ n) : startsB t n = false := by unfold startsB; exact decide_eq_false (fun q => h q.1)
theorem starts_bad {t : List Int} {n k : Nat} (hk : k < n) (h : inR (t.getD k 0) 0 1000 = false) : startsB t n = false := by
  unfold startsB
  unfold inR at h
  have := of_decide_eq_false h
  exact decide_eq_false (fun q => by have := q.2 k hk; omega)
theorem starts_yes {t : List Int} {n : Nat} (h : t.length = n) (h2 : ∀ i, i < n → 0 ≤ t.getD i 0 ∧ t.getD i 0 ≤ 1000) : startsB t n = true := by unfold startsB; exact decide_eq_true ⟨h, h2⟩
theorem starts_out {t : List Int} {n : Nat} (h : startsB t n = true) : t.length = n ∧ ∀ i, i < n → 0 ≤ t.getD i 0 ∧ t.getD i 0 ≤ 1000 := by unfold startsB at h; exact of_decide_eq_true h
/-- One task is as it should be. -/
def fitB (f : Nat → Pv) (t : List Int) (n : Nat) (u : Int) (k : Nat) : Bool := readyB f t k (t.getD k 0) && decide ((runTo f t (t.getD k 0) n : Int) ≤ u)
def schedB (f : Nat → Pv) (t : List Int) (n : Nat) (u : Int) : Bool := decide (∀ k, k < n → fitB f t n u k = true)
theorem sched_bad {f : Nat → Pv} {t : List Int} {n k : Nat} {u : Int} (hk : k < n) (h : fitB f t n u k = false) : schedB f t n u = false := by unfold schedB; exact decide_eq_false (fun q => by rw [q k hk] at h; cases h)
theorem sched_yes {f : Nat → Pv} {t : List Int} {n : Nat} {u : Int} (h : ∀ k, k < n → fitB f t n u k = true) : schedB f t n u = true := by unfold schedB; exact decide_eq_true h
theorem fit_ready {f : Nat → Pv} {t : List Int} {n k : Nat} {u : Int} (h : readyB f t k (t.getD k 0) = false) : fitB f t n u k = false := by unfold fitB; rw [h]; rfl
theorem fit_many {f : Nat → Pv} {t : List Int} {n k : Nat} {u : Int} (h : u < (runTo f t (t.getD k 0) n : Int)) : fitB f t n u k = false := by unfold fitB; rw [decide_eq_false (by omega)]; simp
theorem fit_yes {f : Nat → Pv} {t : List Int} {n k : Nat} {u : Int} (h : readyB f t k (t.getD k 0) = true) (h2 : (runTo f t (t.getD k 0) n : Int) ≤ u) : fitB f t n u k = true := by unfold fitB; rw [h, decide_eq_true h2]; rfl
/-- What may be asked, and what is answered. -/
def okS (f : Nat → Pv) (t : List Int) (n : Nat) (u : Int) : Bool := tasksB f n && inR u 1 4 && startsB t n
def isS (f : Nat → Pv) (t : List Int) (n : Nat) (u : Int) : Bool := okS f t n u && schedB f t n u
end Go.Proofs.Ytbnddgdembmooaa.math
