/-
  Tasks: when they are good, and all that they take together.
-/
import Derived.Test.YtfgfhmfdkglhoaaMagMath
import Derived.Test.YtfgfhmfdkglhoaaPats
namespace Go.Proofs.Ytfgfhmfdkglhoaa.math
open Go.Proofs.Ytfgfhmfdkglhoaa.walks
set_option linter.unusedVariables false

/-- The first m numbers rise, from 0 at the least, and stay below e. -/
def RiseTo (zs : List Int) (e : Int) (m : Nat) : Prop := ∀ i, i < m → 0 ≤ zs.getD i 0 ∧ zs.getD i 0 < e ∧ (0 < i → zs.getD (i - 1) 0 < zs.getD i 0)
def riseB (zs : List Int) (e : Int) : Bool := decide (∀ i, i < zs.length → 0 ≤ zs.getD i 0 ∧ zs.getD i 0 < e ∧ (0 < i → zs.getD (i - 1) 0 < zs.getD i 0))
theorem rise_yes {zs : List Int} {e : Int} (h : RiseTo zs e zs.length) : riseB zs e = true := by unfold riseB; exact decide_eq_true (fun i hi => h i hi)
theorem rise_out {zs : List Int} {e : Int} (h : riseB zs e = true) : RiseTo zs e zs.length := by have q := of_decide_eq_true h; exact q
theorem rise_no {zs : List Int} {e : Int} {k : Nat} (hk : k < zs.length) (h : zs.getD k 0 < 0 ∨ e ≤ zs.getD k 0 ∨ (0 < k ∧ zs.getD k 0 ≤ zs.getD (k - 1) 0)) : riseB zs e = false := decide_eq_false (fun q => by
  obtain ⟨q0, q1, q2⟩ := q k hk
  rcases h with h | h | ⟨h1, h2⟩
  · omega
  · omega
  · have := q2 h1; omega)
theorem rise_nil (zs : List Int) (e : Int) : RiseTo zs e 0 := fun i hi => by omega
theorem rise_next {zs : List Int} {e : Int} {k : Nat} (h : RiseTo zs e k) (h0 : 0 ≤ zs.getD k 0) (h1 : zs.getD k 0 < e) (h2 : 0 < k → zs.getD (k - 1) 0 < zs.getD k 0) : RiseTo zs e (k + 1) := fun i hi => by
  by_cases q : i = k
  · subst q; exact ⟨h0, h1, h2⟩
  · exact h i (by omega)
/-- What is the least that may come next. -/
def nextL (zs : List Int) (k : Nat) : Int := if k = 0 then 0 else zs.getD (k - 1) 0 + 1
theorem nextL_zero (zs : List Int) : nextL zs 0 = 0 := rfl
theorem nextL_succ (zs : List Int) (k : Nat) : nextL zs (k + 1) = zs.getD k 0 + 1 := by simp [nextL]
theorem nextL_pos {zs : List Int} {k : Nat} (h : 0 < k) : nextL zs k = zs.getD (k - 1) 0 + 1 := if_neg (by omega)
theorem nextL_nonneg {zs : List Int} {e : Int} {k : Nat} (h : RiseTo zs e k) : 0 ≤ nextL zs k := by
  unfold nextL
  split
  · exact Int.le_refl _
  · have := (h (k - 1) (by omega)).1; omega
theorem nextL_le {zs : List Int} {e : Int} {k : Nat} (h : RiseTo zs e k) (he : 0 ≤ e) : nextL zs k ≤ e := by
  unfold nextL
  split
  · exact he
  · have := (h (k - 1) (by omega)).2.1; omega
/-- One task. -/
def taskB (p : Pv) (k : Nat) : Bool := inR p.c 1 20 && riseB p.zs (k : Int)
theorem task_long {p : Pv} {k : Nat} (h : inR p.c 1 20 = false) : taskB p k = false := by unfold taskB; rw [h]; rfl
theorem task_rise {p : Pv} {k : Nat} (h : riseB p.zs (k : Int) = false) : taskB p k = false := by unfold taskB; rw [h]; simp
theorem task_yes {p : Pv} {k : Nat} (h : inR p.c 1 20 = true) (h2 : riseB p.zs (k : Int) = true) : taskB p k = true := by unfold taskB; rw [h, h2]; rfl
theorem task_out {p : Pv} {k : Nat} (h : taskB p k = true) : 1 ≤ p.c ∧ p.c ≤ 20 ∧ RiseTo p.zs (k : Int) p.zs.length := by
  unfold taskB at h
  simp only [Bool.and_eq_true] at h
  exact ⟨(inR_out h.1).1, (inR_out h.1).2, rise_out h.2⟩
def tasksB (f : Nat → Pv) (n : Nat) : Bool := decide (n ≤ 12 ∧ ∀ k, k < n → taskB (f k) k = true)
theorem tasks_bad {f : Nat → Pv} {n k : Nat} (hk : k < n) (h : taskB (f k) k = false) : tasksB f n = false := decide_eq_false (fun q => by rw [q.2 k hk] at h; cases h)
theorem tasks_many {f : Nat → Pv} {n : Nat} (h : 12 < n) : tasksB f n = false := decide_eq_false (fun q => by omega)
theorem tasks_yes {f : Nat → Pv} {n : Nat} (h : n ≤ 12) (h2 : ∀ k, k < n → taskB (f k) k = true) : tasksB f n = true := decide_eq_true ⟨h, h2⟩
theorem tasks_out {f : Nat → Pv} {n : Nat} (h : tasksB f n = true) : n ≤ 12 ∧ ∀ k, k < n → taskB (f k) k = true := of_decide_eq_true h
/-- What the first k tasks take together. -/
def workTo (f : Nat → Pv) : Nat → Int
  | 0 => 0
  | k + 1 => workTo f k + (f k).c
theorem work_le {f : Nat → Pv} {n : Nat} (h : ∀ k, k < n → taskB (f k) k = true) : ∀ k, k ≤ n → 0 ≤ workTo f k ∧ workTo f k ≤ 20 * (k : Int)
  | 0, _ => by simp [workTo]
  | k + 1, hk => by
    have h1 := work_le h k (by omega)
    have h2 := task_out (h k (by omega))
    simp only [workTo]
    omega
end Go.Proofs.Ytfgfhmfdkglhoaa.math
