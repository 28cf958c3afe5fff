/-
  A marker at work, as mathematics; as deep data.
-/
import Derived.Test.YtokaibpkajloeaaMagMath
import Derived.Test.YtokaibpkajloeaaDeep
import Derived.Test.YtokaibpkajloeaaDeepRow
namespace Go.Proofs.Ytokaibpkajloeaa.math
open Go.Proofs.Ytokaibpkajloeaa.deep
set_option linter.unusedVariables false

def upN {α : Type} (f : Nat → α) (k : Nat) (v : α) : Nat → α := fun i => if i = k then v else f i
theorem upN_same {α : Type} (f : Nat → α) (k : Nat) (v : α) : upN f k v k = v := if_pos rfl
theorem upN_other {α : Type} (f : Nat → α) {k i : Nat} (v : α) (h : i ≠ k) : upN f k v i = f i := if_neg h
/-- The cells' links, whether they are free, their colors; the roots; whether it is marking. -/
structure Mst where
  lk : Nat → Nat → Int
  fr : Nat → Bool
  co : Nat → Int
  rt : Nat → Int
  on : Bool
def Mst.setLk (s : Mst) (k j : Nat) (v : Int) : Mst := ⟨upN s.lk k (upN (s.lk k) j v), s.fr, s.co, s.rt, s.on⟩
def Mst.setFr (s : Mst) (k : Nat) (b : Bool) : Mst := ⟨s.lk, upN s.fr k b, s.co, s.rt, s.on⟩
def Mst.setCo (s : Mst) (k : Nat) (v : Int) : Mst := ⟨s.lk, s.fr, upN s.co k v, s.rt, s.on⟩
def Mst.setRt (s : Mst) (j : Nat) (v : Int) : Mst := ⟨s.lk, s.fr, s.co, upN s.rt j v, s.on⟩
def Mst.setMk (s : Mst) (b : Bool) : Mst := ⟨s.lk, s.fr, s.co, s.rt, b⟩
/-- A marker's cells, its roots as deep data. -/
def cellD (s : Mst) (i : Nat) : Dv := if i % 3 = 0 then .l 2 1 (fun j => .n (s.lk (i / 3) j)) else if i % 3 = 1 then .n (s.co (i / 3)) else .t (s.fr (i / 3))
def rootD (s : Mst) (j : Nat) : Dv := .n (s.rt j)
/-- All cells are free but none; the one that a new marker has. -/
def bareS : Mst := ⟨fun _ _ => -1, fun _ => true, fun _ => 0, fun _ => -1, false⟩
def newS : Mst := ⟨fun _ _ => -1, fun i => decide (0 < i), fun _ => 0, fun j => if j = 0 then 0 else -1, false⟩
/-- The first of the first n that is free. -/
def freeT (f : Nat → Bool) : Nat → Option Nat
  | 0 => none
  | m + 1 => match freeT f m with
    | some k => some k
    | none => if f m = true then some m else none
theorem free_none {f : Nat → Bool} : ∀ {n : Nat}, (∀ j, j < n → f j = false) → freeT f n = none
  | 0, _ => rfl
  | n + 1, h => by
    unfold freeT
    rw [free_none (fun j hj => h j (by omega))]
    simp [h n (by omega)]
theorem free_some {f : Nat → Bool} {k : Nat} : ∀ {n : Nat}, k < n → f k = true → (∀ j, j < k → f j = false) → freeT f n = some k
  | 0, hk, _, _ => by omega
  | n + 1, hk, h, hj => by
    unfold freeT
    by_cases e : k = n
    · subst e
      rw [free_none hj]
      simp [h]
    · rw [free_some (by omega) h hj]
theorem free_is (f : Nat → Bool) : ∀ n, (freeT f n = none ∧ ∀ j, j < n → f j = false) ∨ ∃ k, freeT f n = some k ∧ k < n ∧ f k = true ∧ ∀ j, j < k → f j = false
  | 0 => Or.inl ⟨rfl, fun j hj => by omega⟩
  | n + 1 => by
    rcases free_is f n with ⟨e, h⟩ | ⟨k, e, hk, h1, h2⟩
    · cases q : f n
      · refine Or.inl ⟨by unfold freeT; rw [e]; simp [q], fun j hj => ?_⟩
        by_cases r : j = n
        · rw [r]; exact q
        · exact h j (by omega)
      · exact Or.inr ⟨n, by unfold freeT; rw [e]; simp [q], by omega, q, h⟩
    · exact Or.inr ⟨k, by unfold freeT; rw [e], by omega, h1, h2⟩
/-- What is led to becomes grey. -/
def shadeS (s : Mst) (x : Int) : Mst := if s.on = true ∧ x ≠ -1 ∧ s.co x.toNat = 0 then s.setCo x.toNat 1 else s
def takeS (s : Mst) (j : Nat) (n : Nat) : Option Mst := match freeT s.fr n with
  | none => none
  | some k => some (shadeS ((s.setFr k false).setRt j k) k)
theorem take_bare {n : Nat} (h : 0 < n) : takeS bareS 0 n = some newS := by
  unfold takeS
  rw [free_some (k := 0) h rfl (fun j hj => by omega)]
  show some _ = _
  unfold shadeS
  rw [if_neg (fun q => by cases q.1)]
  congr 1
  unfold Mst.setRt Mst.setFr newS bareS
  have e1 : upN (fun _ : Nat => true) 0 false = fun i => decide (0 < i) := by
    funext i
    unfold upN
    by_cases e : i = 0
    · simp [e]
    · rw [if_neg e]; simp; omega
  have e2 : upN (fun _ : Nat => (-1 : Int)) 0 ((0 : Nat) : Int) = fun j => if j = 0 then 0 else -1 := by
    funext j
    unfold upN
    rfl
  simp only [e1, e2]
end Go.Proofs.Ytokaibpkajloeaa.math
