/-
  The table of a lookup: for each class and name a function that tells the target, or none.
-/
import Derived.Test.YticgipmaflhplaaMagMath
import Derived.Test.YticgipmaflhplaaDeep
import Derived.Test.YticgipmaflhplaaDeepRow
import Derived.Test.YticgipmaflhplaaWorldMath
import Derived.Laws.Sem
namespace Go.Proofs.Yticgipmaflhplaa.math
open Go.Proofs.Yticgipmaflhplaa.deep
set_option linter.unusedVariables false

def fnV (x : Int) : Value := if x = 0 then .nilFunc else .func (.func 75) #[.int .i64 x] #[]
theorem fnV_zero : fnV 0 = .nilFunc := rfl
theorem fnV_pos {x : Int} (h : 0 < x) : fnV x = .func (.func 75) #[.int .i64 x] #[] := if_neg (by omega)
theorem fnV_one (x : Int) : (fnV x).oneCell' = true := by unfold fnV; split <;> rfl
/-- The 45 cells of a lookup. -/
def lookC (v0 v1 v2 v3 v4 : Value) (T : Nat → Value) (i : Nat) : Value := if i = 0 then v0 else if i = 1 then v1 else if i = 2 then v2 else if i = 3 then v3 else if i = 4 then v4 else T (i - 5)
theorem look_tab {v0 v1 v2 v3 v4 : Value} {T : Nat → Value} (i : Nat) : lookC v0 v1 v2 v3 v4 T (5 + i) = T i := by
  unfold lookC
  rw [if_neg (by omega), if_neg (by omega), if_neg (by omega), if_neg (by omega), if_neg (by omega)]
  congr 1; omega
theorem look_set {v0 v1 v2 v3 v4 u : Value} {T : Nat → Value} {q : Nat} (i : Nat) : (if i = 5 + q then u else lookC v0 v1 v2 v3 v4 T i) = lookC v0 v1 v2 v3 v4 (fun j => if j = q then u else T j) i := by
  unfold lookC
  by_cases h : i = 5 + q
  · subst h
    rw [if_pos rfl, if_neg (by omega), if_neg (by omega), if_neg (by omega), if_neg (by omega), if_neg (by omega)]
    show u = if 5 + q - 5 = q then u else T (5 + q - 5)
    rw [if_pos (by omega)]
  · rw [if_neg h]
    by_cases h0 : i = 0
    · rw [if_pos h0, if_pos h0]
    rw [if_neg h0, if_neg h0]
    by_cases h1 : i = 1
    · rw [if_pos h1, if_pos h1]
    rw [if_neg h1, if_neg h1]
    by_cases h2 : i = 2
    · rw [if_pos h2, if_pos h2]
    rw [if_neg h2, if_neg h2]
    by_cases h3 : i = 3
    · rw [if_pos h3, if_pos h3]
    rw [if_neg h3, if_neg h3]
    by_cases h4 : i = 4
    · rw [if_pos h4, if_pos h4]
    rw [if_neg h4, if_neg h4]
    show T (i - 5) = if i - 5 = q then u else T (i - 5)
    rw [if_neg (by omega)]
theorem look_v2 {v0 v1 v2 v3 v4 u : Value} {T : Nat → Value} (i : Nat) : (if i = 2 then u else lookC v0 v1 v2 v3 v4 T i) = lookC v0 v1 u v3 v4 T i := by
  unfold lookC
  by_cases h : i = 2
  · subst h; rfl
  · rw [if_neg h, if_neg h, if_neg h]
theorem look_v3 {v0 v1 v2 v3 v4 u : Value} {T : Nat → Value} (i : Nat) : (if i = 3 then u else lookC v0 v1 v2 v3 v4 T i) = lookC v0 v1 v2 u v4 T i := by
  unfold lookC
  by_cases h : i = 3
  · subst h; rfl
  · rw [if_neg h, if_neg h, if_neg h]
/-- The table when the classes below k are done, and of k itself the names below j, over the row of the one above it. -/
def midT (cs : Nat → Dv) (k j i : Nat) : Value := if i / 5 < k then fnV (findC cs ((i / 5 : Nat) : Int) (i % 5)) else if i / 5 = k then fnV (if i % 5 < j then findC cs ((k : Nat) : Int) (i % 5) else findC cs (upC cs k) (i % 5)) else .nilFunc
def tabT (cs : Nat → Dv) (k i : Nat) : Value := if i / 5 < k then fnV (findC cs ((i / 5 : Nat) : Int) (i % 5)) else .nilFunc
theorem tab_at {cs : Nat → Dv} {n k m : Nat} (hk : k < n) (hm : m < 5) : tabT cs n (k * 5 + m) = fnV (findC cs (k : Int) m) := by
  unfold tabT
  rw [show (k * 5 + m) / 5 = k by omega, show (k * 5 + m) % 5 = m by omega, if_pos hk]
theorem tab_one (cs : Nat → Dv) (k i : Nat) : (tabT cs k i).oneCell' = true := by unfold tabT; split; exact fnV_one _; rfl
theorem tab_none {cs : Nat → Dv} (i : Nat) : tabT cs 0 i = .nilFunc := if_neg (by omega)
theorem mid_last {cs : Nat → Dv} {k : Nat} (i : Nat) : midT cs k 5 i = tabT cs (k + 1) i := by
  unfold midT tabT
  by_cases h : i / 5 < k
  · rw [if_pos h, if_pos (by omega)]
  rw [if_neg h]
  by_cases h2 : i / 5 = k
  · rw [if_pos h2, if_pos (by omega), if_pos (by omega), h2]
  · rw [if_neg h2, if_neg (by omega)]
theorem mid_first {cs : Nat → Dv} {k : Nat} (h : upC cs k = -1) (i : Nat) : tabT cs k i = midT cs k 0 i := by
  unfold midT tabT
  by_cases h1 : i / 5 < k
  · rw [if_pos h1, if_pos h1]
  rw [if_neg h1, if_neg h1]
  by_cases h2 : i / 5 = k
  · rw [if_pos h2, if_neg (by omega), h, find_neg (by omega)]; rfl
  · rw [if_neg h2]
/-- The row of the one above it, copied. -/
theorem mid_copy {cs : Nat → Dv} {k p : Nat} (h : upC cs k = (p : Int)) (hp : p < k) (i : Nat) : (if i = k * 5 + 4 then tabT cs k (p * 5 + 4) else if i = k * 5 + 3 then tabT cs k (p * 5 + 3) else if i = k * 5 + 2 then tabT cs k (p * 5 + 2) else if i = k * 5 + 1 then tabT cs k (p * 5 + 1) else if i = k * 5 then tabT cs k (p * 5) else tabT cs k i) = midT cs k 0 i := by
  have t0 : ∀ m, m < 5 → midT cs k 0 (k * 5 + m) = fnV (findC cs (p : Int) m) := fun m hm => by
    unfold midT
    rw [show (k * 5 + m) / 5 = k by omega, show (k * 5 + m) % 5 = m by omega, if_neg (by omega), if_pos rfl, if_neg (by omega), h]
  by_cases h4 : i = k * 5 + 4
  · rw [if_pos h4, h4, t0 4 (by omega), tab_at hp (by omega)]
  rw [if_neg h4]
  by_cases h3 : i = k * 5 + 3
  · rw [if_pos h3, h3, t0 3 (by omega), tab_at hp (by omega)]
  rw [if_neg h3]
  by_cases h2 : i = k * 5 + 2
  · rw [if_pos h2, h2, t0 2 (by omega), tab_at hp (by omega)]
  rw [if_neg h2]
  by_cases h1 : i = k * 5 + 1
  · rw [if_pos h1, h1, t0 1 (by omega), tab_at hp (by omega)]
  rw [if_neg h1]
  by_cases h0 : i = k * 5
  · rw [if_pos h0, h0]
    have q := t0 0 (by omega)
    have r := tab_at (cs := cs) hp (m := 0) (by omega)
    rw [Nat.add_zero] at q r
    rw [q, r]
  rw [if_neg h0]
  unfold tabT midT
  by_cases q : i / 5 < k
  · rw [if_pos q, if_pos q]
  · rw [if_neg q, if_neg q, if_neg (by omega)]
/-- A name that the class has itself. -/
theorem mid_own {cs : Nat → Dv} {k j : Nat} (hj : j < 5) (h : 0 < mtC cs k j) (i : Nat) : (if i = k * 5 + j then fnV (mtC cs k j) else midT cs k j i) = midT cs k (j + 1) i := by
  by_cases e : i = k * 5 + j
  · rw [if_pos e, e]
    unfold midT
    rw [show (k * 5 + j) / 5 = k by omega, show (k * 5 + j) % 5 = j by omega, if_neg (by omega), if_pos rfl, if_pos (by omega), find_own h]
  · rw [if_neg e]
    unfold midT
    by_cases h1 : i / 5 < k
    · rw [if_pos h1, if_pos h1]
    rw [if_neg h1, if_neg h1]
    by_cases h2 : i / 5 = k
    · rw [if_pos h2, if_pos h2]
      by_cases h3 : i % 5 < j
      · rw [if_pos h3, if_pos (by omega)]
      · rw [if_neg h3, if_neg (by omega)]
    · rw [if_neg h2, if_neg h2]
/-- .. and one that it has not. -/
theorem mid_not {cs : Nat → Dv} {n k j : Nat} (hk : k < n) (hok : ∀ k, k < n → ClassOk cs k) (h : ¬ 0 < mtC cs k j) (i : Nat) : midT cs k j i = midT cs k (j + 1) i := by
  unfold midT
  by_cases h1 : i / 5 < k
  · rw [if_pos h1, if_pos h1]
  rw [if_neg h1, if_neg h1]
  by_cases h2 : i / 5 = k
  · rw [if_pos h2, if_pos h2]
    by_cases h3 : i % 5 < j
    · rw [if_pos h3, if_pos (by omega)]
    · by_cases h4 : i % 5 = j
      · rw [if_neg h3, if_pos (by omega), h4, find_up hk hok h]
      · rw [if_neg h3, if_neg (by omega)]
  · rw [if_neg h2, if_neg h2]
end Go.Proofs.Yticgipmaflhplaa.math
