/-
  A world in which one method is set.
-/
import Derived.Test.YticgipmaflhplaaMagMath
import Derived.Test.YticgipmaflhplaaDeep
import Derived.Test.YticgipmaflhplaaDeepRow
import Derived.Test.YticgipmaflhplaaDeepC
import Derived.Test.YticgipmaflhplaaWorldMath
namespace Go.Proofs.Yticgipmaflhplaa.math
open Go.Proofs.Yticgipmaflhplaa.deep
set_option linter.unusedVariables false

def setC (cs : Nat → Dv) (k m : Nat) (t : Int) : Nat → Dv := updD cs (k * 2 + 1) (.l 5 1 (updD (fun i => (cs (k * 2 + 1)).at i) m (.n t)))
def okSet (cs : Nat → Dv) (n : Nat) (st k m t : Int) : Bool := worldB cs n st && inR k 0 ((n : Int) - 1) && inR m 0 4 && inR t 0 1000 && inR st 0 999999
theorem set_up (cs : Nat → Dv) (k m : Nat) (t : Int) (j : Nat) : upC (setC cs k m t) j = upC cs j := by
  unfold upC setC; rw [updD_other _ _ (by omega)]
theorem set_ml {cs : Nat → Dv} {k m : Nat} {t : Int} (hl : mlC cs k = 5) (j : Nat) : mlC (setC cs k m t) j = mlC cs j := by
  by_cases e : j = k
  · subst e; rw [hl]; unfold mlC setC; rw [updD_same]; rfl
  · unfold mlC setC; rw [updD_other _ _ (by omega)]
theorem set_mt_other {cs : Nat → Dv} {k m : Nat} {t : Int} {j : Nat} (e : j ≠ k) (i : Nat) : mtC (setC cs k m t) j i = mtC cs j i := by
  unfold mtC mtsC mlC setC; rw [updD_other _ _ (by omega)]
theorem set_mt_same {cs : Nat → Dv} {k m : Nat} {t : Int} (hl : mlC cs k = 5) {i : Nat} (hi : i < 5) : mtC (setC cs k m t) k i = if i = m then t else mtC cs k i := by
  have h1 : mtC (setC cs k m t) k i = (updD (fun i => (cs (k * 2 + 1)).at i) m (.n t) i).int := by
    unfold mtC mtsC mlC setC
    rw [updD_same]
    show (intsOf (fun i => updD (fun i => (cs (k * 2 + 1)).at i) m (.n t) i) 5).getD i 0 = _
    rw [intsOf_at _ hi]
  rw [h1]
  by_cases e : i = m
  · subst e; rw [updD_same, if_pos rfl]; rfl
  · rw [updD_other _ _ e, if_neg e]
    unfold mtC mtsC
    rw [intsOf_at _ (by rw [hl]; exact hi)]
/-- It is good if the target is, and the Stamp may go on. -/
theorem set_world {cs : Nat → Dv} {n k m : Nat} {st t : Int} (hw : worldB cs n st = true) (hk : k < n) (hm : m < 5) : worldB (setC cs k m t) n (st + 1) = (inR t 0 1000 && inR st 0 999999) := by
  obtain ⟨hn, hst, hok⟩ := world_out hw
  have hl := (hok k hk).2.1
  cases h1 : inR t 0 1000
  · refine world_bad hk (fun q => ?_)
    have q2 := q.2.2 m hm
    rw [set_mt_same hl hm, if_pos rfl] at q2
    rw [inR_mk q2.1 q2.2] at h1; cases h1
  obtain ⟨t0, t1⟩ := inR_out h1
  cases h2 : inR st 0 999999
  · refine decide_eq_false (fun q => ?_)
    have q2 := q.2.1
    rw [inR_mk hst.1 (by omega)] at h2; cases h2
  obtain ⟨s0, s1⟩ := inR_out h2
  refine decide_eq_true ⟨hn, ⟨by omega, by omega⟩, fun j hj => ?_⟩
  obtain ⟨u, l, q⟩ := hok j hj
  refine ⟨by rw [set_up]; exact u, by rw [set_ml hl]; exact l, fun i hi => ?_⟩
  by_cases e : j = k
  · subst e
    rw [set_mt_same hl hi]
    by_cases e2 : i = m
    · rw [if_pos e2]; exact ⟨t0, t1⟩
    · rw [if_neg e2]; exact q i hi
  · rw [set_mt_other e]; exact q i hi
theorem set_fits {cs : Nat → Dv} {n k m : Nat} {t : Int} (hf : Fits shClassS (.l n 2 cs)) (hk : k < n) (hl : mlC cs k = 5) : Fits shClassS (.l n 2 (setC cs k m t)) := by
  obtain ⟨m', es, he, hes⟩ := (hf.cell hk (c := 1) (by decide)).list
  have he : cs (k * 2 + 1) = .l m' 1 es := he
  refine ⟨rfl, fun i hi => ?_⟩
  by_cases e : i = k * 2 + 1
  · subst e
    unfold setC
    rw [updD_same, show (k * 2 + 1) % 2 = 1 by omega]
    refine ⟨rfl, fun j hj => ?_⟩
    have hm' : m' = 5 := by unfold mlC at hl; rw [he] at hl; exact hl
    subst hm'
    by_cases e2 : j = m
    · subst e2; rw [updD_same]; exact trivial
    · rw [updD_other _ _ e2, he]; exact hes j hj
  · unfold setC; rw [updD_other _ _ e]; exact hf.2 i hi
/-- A good world is small. -/
theorem world_size {cs : Nat → Dv} {n : Nat} (hf : Fits shClassS (.l n 2 cs)) (hn : n ≤ 8) (hl : ∀ k, k < n → mlC cs k = 5) : szD (.l n 2 cs) ≤ 1000 := by
  have h : ∀ i, i < n * 2 → szD (cs i) ≤ 5 := fun i hi => by
    by_cases e : i % 2 = 0
    · obtain ⟨x, hx⟩ := (hf.cell (k := i / 2) (by omega) (c := 0) (by decide)).int
      have hx : cs (i / 2 * 2) = .n x := hx
      rw [show i / 2 * 2 = i by omega] at hx
      rw [hx]; exact Nat.zero_le _
    · obtain ⟨m, es, he, hes⟩ := (hf.cell (k := i / 2) (by omega) (c := 1) (by decide)).list
      have he : cs (i / 2 * 2 + 1) = .l m 1 es := he
      have hm := hl (i / 2) (by omega)
      unfold mlC at hm
      rw [he] at hm
      have hm : m = 5 := hm
      subst hm
      rw [show i / 2 * 2 + 1 = i by omega] at he
      rw [he]
      show 5 + sumTo _ _ ≤ 5
      rw [sz_flat _ (fun j hj => (hes j hj).int)]
      omega
  have q := sumTo_le (f := fun i => szD (cs i)) (g := fun _ => 5) (n * 2) h
  rw [sumTo_const] at q
  show n + sumTo _ _ ≤ 1000
  omega
end Go.Proofs.Yticgipmaflhplaa.math
