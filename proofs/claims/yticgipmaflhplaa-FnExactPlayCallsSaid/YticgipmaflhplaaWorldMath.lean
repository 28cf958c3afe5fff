/-
  Worlds of classes as deep data: when they are good, where a method is found.
-/
import Derived.Test.YticgipmaflhplaaMagMath
import Derived.Test.YticgipmaflhplaaDeep
import Derived.Test.YticgipmaflhplaaDeepRow
namespace Go.Proofs.Yticgipmaflhplaa.math
open Go.Proofs.Yticgipmaflhplaa.deep
set_option linter.unusedVariables false

/-- The k-th class: the one above it, its methods. -/
def upC (cs : Nat → Dv) (k : Nat) : Int := (cs (k * 2)).int
def mlC (cs : Nat → Dv) (k : Nat) : Nat := (cs (k * 2 + 1)).len
def mtsC (cs : Nat → Dv) (k : Nat) : List Int := intsOf (fun i => (cs (k * 2 + 1)).at i) (mlC cs k)
def mtC (cs : Nat → Dv) (k m : Nat) : Int := (mtsC cs k).getD m 0
theorem mts_len (cs : Nat → Dv) (k : Nat) : (mtsC cs k).length = mlC cs k := intsOf_len _ _
def ClassOk (cs : Nat → Dv) (k : Nat) : Prop := (-1 ≤ upC cs k ∧ upC cs k < (k : Int)) ∧ mlC cs k = 5 ∧ ∀ m, m < 5 → 0 ≤ mtC cs k m ∧ mtC cs k m ≤ 1000
instance (cs : Nat → Dv) (k : Nat) : Decidable (ClassOk cs k) := by unfold ClassOk; exact inferInstance
def worldB (cs : Nat → Dv) (n : Nat) (st : Int) : Bool := decide ((1 ≤ n ∧ n ≤ 8) ∧ (0 ≤ st ∧ st ≤ 1000000) ∧ ∀ k, k < n → ClassOk cs k)
theorem world_bad {cs : Nat → Dv} {n k : Nat} {st : Int} (hk : k < n) (h : ¬ ClassOk cs k) : worldB cs n st = false := decide_eq_false (fun q => h (q.2.2 k hk))
theorem world_n {cs : Nat → Dv} {n : Nat} {st : Int} (h : inR (n : Int) 1 8 = false) : worldB cs n st = false := decide_eq_false (fun q => by rw [inR_mk (by omega) (by omega)] at h; cases h)
theorem world_st {cs : Nat → Dv} {n : Nat} {st : Int} (h : inR st 0 1000000 = false) : worldB cs n st = false := decide_eq_false (fun q => by rw [inR_mk q.2.1.1 q.2.1.2] at h; cases h)
theorem world_yes {cs : Nat → Dv} {n : Nat} {st : Int} (h : inR (n : Int) 1 8 = true) (h2 : inR st 0 1000000 = true) (h3 : ∀ k, k < n → ClassOk cs k) : worldB cs n st = true := by
  have q := inR_out h
  exact decide_eq_true ⟨⟨by omega, by omega⟩, inR_out h2, h3⟩
theorem world_out {cs : Nat → Dv} {n : Nat} {st : Int} (h : worldB cs n st = true) : (1 ≤ n ∧ n ≤ 8) ∧ (0 ≤ st ∧ st ≤ 1000000) ∧ ∀ k, k < n → ClassOk cs k := of_decide_eq_true h
/-- The target of the nearest class from k upwards, in at most so many steps; 0 for none. -/
def findF (cs : Nat → Dv) (m : Nat) : Nat → Int → Int
  | 0, _ => 0
  | f + 1, k => if k < 0 then 0 else if 0 < mtC cs k.toNat m then mtC cs k.toNat m else findF cs m f (upC cs k.toNat)
theorem findF_succ (cs : Nat → Dv) (m f : Nat) (k : Int) : findF cs m (f + 1) k = if k < 0 then 0 else if 0 < mtC cs k.toNat m then mtC cs k.toNat m else findF cs m f (upC cs k.toNat) := rfl
/-- .. in as many as there may be. -/
def findC (cs : Nat → Dv) (k : Int) (m : Nat) : Int := findF cs m (k.toNat + 2) k
theorem findF_more {cs : Nat → Dv} {n m : Nat} (h : ∀ k, k < n → ClassOk cs k) : ∀ (f g : Nat) (k : Int), k < (n : Int) → k.toNat + 1 < f → k.toNat + 1 < g → findF cs m f k = findF cs m g k
  | 0, g, k, _, h1, _ => by omega
  | f + 1, 0, k, _, _, h2 => by omega
  | f + 1, g + 1, k, hk, h1, h2 => by
    simp only [findF]
    by_cases q : k < 0
    · rw [if_pos q, if_pos q]
    rw [if_neg q, if_neg q]
    by_cases q2 : 0 < mtC cs k.toNat m
    · rw [if_pos q2, if_pos q2]
    rw [if_neg q2, if_neg q2]
    have hc := (h k.toNat (by omega)).1
    by_cases q3 : upC cs k.toNat < 0
    · obtain ⟨f', rfl⟩ : ∃ f', f = f' + 1 := ⟨f - 1, by omega⟩
      obtain ⟨g', rfl⟩ : ∃ g', g = g' + 1 := ⟨g - 1, by omega⟩
      simp only [findF, if_pos q3]
    · exact findF_more h f g _ (by omega) (by omega) (by omega)
theorem find_neg {cs : Nat → Dv} {k : Int} {m : Nat} (h : k < 0) : findC cs k m = 0 := by unfold findC; simp only [findF, if_pos h]
theorem find_own {cs : Nat → Dv} {k : Nat} {m : Nat} (h : 0 < mtC cs k m) : findC cs (k : Int) m = mtC cs k m := by
  unfold findC
  simp only [findF, Int.toNat_natCast, if_neg (show ¬ ((k : Nat) : Int) < 0 by omega), if_pos h]
theorem find_up {cs : Nat → Dv} {n k : Nat} {m : Nat} (hk : k < n) (h : ∀ k, k < n → ClassOk cs k) (h2 : ¬ 0 < mtC cs k m) : findC cs (k : Int) m = findC cs (upC cs k) m := by
  have hc := (h k hk).1
  unfold findC
  rw [show ((k : Nat) : Int).toNat + 2 = (k + 1) + 1 by simp, findF_succ, if_neg (show ¬ ((k : Nat) : Int) < 0 by omega), Int.toNat_natCast, if_neg h2]
  by_cases q : upC cs k < 0
  · rw [show (upC cs k).toNat + 2 = (upC cs k).toNat + 1 + 1 by omega, findF_succ, findF_succ, if_pos q, if_pos q]
  · exact findF_more h _ _ _ (by omega) (by omega) (by omega)
theorem find_le {cs : Nat → Dv} {n m : Nat} (h : ∀ k, k < n → ClassOk cs k) (hm : m < 5) : ∀ (f : Nat) (k : Int), k < (n : Int) → 0 ≤ findF cs m f k ∧ findF cs m f k ≤ 1000
  | 0, k, _ => by simp [findF]
  | f + 1, k, hk => by
    simp only [findF]
    by_cases q : k < 0
    · rw [if_pos q]; omega
    rw [if_neg q]
    have hc := h k.toNat (by omega)
    by_cases q2 : 0 < mtC cs k.toNat m
    · rw [if_pos q2]; exact hc.2.2 m hm
    · rw [if_neg q2]; exact find_le h hm f _ (by have := hc.1; omega)
/-- What FindMethod tells. -/
def okF (cs : Nat → Dv) (n : Nat) (st k m : Int) : Bool := worldB cs n st && inR k 0 ((n : Int) - 1) && inR m 0 4
def findV (cs : Nat → Dv) (n : Nat) (st k m : Int) : Int := if okF cs n st k m then findC cs k m.toNat else 0
def findB (cs : Nat → Dv) (n : Nat) (st k m : Int) : Bool := decide (0 < findV cs n st k m)
/-- Whether b is a, or above it, in at most so many steps. -/
def subF (cs : Nat → Dv) (b : Int) : Nat → Int → Bool
  | 0, _ => false
  | f + 1, a => if a = b then true else if a < 0 then false else subF cs b f (upC cs a.toNat)
theorem subF_succ (cs : Nat → Dv) (b : Int) (f : Nat) (a : Int) : subF cs b (f + 1) a = if a = b then true else if a < 0 then false else subF cs b f (upC cs a.toNat) := rfl
def subC (cs : Nat → Dv) (a b : Int) : Bool := subF cs b (a.toNat + 2) a
theorem subF_low {cs : Nat → Dv} {n : Nat} {b : Int} (h : ∀ k, k < n → ClassOk cs k) : ∀ (f : Nat) (a : Int), a < (n : Int) → a < b → subF cs b f a = false
  | 0, a, _, _ => rfl
  | f + 1, a, hn, hb => by
    rw [subF_succ, if_neg (by omega)]
    by_cases q : a < 0
    · rw [if_pos q]
    · rw [if_neg q]
      have hc := (h a.toNat (by omega)).1
      exact subF_low h f _ (by omega) (by omega)
theorem subF_more {cs : Nat → Dv} {n : Nat} {b : Int} (h : ∀ k, k < n → ClassOk cs k) : ∀ (f g : Nat) (a : Int), a < (n : Int) → a.toNat + 1 < f → a.toNat + 1 < g → subF cs b f a = subF cs b g a
  | 0, g, k, _, h1, _ => by omega
  | f + 1, 0, k, _, _, h2 => by omega
  | f + 1, g + 1, a, hk, h1, h2 => by
    rw [subF_succ, subF_succ]
    by_cases q : a = b
    · rw [if_pos q, if_pos q]
    rw [if_neg q, if_neg q]
    by_cases q2 : a < 0
    · rw [if_pos q2, if_pos q2]
    rw [if_neg q2, if_neg q2]
    have hc := (h a.toNat (by omega)).1
    by_cases q3 : upC cs a.toNat < 0
    · obtain ⟨f', rfl⟩ : ∃ f', f = f' + 1 := ⟨f - 1, by omega⟩
      obtain ⟨g', rfl⟩ : ∃ g', g = g' + 1 := ⟨g - 1, by omega⟩
      rw [subF_succ, subF_succ]
      by_cases r : upC cs a.toNat = b
      · rw [if_pos r, if_pos r]
      · rw [if_neg r, if_neg r, if_pos q3, if_pos q3]
    · exact subF_more h f g _ (by omega) (by omega) (by omega)
theorem sub_same (cs : Nat → Dv) (a : Int) : subC cs a a = true := by unfold subC; rw [subF_succ, if_pos rfl]
theorem sub_low {cs : Nat → Dv} {n : Nat} {a b : Int} (h : ∀ k, k < n → ClassOk cs k) (hn : a < (n : Int)) (hb : a < b) : subC cs a b = false := subF_low h _ a hn hb
theorem sub_up {cs : Nat → Dv} {n k : Nat} {b : Int} (h : ∀ k, k < n → ClassOk cs k) (hk : k < n) (hb : (k : Int) ≠ b) : subC cs (k : Int) b = subC cs (upC cs k) b := by
  have hc := (h k hk).1
  unfold subC
  rw [show ((k : Nat) : Int).toNat + 2 = (k + 1) + 1 by simp, subF_succ, if_neg hb, if_neg (by omega), Int.toNat_natCast]
  by_cases q : upC cs k < 0
  · rw [show (upC cs k).toNat + 2 = (upC cs k).toNat + 1 + 1 by omega, subF_succ, subF_succ, if_pos q, if_pos q]
  · exact subF_more h _ _ _ (by omega) (by omega) (by omega)
/-- What SubclassOf tells. -/
def okS (cs : Nat → Dv) (n : Nat) (st a b : Int) : Bool := worldB cs n st && inR a 0 ((n : Int) - 1) && inR b 0 ((n : Int) - 1)
def subV (cs : Nat → Dv) (n : Nat) (st a b : Int) : Bool := okS cs n st a b && subC cs a b
/-- What NewCache tells. -/
def okN (cs : Nat → Dv) (n : Nat) (st m : Int) : Bool := worldB cs n st && inR m 0 4
def nameN (cs : Nat → Dv) (n : Nat) (st m : Int) : Int := if okN cs n st m then m else 0
def stampN (cs : Nat → Dv) (n : Nat) (st m : Int) : Int := if okN cs n st m then st else 0
theorem newN_no {cs : Nat → Dv} {n : Nat} {st m : Int} (h : okN cs n st m = false) : nameN cs n st m = 0 ∧ stampN cs n st m = 0 := by
  unfold nameN stampN; rw [h]; exact ⟨rfl, rfl⟩
theorem newN_yes {cs : Nat → Dv} {n : Nat} {st m : Int} (h : okN cs n st m = true) : nameN cs n st m = m ∧ stampN cs n st m = st := by
  unfold nameN stampN; rw [h]; exact ⟨rfl, rfl⟩
end Go.Proofs.Yticgipmaflhplaa.math
