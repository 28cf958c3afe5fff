/-
  A cache at work in one world: what a call makes of it.
-/
import Derived.Test.YticgipmaflhplaaMagMath
import Derived.Test.YticgipmaflhplaaWorldMath
import Derived.Test.YticgipmaflhplaaCacheMath
namespace Go.Proofs.Yticgipmaflhplaa.math
open Go.Proofs.Yticgipmaflhplaa.deep
set_option linter.unusedVariables false

/-- State, how many ways, the ways (class and target, in a row), hits, looks. -/
structure Cst where
  s : Int
  l : Nat
  zs : List Int
  h : Int
  lk : Int
def clZ (zs : List Int) (i : Nat) : Int := zs.getD (i * 2) 0
def tgZ (zs : List Int) (i : Nat) : Int := zs.getD (i * 2 + 1) 0
/-- Whether a class is met, among the first so many. -/
def metB (zs : List Int) (k : Int) : Nat → Bool
  | 0 => false
  | i + 1 => metB zs k i || decide (clZ zs i = k)
theorem met_no {zs : List Int} {k : Int} : ∀ {l : Nat}, (∀ i, i < l → clZ zs i ≠ k) → metB zs k l = false
  | 0, _ => rfl
  | l + 1, h => by
    simp only [metB, met_no (l := l) (fun i hi => h i (by omega)), Bool.false_or]
    exact decide_eq_false (h l (by omega))
theorem met_yes {zs : List Int} {k : Int} {i : Nat} (h : clZ zs i = k) : ∀ {l : Nat}, i < l → metB zs k l = true
  | 0, q => by omega
  | l + 1, q => by
    simp only [metB]
    by_cases e : i = l
    · subst e; rw [decide_eq_true h]; simp
    · rw [met_yes h (l := l) (by omega)]; rfl
theorem met_out {zs : List Int} {k : Int} : ∀ {l : Nat}, metB zs k l = false → ∀ i, i < l → clZ zs i ≠ k
  | 0, _, i, hi => by omega
  | l + 1, q, i, hi => by
    simp only [metB, Bool.or_eq_false_iff] at q
    by_cases e : i = l
    · subst e; exact of_decide_eq_false q.2
    · exact met_out q.1 i (by omega)
/-- One call. -/
def callS (t k : Int) (c : Cst) : Cst :=
  if metB c.zs k c.l then { c with h := c.h + 1 }
  else if c.s = 3 then { c with lk := c.lk + 1 }
  else if c.l = 4 then ⟨3, 0, [], c.h, c.lk + 1⟩
  else ⟨if c.l = 0 then 1 else 2, c.l + 1, c.zs ++ [k, t], c.h, c.lk + 1⟩
theorem call_met {t k : Int} {c : Cst} (h : metB c.zs k c.l = true) : callS t k c = { c with h := c.h + 1 } := by unfold callS; rw [h]; rfl
theorem call_many {t k : Int} {c : Cst} (h : metB c.zs k c.l = false) (h3 : c.s = 3) : callS t k c = { c with lk := c.lk + 1 } := by unfold callS; rw [h, if_neg (by simp), if_pos h3]
theorem call_full {t k : Int} {c : Cst} (h : metB c.zs k c.l = false) (h3 : c.s ≠ 3) (h4 : c.l = 4) : callS t k c = ⟨3, 0, [], c.h, c.lk + 1⟩ := by unfold callS; rw [h, if_neg (by simp), if_neg h3, if_pos h4]
theorem call_new {t k : Int} {c : Cst} (h : metB c.zs k c.l = false) (h3 : c.s ≠ 3) (h4 : c.l ≠ 4) : callS t k c = ⟨if c.l = 0 then 1 else 2, c.l + 1, c.zs ++ [k, t], c.h, c.lk + 1⟩ := by unfold callS; rw [h, if_neg (by simp), if_neg h3, if_neg h4]
/-- What is remembered of a class that was not met. -/
def remS (t k : Int) (c : Cst) : Cst := if c.s = 3 then c else if c.l = 4 then ⟨3, 0, [], c.h, c.lk⟩ else ⟨if c.l = 0 then 1 else 2, c.l + 1, c.zs ++ [k, t], c.h, c.lk⟩
theorem call_rem {t k : Int} {c : Cst} (h : metB c.zs k c.l = false) : callS t k c = remS t k { c with lk := c.lk + 1 } := by
  unfold callS remS
  rw [h, if_neg (by simp)]
structure GoodC (cs : Nat → Dv) (n m : Nat) (c : Cst) : Prop where
  len : c.zs.length = c.l * 2
  st : stateB c.s c.l = true
  few : c.l ≤ 4
  way : ∀ i, i < c.l → (0 ≤ clZ c.zs i ∧ clZ c.zs i < (n : Int)) ∧ (1 ≤ tgZ c.zs i ∧ tgZ c.zs i ≤ 1000) ∧ findC cs (clZ c.zs i) m = tgZ c.zs i ∧ ∀ j, j < i → clZ c.zs j ≠ clZ c.zs i
theorem GoodC.new (cs : Nat → Dv) (n m : Nat) : GoodC cs n m ⟨0, 0, [], 0, 0⟩ := ⟨rfl, rfl, by decide, fun i hi => absurd hi (by show ¬ i < 0; omega)⟩
theorem getD_app {zs ys : List Int} {i : Nat} (h : i < zs.length) : (zs ++ ys).getD i 0 = zs.getD i 0 := by simp [List.getD, List.getElem?_append_left h]
theorem GoodC.step {cs : Nat → Dv} {n m : Nat} {c : Cst} {k t : Int} (g : GoodC cs n m c) (hk0 : 0 ≤ k) (hk1 : k < (n : Int)) (ht : findC cs k m = t) (h0 : 1 ≤ t) (h1 : t ≤ 1000) : GoodC cs n m (callS t k c) := by
  cases hm : metB c.zs k c.l
  rotate_left
  · rw [call_met hm]; exact ⟨g.len, g.st, g.few, g.way⟩
  by_cases h3 : c.s = 3
  · rw [call_many hm h3]; exact ⟨g.len, g.st, g.few, g.way⟩
  by_cases h4 : c.l = 4
  · rw [call_full hm h3 h4]; exact ⟨rfl, rfl, by show 0 ≤ 4; decide, fun i hi => absurd hi (by show ¬ i < 0; omega)⟩
  rw [call_new hm h3 h4]
  have hf := g.few
  have hl := g.len
  have old : ∀ i, i < c.l → clZ (c.zs ++ [k, t]) i = clZ c.zs i ∧ tgZ (c.zs ++ [k, t]) i = tgZ c.zs i := fun i hi => by
    unfold clZ tgZ
    rw [getD_app (by omega), getD_app (by omega)]
    exact ⟨rfl, rfl⟩
  have new : clZ (c.zs ++ [k, t]) c.l = k ∧ tgZ (c.zs ++ [k, t]) c.l = t := by
    unfold clZ tgZ
    constructor
    · simp [List.getD, hl]
    · simp [List.getD, hl]
  refine ⟨by simp [hl]; omega, ?_, by show c.l + 1 ≤ 4; omega, fun i hi => ?_⟩
  · show stateB (if c.l = 0 then 1 else 2) (c.l + 1) = true
    by_cases e : c.l = 0
    · rw [if_pos e, e]; rfl
    · rw [if_neg e]
      unfold stateB
      rw [if_neg (by omega), if_neg (by omega), inR_mk (by omega) (by omega)]; rfl
  · have hi : i < c.l + 1 := hi
    by_cases e : i = c.l
    · subst e
      show (0 ≤ clZ (c.zs ++ [k, t]) c.l ∧ _) ∧ _
      rw [new.1, new.2]
      refine ⟨⟨hk0, hk1⟩, ⟨h0, h1⟩, ht, fun j hj => ?_⟩
      rw [(old j hj).1]; exact met_out hm j hj
    · have q := g.way i (by omega)
      show (0 ≤ clZ (c.zs ++ [k, t]) i ∧ _) ∧ _
      rw [(old i (by omega)).1, (old i (by omega)).2]
      refine ⟨q.1, q.2.1, q.2.2.1, fun j hj => ?_⟩
      rw [(old j (by omega)).1]; exact q.2.2.2 j hj
theorem call_counts (t k : Int) (c : Cst) : (callS t k c).h + (callS t k c).lk = c.h + c.lk + 1 ∧ c.h ≤ (callS t k c).h ∧ c.lk ≤ (callS t k c).lk := by
  cases hm : metB c.zs k c.l
  rotate_left
  · rw [call_met hm]; exact ⟨by show c.h + 1 + c.lk = _; omega, by show c.h ≤ c.h + 1; omega, Int.le_refl _⟩
  by_cases h3 : c.s = 3
  · rw [call_many hm h3]; exact ⟨by show c.h + (c.lk + 1) = _; omega, Int.le_refl _, by show c.lk ≤ c.lk + 1; omega⟩
  by_cases h4 : c.l = 4
  · rw [call_full hm h3 h4]; exact ⟨by show c.h + (c.lk + 1) = _; omega, Int.le_refl _, by show c.lk ≤ c.lk + 1; omega⟩
  rw [call_new hm h3 h4]; exact ⟨by show c.h + (c.lk + 1) = _; omega, Int.le_refl _, by show c.lk ≤ c.lk + 1; omega⟩
/-- A class that has such a method. -/
def hasB (cs : Nat → Dv) (n m : Nat) (k : Int) : Bool := inR k 0 ((n : Int) - 1) && decide (0 < findC cs k m)
/-- The cache behind the first so many calls. -/
def playS (cs : Nat → Dv) (m : Nat) (ks : Nat → Int) : Nat → Cst
  | 0 => ⟨0, 0, [], 0, 0⟩
  | i + 1 => callS (findC cs (ks i) m) (ks i) (playS cs m ks i)
/-- Whether the first so many calls go. -/
def allB (cs : Nat → Dv) (n m : Nat) (ks : Nat → Int) : Nat → Bool
  | 0 => true
  | i + 1 => allB cs n m ks i && hasB cs n m (ks i)
theorem all_no {cs : Nat → Dv} {n m : Nat} {ks : Nat → Int} {i : Nat} (h : hasB cs n m (ks i) = false) : ∀ {l : Nat}, i < l → allB cs n m ks l = false
  | 0, q => by omega
  | l + 1, q => by
    simp only [allB]
    by_cases e : i = l
    · subst e; rw [h]; simp
    · rw [all_no h (l := l) (by omega)]; rfl
theorem has_out {cs : Nat → Dv} {n m : Nat} {k : Int} (hw : ∀ k, k < n → ClassOk cs k) (hm : m < 5) (h : hasB cs n m k = true) : (0 ≤ k ∧ k < (n : Int)) ∧ 1 ≤ findC cs k m ∧ findC cs k m ≤ 1000 := by
  unfold hasB at h
  simp only [Bool.and_eq_true] at h
  have q := inR_out h.1
  have r := of_decide_eq_true h.2
  have s := find_le hw hm (k.toNat + 2) k (by omega)
  have s2 : findC cs k m ≤ 1000 := s.2
  exact ⟨⟨q.1, by omega⟩, by omega, s2⟩
theorem play_good {cs : Nat → Dv} {n m : Nat} {ks : Nat → Int} (hw : ∀ k, k < n → ClassOk cs k) (hm : m < 5) : ∀ {l : Nat}, allB cs n m ks l = true → GoodC cs n m (playS cs m ks l) ∧ (playS cs m ks l).h + (playS cs m ks l).lk = (l : Int) ∧ 0 ≤ (playS cs m ks l).h ∧ 0 ≤ (playS cs m ks l).lk
  | 0, _ => ⟨GoodC.new cs n m, rfl, Int.le_refl _, Int.le_refl _⟩
  | l + 1, h => by
    simp only [allB, Bool.and_eq_true] at h
    obtain ⟨g, e, h0, l0⟩ := play_good hw hm h.1
    obtain ⟨⟨k0, k1⟩, t0, t1⟩ := has_out hw hm h.2
    obtain ⟨c1, c2, c3⟩ := call_counts (findC cs (ks l) m) (ks l) (playS cs m ks l)
    refine ⟨g.step k0 k1 rfl t0 t1, ?_, ?_, ?_⟩
    · show (callS _ _ _).h + (callS _ _ _).lk = _
      rw [c1, e]; omega
    · show 0 ≤ (callS _ _ _).h
      omega
    · show 0 ≤ (callS _ _ _).lk
      omega
/-- What PlayCalls tells. -/
def okP (cs : Nat → Dv) (n : Nat) (st nm : Int) (zs : List Int) : Bool := okN cs n st nm && decide (zs.length ≤ 100) && allB cs n nm.toNat (fun i => zs.getD i 0) zs.length
def goneTo (cs : Nat → Dv) (m : Nat) (zs : List Int) (i : Nat) : List Int := (List.range i).map (fun j => findC cs (zs.getD j 0) m)
theorem gone_succ (cs : Nat → Dv) (m : Nat) (zs : List Int) (i : Nat) : goneTo cs m zs (i + 1) = goneTo cs m zs i ++ [findC cs (zs.getD i 0) m] := by unfold goneTo; rw [List.range_succ, List.map_append]; rfl
theorem gone_len (cs : Nat → Dv) (m : Nat) (zs : List Int) (i : Nat) : (goneTo cs m zs i).length = i := by unfold goneTo; simp
def cP (cs : Nat → Dv) (n : Nat) (st nm : Int) (zs : List Int) : Cst := if okP cs n st nm zs then playS cs nm.toNat (fun i => zs.getD i 0) zs.length else ⟨0, 0, [], 0, 0⟩
def gP (cs : Nat → Dv) (n : Nat) (st nm : Int) (zs : List Int) : List Int := if okP cs n st nm zs then goneTo cs nm.toNat zs zs.length else []
def mP (cs : Nat → Dv) (n : Nat) (st nm : Int) (zs : List Int) : Int := if okP cs n st nm zs then nm else 0
def sP (cs : Nat → Dv) (n : Nat) (st nm : Int) (zs : List Int) : Int := if okP cs n st nm zs then st else 0
theorem play_no {cs : Nat → Dv} {n : Nat} {st nm : Int} {zs : List Int} (h : okP cs n st nm zs = false) : cP cs n st nm zs = ⟨0, 0, [], 0, 0⟩ ∧ gP cs n st nm zs = [] ∧ mP cs n st nm zs = 0 ∧ sP cs n st nm zs = 0 := by
  unfold cP gP mP sP; rw [h]; exact ⟨rfl, rfl, rfl, rfl⟩
theorem play_yes {cs : Nat → Dv} {n : Nat} {st nm : Int} {zs : List Int} (h : okP cs n st nm zs = true) : cP cs n st nm zs = playS cs nm.toNat (fun i => zs.getD i 0) zs.length ∧ gP cs n st nm zs = goneTo cs nm.toNat zs zs.length ∧ mP cs n st nm zs = nm ∧ sP cs n st nm zs = st := by
  unfold cP gP mP sP; rw [h]; exact ⟨rfl, rfl, rfl, rfl⟩
end Go.Proofs.Yticgipmaflhplaa.math
