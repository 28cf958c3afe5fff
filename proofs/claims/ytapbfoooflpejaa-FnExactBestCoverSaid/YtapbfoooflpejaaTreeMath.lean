/-
  Trees told as their kinds, each ahead of what it is of: where a tree ends, and that in a whole tree one begins at each place.
-/
import Derived.Test.YtapbfoooflpejaaInts
namespace Go.Proofs.Ytapbfoooflpejaa.math

/-- Of how many trees a kind is. -/
def arK (any : Bool) (k : Int) : Option Nat :=
  if k = 0 then (if any then some 0 else none) else if k = 1 ∨ k = 2 then some 0 else if k = 5 then some 1 else if k = 3 ∨ k = 4 then some 2 else none
/-- How many kinds the first n trees of a list have. -/
def skipL (any : Bool) : List Int → Nat → Option Nat
  | _, 0 => some 0
  | [], _ + 1 => none
  | k :: ts, n + 1 => match arK any k with
    | none => none
    | some m => (skipL any ts (n + m)).map (· + 1)
theorem skip_zero (any : Bool) (ts : List Int) : skipL any ts 0 = some 0 := by unfold skipL; rfl
theorem skip_nil (any : Bool) (n : Nat) : skipL any [] (n + 1) = none := rfl
theorem skip_cons (any : Bool) (k : Int) (ts : List Int) (n : Nat) : skipL any (k :: ts) (n + 1) = match arK any k with
    | none => none
    | some m => (skipL any ts (n + m)).map (· + 1) := rfl
theorem skip_cons_some {any : Bool} {k : Int} {ts : List Int} {n m : Nat} (h : arK any k = some m) : skipL any (k :: ts) (n + 1) = (skipL any ts (n + m)).map (· + 1) := by rw [skip_cons, h]
theorem skip_cons_none {any : Bool} {k : Int} {ts : List Int} {n : Nat} (h : arK any k = none) : skipL any (k :: ts) (n + 1) = none := by rw [skip_cons, h]
/-- n trees and m more. -/
theorem skip_add (any : Bool) : ∀ (ts : List Int) (n m : Nat), skipL any ts (n + m) = (skipL any ts n).bind fun e => (skipL any (ts.drop e) m).map (· + e) := by
  intro ts
  induction ts with
  | nil =>
    intro n m
    cases n with
    | zero => simp [skip_zero]
    | succ n => rw [show n + 1 + m = (n + m) + 1 by omega, skip_nil, skip_nil]; rfl
  | cons k ts ih =>
    intro n m
    cases n with
    | zero => simp [skip_zero]
    | succ n =>
      rw [show n + 1 + m = (n + m) + 1 by omega]
      cases hk : arK any k with
      | none => rw [skip_cons_none hk, skip_cons_none hk]; rfl
      | some a =>
        rw [skip_cons_some hk, skip_cons_some hk, show n + m + a = (n + a) + m by omega, ih]
        cases skipL any ts (n + a) with
        | none => rfl
        | some e =>
          simp only [Option.bind_some, Option.map_some, List.drop_succ_cons]
          cases skipL any (ts.drop e) m with
          | none => rfl
          | some e' => simp; omega
theorem skip_le (any : Bool) : ∀ (ts : List Int) (n e : Nat), skipL any ts n = some e → e ≤ ts.length ∧ n ≤ e := by
  intro ts
  induction ts with
  | nil =>
    intro n e h
    cases n with
    | zero => rw [skip_zero] at h; simp at h; subst h; simp
    | succ n => rw [skip_nil] at h; cases h
  | cons k ts ih =>
    intro n e h
    cases n with
    | zero => rw [skip_zero] at h; simp at h; subst h; simp
    | succ n =>
      cases hk : arK any k with
      | none => rw [skip_cons_none hk] at h; cases h
      | some a =>
        rw [skip_cons_some hk] at h
        cases hs : skipL any ts (n + a) with
        | none => rw [hs] at h; cases h
        | some e' =>
          rw [hs] at h
          simp at h
          subst h
          obtain ⟨h1, h2⟩ := ih _ _ hs
          simp
          omega
/-- Fewer trees are there if more are. -/
theorem skip_some_of {any : Bool} {ts : List Int} {n m : Nat} (h : n ≤ m) (hs : (skipL any ts m).isSome) : (skipL any ts n).isSome := by
  obtain ⟨d, rfl⟩ : ∃ d, m = n + d := ⟨m - n, by omega⟩
  rw [skip_add] at hs
  cases q : skipL any ts n with
  | none => rw [q] at hs; cases hs
  | some e => rfl
theorem skip_none_of {any : Bool} {ts : List Int} {n m : Nat} (h : n ≤ m) (hs : skipL any ts n = none) : skipL any ts m = none := by
  cases q : skipL any ts m with
  | none => rfl
  | some e => have := skip_some_of (any := any) (ts := ts) h (by rw [q]; rfl); rw [hs] at this; cases this
theorem drop_at {zs : List Int} {i : Nat} (h : i < zs.length) : zs.drop i = zs.getD i 0 :: zs.drop (i + 1) := by
  rw [List.drop_eq_getElem_cons h]
  simp [List.getD, List.getElem?_eq_getElem h]
/-- In a row of trees that is all of a list a tree begins at each place. -/
theorem tree_each (any : Bool) : ∀ (ts : List Int) (n : Nat), skipL any ts n = some ts.length → ∀ i, i < ts.length → (skipL any (ts.drop i) 1).isSome := by
  intro ts
  induction ts with
  | nil => intro n h i hi; simp at hi
  | cons k ts ih =>
    intro n h i hi
    cases n with
    | zero => rw [skip_zero] at h; simp at h
    | succ n =>
      cases i with
      | zero => exact skip_some_of (m := n + 1) (by omega) (by rw [List.drop_zero, h]; rfl)
      | succ i =>
        rw [List.drop_succ_cons]
        cases hk : arK any k with
        | none => rw [skip_cons_none hk] at h; cases h
        | some a =>
          rw [skip_cons_some hk] at h
          refine ih (n + a) ?_ i (by simp at hi; omega)
          cases hs : skipL any ts (n + a) with
          | none => rw [hs] at h; cases h
          | some e => rw [hs] at h; simp at h; rw [h]
/-- How many kinds the tree at a place has, 0 where none is. -/
def szT (any : Bool) (zs : List Int) (i : Nat) : Nat := (skipL any (zs.drop i) 1).getD 0
/-- Where the tree at a place ends, 0 where none is. -/
def endT (any : Bool) (zs : List Int) (i : Nat) : Nat := match skipL any (zs.drop i) 1 with
  | none => 0
  | some e => i + e
/-- The kinds are one tree. -/
def wholeB (any : Bool) (zs : List Int) : Bool := decide (0 < zs.length) && decide (skipL any zs 1 = some zs.length)
theorem whole_iff {any : Bool} {zs : List Int} : wholeB any zs = true ↔ 0 < zs.length ∧ skipL any zs 1 = some zs.length := by
  unfold wholeB; simp
theorem whole_each {any : Bool} {zs : List Int} (h : wholeB any zs = true) {i : Nat} (hi : i < zs.length) : skipL any (zs.drop i) 1 = some (szT any zs i) := by
  have := tree_each any zs 1 (whole_iff.1 h).2 i hi
  unfold szT
  cases q : skipL any (zs.drop i) 1 with
  | none => rw [q] at this; cases this
  | some e => rfl
theorem whole_no {any : Bool} {zs : List Int} {i : Nat} (hi : i < zs.length) (h : skipL any (zs.drop i) 1 = none) : wholeB any zs = false := by
  cases q : wholeB any zs with
  | false => rfl
  | true => have := whole_each q hi; rw [h] at this; cases this
theorem sz_le {any : Bool} {zs : List Int} {i : Nat} (h : skipL any (zs.drop i) 1 = some (szT any zs i)) (hi : i ≤ zs.length) : 1 ≤ szT any zs i ∧ i + szT any zs i ≤ zs.length := by
  obtain ⟨h1, h2⟩ := skip_le _ _ _ _ h
  simp at h1
  omega
theorem end_whole {any : Bool} {zs : List Int} (hl : 0 < zs.length) : (decide (endT any zs 0 = zs.length)) = wholeB any zs := by
  unfold endT wholeB
  rw [List.drop_zero]
  cases skipL any zs 1 with
  | none => simp; omega
  | some e => simp [hl]
/-- A good tree. -/
def treeB (zs : List Int) : Bool := decide (zs.length ≤ 40) && wholeB false zs
/-- A good pattern. -/
def patB (zs : List Int) (c : Int) : Bool := decide (zs.length ≤ 10) && (decide (1 ≤ c) && decide (c ≤ 100)) && wholeB true zs && !decide (zs.getD 0 0 = 0)
end Go.Proofs.Ytapbfoooflpejaa.math
