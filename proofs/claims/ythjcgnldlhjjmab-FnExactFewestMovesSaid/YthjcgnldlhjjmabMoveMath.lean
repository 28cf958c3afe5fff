/-
  Plain facts on moves: good ones, whence each place gets its word, moves at once and moves in turn: no Go program in sight.
-/
import Derived.Test.YthjcgnldlhjjmabMagMath
namespace Go.Proofs.Ythjcgnldlhjjmab.math
open Go

/-- Whence and where the k-th move of a flat list leads. -/
def frM (z : List Int) (k : Nat) : Int := z.getD (k * 2) 0
def toM (z : List Int) (k : Nat) : Int := z.getD (k * 2 + 1) 0
/-- The first n moves lead from places to places, no two to one. -/
def GoodM (z : List Int) (n : Nat) : Prop := ∀ k, k < n → inR (frM z k) 0 9 = true ∧ inR (toM z k) 0 9 = true ∧ ∀ j, j < k → toM z j ≠ toM z k
def movesB (z : List Int) (n : Nat) : Bool := decide (n ≤ 10 ∧ ∀ k, k < n → inR (frM z k) 0 9 = true ∧ inR (toM z k) 0 9 = true ∧ ∀ j, j < k → toM z j ≠ toM z k)
theorem moves_out {z : List Int} {n : Nat} (h : movesB z n = true) : n ≤ 10 ∧ GoodM z n := by
  have q := of_decide_eq_true h
  exact q
theorem moves_mk {z : List Int} {n : Nat} (h : n ≤ 10) (g : GoodM z n) : movesB z n = true := by
  unfold movesB
  rw [decide_eq_true_iff]
  exact ⟨h, g⟩
theorem moves_long {z : List Int} {n : Nat} (h : 10 < n) : movesB z n = false := decide_eq_false (fun ⟨k, _⟩ => by omega)
theorem moves_fr {z : List Int} {n k : Nat} (hk : k < n) (h : inR (frM z k) 0 9 = false) : movesB z n = false := decide_eq_false (fun ⟨_, g⟩ => by have := (g k hk).1; rw [h] at this; cases this)
theorem moves_to {z : List Int} {n k : Nat} (hk : k < n) (h : inR (toM z k) 0 9 = false) : movesB z n = false := decide_eq_false (fun ⟨_, g⟩ => by have := (g k hk).2.1; rw [h] at this; cases this)
theorem moves_two {z : List Int} {n j k : Nat} (hj : j < k) (hk : k < n) (h : toM z j = toM z k) : movesB z n = false := decide_eq_false (fun ⟨_, g⟩ => (g k hk).2.2 j hj h)
theorem good_step {z : List Int} {n : Nat} (h : GoodM z n) (a : inR (frM z n) 0 9 = true) (b : inR (toM z n) 0 9 = true) (c : ∀ j, j < n → toM z j ≠ toM z n) : GoodM z (n + 1) := by
  intro k hk
  by_cases e : k = n
  · subst e; exact ⟨a, b, c⟩
  · exact h k (by omega)
theorem good_less {z : List Int} {m n : Nat} (h : GoodM z n) (hm : m ≤ n) : GoodM z m := fun k hk => h k (by omega)
/-- Whence each place gets its word, behind the first n moves: from itself where none leads to it. -/
def srcTo (z : List Int) : Nat → Int → Int
  | 0, p => p
  | n + 1, p => if p = toM z n then frM z n else srcTo z n p
theorem src_none {z : List Int} {p : Int} : ∀ {n : Nat}, (∀ j, j < n → toM z j ≠ p) → srcTo z n p = p
  | 0, _ => rfl
  | n + 1, h => by
    show (if p = toM z n then frM z n else srcTo z n p) = p
    rw [if_neg (fun e => h n (by omega) e.symm)]
    exact src_none (fun j hj => h j (by omega))
theorem src_of {z : List Int} {p : Int} : ∀ {n : Nat} (k : Nat), GoodM z n → k < n → toM z k = p → srcTo z n p = frM z k
  | 0, k, _, hk, _ => by omega
  | n + 1, k, g, hk, e => by
    show (if p = toM z n then frM z n else srcTo z n p) = frM z k
    by_cases q : k = n
    · subst q; rw [if_pos e.symm]
    · rw [if_neg (fun r => (g n (by omega)).2.2 k (by omega) (e.trans r))]
      exact src_of k (good_less g (by omega)) (by omega) e
theorem src_bd {z : List Int} {p : Int} : ∀ {n : Nat}, GoodM z n → 0 ≤ p → p ≤ 9 → 0 ≤ srcTo z n p ∧ srcTo z n p ≤ 9
  | 0, _, h0, h1 => ⟨h0, h1⟩
  | n + 1, g, h0, h1 => by
    show 0 ≤ (if p = toM z n then frM z n else srcTo z n p) ∧ (if p = toM z n then frM z n else srcTo z n p) ≤ 9
    have := inR_out (g n (by omega)).1
    split
    · exact this
    · exact src_bd (good_less g (by omega)) h0 h1
/-- Whether one of the first n moves leads to a place. -/
def takTo (z : List Int) : Nat → Int → Bool
  | 0, _ => false
  | n + 1, p => if p = toM z n then true else takTo z n p
theorem tak_yes {z : List Int} {p : Int} : ∀ {n : Nat}, takTo z n p = true → ∃ j, j < n ∧ toM z j = p
  | 0, h => by cases h
  | n + 1, h => by
    by_cases e : p = toM z n
    · exact ⟨n, by omega, e.symm⟩
    · have h' : (if p = toM z n then true else takTo z n p) = true := h
      rw [if_neg e] at h'
      obtain ⟨j, hj, q⟩ := tak_yes h'
      exact ⟨j, by omega, q⟩
theorem tak_no {z : List Int} {p : Int} : ∀ {n : Nat}, takTo z n p = false → ∀ j, j < n → toM z j ≠ p
  | 0, _, j, hj => by omega
  | n + 1, h, j, hj => by
    have h' : (if p = toM z n then true else takTo z n p) = false := h
    by_cases e : p = toM z n
    · rw [if_pos e] at h'; cases h'
    · rw [if_neg e] at h'
      by_cases q : j = n
      · subst q; exact fun r => e r.symm
      · exact tak_no h' j (by omega)
/-- A list of n words. -/
def wordsN (n : Nat) (ws : List Int) : Bool := decide (ws.length = n ∧ ∀ i, i < ws.length → inR (ws.getD i 0) 0 65535 = true)
theorem wordsN_out {n : Nat} {ws : List Int} (h : wordsN n ws = true) : ws.length = n ∧ ∀ i, i < ws.length → inR (ws.getD i 0) 0 65535 = true := of_decide_eq_true h
theorem wordsN_mk {n : Nat} {ws : List Int} (h : ws.length = n) (g : ∀ i, i < ws.length → inR (ws.getD i 0) 0 65535 = true) : wordsN n ws = true := decide_eq_true ⟨h, g⟩
theorem wordsN_no {n : Nat} {ws : List Int} (h : ws.length ≠ n) : wordsN n ws = false := decide_eq_false (fun ⟨k, _⟩ => h k)
theorem wordsN_bad {n : Nat} {ws : List Int} {i : Nat} (hi : i < ws.length) (h : inR (ws.getD i 0) 0 65535 = false) : wordsN n ws = false := decide_eq_false (fun ⟨_, g⟩ => by rw [g i hi] at h; cases h)
/-- What moves at once come to, behind the first n of them. -/
def onceL (z : List Int) (n : Nat) (ws : List Int) : List Int := (List.range 11).map (fun (p : Nat) => ws.getD (srcTo z n p).toNat 0)
theorem once_len (z : List Int) (n : Nat) (ws : List Int) : (onceL z n ws).length = 11 := by simp [onceL]
theorem once_at (z : List Int) (n : Nat) (ws : List Int) {p : Nat} (h : p < 11) : (onceL z n ws).getD p 0 = ws.getD (srcTo z n p).toNat 0 := by
  simp [onceL, List.getD, h]
theorem src_last {z : List Int} {n : Nat} (g : GoodM z n) : srcTo z n 10 = 10 := src_none (fun j hj e => by have := inR_out (g j hj).2.1; omega)
/-- Moves in turn, spare place and all. -/
def turnB (z : List Int) (n : Nat) : Bool := decide (n ≤ 40 ∧ ∀ k, k < n → inR (frM z k) 0 10 = true ∧ inR (toM z k) 0 10 = true)
theorem turn_out {z : List Int} {n : Nat} (h : turnB z n = true) : n ≤ 40 ∧ ∀ k, k < n → inR (frM z k) 0 10 = true ∧ inR (toM z k) 0 10 = true := of_decide_eq_true h
theorem turn_mk {z : List Int} {n : Nat} (h : n ≤ 40) (g : ∀ k, k < n → inR (frM z k) 0 10 = true ∧ inR (toM z k) 0 10 = true) : turnB z n = true := decide_eq_true ⟨h, g⟩
theorem turn_long {z : List Int} {n : Nat} (h : 40 < n) : turnB z n = false := decide_eq_false (fun ⟨k, _⟩ => by omega)
theorem turn_fr {z : List Int} {n k : Nat} (hk : k < n) (h : inR (frM z k) 0 10 = false) : turnB z n = false := decide_eq_false (fun ⟨_, g⟩ => by have := (g k hk).1; rw [h] at this; cases this)
theorem turn_to {z : List Int} {n k : Nat} (hk : k < n) (h : inR (toM z k) 0 10 = false) : turnB z n = false := decide_eq_false (fun ⟨_, g⟩ => by have := (g k hk).2; rw [h] at this; cases this)
/-- What they come to. -/
def turnTo (z ws : List Int) : Nat → List Int
  | 0 => ws
  | n + 1 => (turnTo z ws n).set (toM z n).toNat ((turnTo z ws n).getD (frM z n).toNat 0)
theorem turn_len (z ws : List Int) : ∀ n, (turnTo z ws n).length = ws.length
  | 0 => rfl
  | n + 1 => by simp [turnTo, turn_len z ws n]
theorem set_getD (l : List Int) (i j : Nat) (x : Int) (h : i < l.length) : (l.set i x).getD j 0 = if j = i then x else l.getD j 0 := by
  simp only [List.getD, List.getElem?_set]
  by_cases e : i = j
  · subst e; simp [h]
  · rw [if_neg e, if_neg (fun q : j = i => e q.symm)]
theorem getD_in {l : List Int} (h : ∀ i, i < l.length → inR (l.getD i 0) 0 65535 = true) (i : Nat) : inR (l.getD i 0) 0 65535 = true := by
  by_cases q : i < l.length
  · exact h i q
  · simp only [List.getD, List.getElem?_eq_none (Nat.le_of_not_lt q)]; rfl
end Go.Proofs.Ythjcgnldlhjjmab.math
