/-
  When a line with its guards is good, and which guard takes a code: over lists of numbers.
-/
import Derived.Test.YtlocdlgbjjbnoaaProg
import Derived.Test.YtlocdlgbjjbnoaaMagMath
import Derived.Test.YtlocdlgbjjbnoaaDeep
import Derived.Test.YtlocdlgbjjbnoaaDeepRow
namespace Go.Proofs.Ytlocdlgbjjbnoaa.math
open Go.RowKit Go.Proofs.Ytlocdlgbjjbnoaa.ints Go.Proofs.Ytlocdlgbjjbnoaa.deep
set_option linter.unusedVariables false

/-- Whether a step is good in a line of n steps. -/
def lstepB (n : Nat) (o x t : Int) : Bool :=
  if o = 1 then inR x 0 99 && decide (t = 0) else
  if o = 2 then inR x 1 9 && decide (t = 0) else
  if o = 3 then inR x 0 39 && decide (t = 0) else
  if o = 4 then decide (x = 0) && inR t 0 (n : Int) else
  if o = 5 then inR x 0 39 && decide (t = 0) else
  if o = 6 then inR x 0 39 && inR t 0 9 else false
theorem lstepB_else {n : Nat} {o x t : Int} (h1 : o ≠ 1) (h2 : o ≠ 2) (h3 : o ≠ 3) (h4 : o ≠ 4) (h5 : o ≠ 5) (h6 : o ≠ 6) : lstepB n o x t = false := by
  unfold lstepB; rw [if_neg h1, if_neg h2, if_neg h3, if_neg h4, if_neg h5, if_neg h6]
/-- Whether a guard is good in a line of n steps. -/
def guardB (n : Nat) (f t k a : Int) : Bool := inR f 0 n && inR t f n && inR k 0 9 && inR a 0 n
/-- Whether a guard takes a code at a step. -/
def takesB (f t k at' code : Int) : Bool := decide (f ≤ at') && decide (at' < t) && (decide (k = 0) || decide (k = code))
/-- The cells of a list of steps, and of guards. -/
def lop (zs : Nat → Int) (k : Nat) : Int := zs (k * 3)
def lnn (zs : Nat → Int) (k : Nat) : Int := zs (k * 3 + 1)
def lto (zs : Nat → Int) (k : Nat) : Int := zs (k * 3 + 2)
def gfr (gs : Nat → Int) (k : Nat) : Int := gs (k * 4)
def gto (gs : Nat → Int) (k : Nat) : Int := gs (k * 4 + 1)
def gkd (gs : Nat → Int) (k : Nat) : Int := gs (k * 4 + 2)
def gat (gs : Nat → Int) (k : Nat) : Int := gs (k * 4 + 3)
def stepAt (zs : Nat → Int) (n k : Nat) : Bool := lstepB n (lop zs k) (lnn zs k) (lto zs k)
def guardAt (gs : Nat → Int) (n k : Nat) : Bool := guardB n (gfr gs k) (gto gs k) (gkd gs k) (gat gs k)
/-- Whether a line is good. -/
def LinedOk (zs : Nat → Int) (n : Nat) (gs : Nat → Int) (g : Nat) : Prop := (∀ k, k < n → stepAt zs n k = true) ∧ (∀ k, k < g → guardAt gs n k = true) ∧ n ≤ 120 ∧ g ≤ 20
noncomputable def linedB (zs : Nat → Int) (n : Nat) (gs : Nat → Int) (g : Nat) : Bool := @decide (LinedOk zs n gs g) (Classical.propDecidable _)
theorem lined_yes {zs : Nat → Int} {n : Nat} {gs : Nat → Int} {g : Nat} (h : LinedOk zs n gs g) : linedB zs n gs g = true := @decide_eq_true _ (Classical.propDecidable _) h
theorem lined_no {zs : Nat → Int} {n : Nat} {gs : Nat → Int} {g : Nat} (h : ¬ LinedOk zs n gs g) : linedB zs n gs g = false := @decide_eq_false _ (Classical.propDecidable _) h
theorem lined_out {zs : Nat → Int} {n : Nat} {gs : Nat → Int} {g : Nat} (h : linedB zs n gs g = true) : LinedOk zs n gs g := @of_decide_eq_true _ (Classical.propDecidable _) h
theorem lined_bad {zs : Nat → Int} {n : Nat} {gs : Nat → Int} {g k : Nat} (hk : k < n) (h : stepAt zs n k = false) : linedB zs n gs g = false := lined_no (fun q => by rw [q.1 k hk] at h; cases h)
theorem lined_badg {zs : Nat → Int} {n : Nat} {gs : Nat → Int} {g k : Nat} (hk : k < g) (h : guardAt gs n k = false) : linedB zs n gs g = false := lined_no (fun q => by rw [q.2.1 k hk] at h; cases h)
/-- The first number for which something is so, -1 for none. -/
def firstP (p : Nat → Bool) : Nat → Int
  | 0 => -1
  | n + 1 => if firstP p n = -1 then (if p n then (n : Int) else -1) else firstP p n
theorem firstP_no {p : Nat → Bool} : ∀ {n : Nat}, (∀ j, j < n → p j = false) → firstP p n = -1
  | 0, _ => rfl
  | n + 1, h => by
    unfold firstP
    rw [if_pos (firstP_no (fun j hj => h j (by omega))), h n (by omega)]
    rfl
theorem firstP_at {p : Nat → Bool} {k : Nat} (hk : p k = true) (hl : ∀ j, j < k → p j = false) : ∀ {n : Nat}, k < n → firstP p n = (k : Int)
  | 0, h => absurd h (Nat.not_lt_zero _)
  | n + 1, h => by
    unfold firstP
    by_cases e : k = n
    · subst e
      rw [if_pos (firstP_no hl), hk]; rfl
    · have q := firstP_at hk hl (n := n) (by omega)
      rw [q, if_neg (by omega)]
theorem firstP_cases (p : Nat → Bool) (n : Nat) : (firstP p n = -1 ∧ ∀ j, j < n → p j = false) ∨ ∃ k, k < n ∧ p k = true ∧ firstP p n = (k : Int) := by
  induction n with
  | zero => exact Or.inl ⟨rfl, fun j hj => absurd hj (Nat.not_lt_zero _)⟩
  | succ n ih =>
    rcases ih with ⟨e, h⟩ | ⟨k, hk, pk, e⟩
    · cases hp : p n
      · left
        refine ⟨?_, fun j hj => ?_⟩
        · unfold firstP; rw [if_pos e, hp]; rfl
        · by_cases q : j = n
          · rw [q]; exact hp
          · exact h j (by omega)
      · right
        refine ⟨n, by omega, hp, ?_⟩
        unfold firstP; rw [if_pos e, hp]; rfl
    · right
      refine ⟨k, by omega, pk, ?_⟩
      unfold firstP; rw [e, if_neg (by omega)]
def takesAt (gs : Nat → Int) (at' code : Int) (k : Nat) : Bool := takesB (gfr gs k) (gto gs k) (gkd gs k) at' code
/-- The guard for a step and a code. -/
def firstG (gs : Nat → Int) (g : Nat) (at' code : Int) : Int := firstP (takesAt gs at' code) g
noncomputable def okGA (zs : Nat → Int) (n : Nat) (gs : Nat → Int) (g : Nat) (at' code : Int) : Bool := linedB zs n gs g && inR at' 0 ((n : Int) - 1) && inR code 1 9
noncomputable def gaB (zs : Nat → Int) (n : Nat) (gs : Nat → Int) (g : Nat) (at' code : Int) : Bool := okGA zs n gs g at' code && decide (0 ≤ firstG gs g at' code)
noncomputable def gaV (zs : Nat → Int) (n : Nat) (gs : Nat → Int) (g : Nat) (at' code : Int) : Int := if gaB zs n gs g at' code = true then firstG gs g at' code else 0
end Go.Proofs.Ytlocdlgbjjbnoaa.math
