/-
  The steps of a marker, as mathematics: begin, scan, sweep, and all scans.
-/
import Derived.Test.YtokaibpkajloeaaMagMath
import Derived.Test.YtokaibpkajloeaaDeep
import Derived.Test.YtokaibpkajloeaaDeepRow
import Derived.Test.YtokaibpkajloeaaMarkMath
namespace Go.Proofs.Ytokaibpkajloeaa.math
open Go.Proofs.Ytokaibpkajloeaa.deep
set_option linter.unusedVariables false

theorem shade_lk (s : Mst) (x : Int) : (shadeS s x).lk = s.lk ∧ (shadeS s x).rt = s.rt ∧ (shadeS s x).fr = s.fr ∧ (shadeS s x).on = s.on := by
  unfold shadeS
  split
  · exact ⟨rfl, rfl, rfl, rfl⟩
  · exact ⟨rfl, rfl, rfl, rfl⟩
def beginS (s : Mst) : Mst := shadeS (shadeS (s.setMk true) (s.rt 0)) (s.rt 1)
def scanS (s : Mst) (k : Nat) : Mst := (shadeS (shadeS s (s.lk k 0)) (s.lk k 1)).setCo k 2
/-- The white ones of the first m swept, the other colors turned to white. -/
def sweepTo (s : Mst) (m : Nat) : Mst := ⟨fun k => if k < m ∧ s.co k = 0 then fun _ => -1 else s.lk k, fun k => if k < m ∧ s.co k = 0 then true else s.fr k, s.co, s.rt, s.on⟩
def sweepS (s : Mst) (n : Nat) : Mst := ⟨(sweepTo s n).lk, (sweepTo s n).fr, fun k => if k < n then 0 else s.co k, s.rt, false⟩
/-- The first grey one of the first n. -/
def greyT (s : Mst) (n : Nat) : Option Nat := freeT (fun k => decide (s.co k = 1)) n
theorem grey_is (s : Mst) (n : Nat) : (greyT s n = none ∧ ∀ j, j < n → s.co j ≠ 1) ∨ ∃ k, greyT s n = some k ∧ k < n ∧ s.co k = 1 ∧ ∀ j, j < k → s.co j ≠ 1 := by
  rcases free_is (fun k => decide (s.co k = 1)) n with ⟨e, h⟩ | ⟨k, e, hk, h1, h2⟩
  · exact Or.inl ⟨e, fun j hj => of_decide_eq_false (h j hj)⟩
  · exact Or.inr ⟨k, e, hk, of_decide_eq_true h1, fun j hj => of_decide_eq_false (h2 j hj)⟩
theorem grey_at {s : Mst} {n k : Nat} (hk : k < n) (h : s.co k = 1) (hj : ∀ j, j < k → s.co j ≠ 1) : greyT s n = some k := free_some hk (decide_eq_true h) (fun j q => decide_eq_false (hj j q))
theorem grey_no {s : Mst} {n : Nat} (h : ∀ j, j < n → s.co j ≠ 1) : greyT s n = none := free_none (fun j q => decide_eq_false (h j q))
/-- How many are not black. -/
def pale (f : Nat → Int) : Nat → Nat
  | 0 => 0
  | k + 1 => pale f k + (if f k = 2 then 0 else 1)
theorem pale_le (f : Nat → Int) : ∀ n, pale f n ≤ n
  | 0 => Nat.le_refl _
  | n + 1 => by
    have := pale_le f n
    unfold pale
    split <;> omega
theorem pale_same {f g : Nat → Int} : ∀ n, (∀ k, k < n → (f k = 2 ↔ g k = 2)) → pale f n = pale g n
  | 0, _ => rfl
  | n + 1, h => by
    unfold pale
    rw [pale_same n (fun k hk => h k (by omega))]
    by_cases q : f n = 2
    · rw [if_pos q, if_pos ((h n (by omega)).1 q)]
    · rw [if_neg q, if_neg (fun r => q ((h n (by omega)).2 r))]
theorem pale_put {f : Nat → Int} {k : Nat} (h : f k ≠ 2) : ∀ n, k < n → pale (upN f k 2) n + 1 = pale f n
  | 0, hk => by omega
  | n + 1, hk => by
    unfold pale
    by_cases e : k = n
    · subst e
      rw [upN_same, if_pos rfl, if_neg h, pale_same (f := upN f k 2) (g := f) k (fun i hi => by rw [upN_other _ _ (by omega)])]
    · have q := pale_put h n (by omega)
      rw [upN_other _ _ (fun r => e r.symm)]
      omega
theorem shade_two (s : Mst) (x : Int) (k : Nat) : (shadeS s x).co k = 2 ↔ s.co k = 2 := by
  unfold shadeS
  split
  · next h =>
    unfold Mst.setCo upN
    dsimp only
    by_cases e : k = x.toNat
    · rw [if_pos e, e]
      constructor
      · intro q; omega
      · intro q; omega
    · rw [if_neg e]
  · exact Iff.rfl
theorem scan_pale {s : Mst} {n k : Nat} (hk : k < n) (h : s.co k = 1) : pale (scanS s k).co n + 1 = pale s.co n := by
  have e : (scanS s k).co = upN (shadeS (shadeS s (s.lk k 0)) (s.lk k 1)).co k 2 := rfl
  rw [e]
  have h2 : (shadeS (shadeS s (s.lk k 0)) (s.lk k 1)).co k ≠ 2 := fun q => by
    rw [shade_two, shade_two, h] at q; omega
  rw [pale_put h2 n hk]
  exact pale_same n (fun i _ => by rw [shade_two, shade_two])
/-- All scans: the first grey one, again and again; how many there were. -/
def finS (n : Nat) : Nat → Mst → Nat → Mst × Nat
  | 0, s, c => (s, c)
  | f + 1, s, c => match greyT s n with
    | none => (s, c)
    | some k => finS n f (scanS s k) (c + 1)
theorem fin_end {n f : Nat} {s : Mst} {c : Nat} (h : greyT s n = none) : finS n f s c = (s, c) := by
  cases f with
  | zero => rfl
  | succ f => unfold finS; rw [h]
/-- Where the scans stand: the state, how many there were. -/
structure FinAt (n : Nat) (R : Mst × Nat) (s : Mst) (c : Nat) : Prop where
  eq : finS n (n - c) s c = R
  le : pale s.co n + c ≤ n
theorem FinAt.start (n : Nat) (s : Mst) : FinAt n (finS n n s 0) s 0 := ⟨rfl, by have := pale_le s.co n; omega⟩
theorem FinAt.step {n : Nat} {R : Mst × Nat} {s : Mst} {c k : Nat} (h : FinAt n R s c) (hk : k < n) (h1 : s.co k = 1) (hj : ∀ j, j < k → s.co j ≠ 1) : FinAt n R (scanS s k) (c + 1) ∧ c < n := by
  have p := scan_pale hk h1
  have q := h.le
  obtain ⟨f, hf⟩ : ∃ f, n - c = f + 1 := ⟨n - c - 1, by omega⟩
  have e := h.eq
  rw [hf] at e
  unfold finS at e
  rw [grey_at hk h1 hj] at e
  refine ⟨⟨?_, by omega⟩, by omega⟩
  rw [show n - (c + 1) = f by omega]
  exact e
theorem FinAt.stop {n : Nat} {R : Mst × Nat} {s : Mst} {c : Nat} (h : FinAt n R s c) (hj : ∀ j, j < n → s.co j ≠ 1) : R = (s, c) := by
  rw [← h.eq, fin_end (grey_no hj)]
/-- FinishMark: the marker, how many scans. -/
def finishS (s : Mst) (n : Nat) : Mst × Nat := finS n n (if s.on = true then s else beginS s) 0
end Go.Proofs.Ytokaibpkajloeaa.math
