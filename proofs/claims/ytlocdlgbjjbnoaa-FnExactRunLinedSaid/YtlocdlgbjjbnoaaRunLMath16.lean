/-
  A line's run, step by step.
-/
import Derived.Test.YtlocdlgbjjbnoaaProg
import Derived.Test.YtlocdlgbjjbnoaaMagMath
import Derived.Test.YtlocdlgbjjbnoaaLineMath
import Derived.WalkKit
namespace Go.Proofs.Ytlocdlgbjjbnoaa.math
open Go.RowKit
set_option linter.unusedVariables false

/-- A line's run: where it is, its registers, what was told, the code that none caught. -/
structure Rs where
  pc : Nat
  rg : Nat → Int
  told : List Int
  unc : Int
def updR (f : Nat → Int) (k : Nat) (v : Int) : Nat → Int := fun i => if i = k then v else f i
theorem updR_same (f : Nat → Int) (k : Nat) (v : Int) : updR f k v k = v := if_pos rfl
theorem updR_other {f : Nat → Int} {k i : Nat} (v : Int) (h : i ≠ k) : updR f k v i = f i := if_neg h
def rs0 : Rs := ⟨0, fun _ => 0, [], 0⟩
/-- The code that a step raises, 0 for none. -/
def codeR (s : Rs) (o x : Int) : Int := if o = 2 then x else if o = 3 then s.rg x.toNat else 0
/-- Where it goes on behind a code that is raised. -/
def raiseR (n : Nat) (gs : Nat → Int) (g : Nat) (s : Rs) (c : Int) : Rs :=
  if firstG gs g (s.pc : Int) c < 0 then ⟨n, s.rg, s.told, c⟩ else ⟨(gat gs (firstG gs g (s.pc : Int) c).toNat).toNat, updR s.rg (firstG gs g (s.pc : Int) c).toNat c, s.told, s.unc⟩
/-- One step. -/
def plainR (s : Rs) (o x t : Int) : Rs :=
  if o = 1 then ⟨s.pc + 1, s.rg, s.told ++ [x], s.unc⟩ else
  if o = 4 then ⟨t.toNat, s.rg, s.told, s.unc⟩ else
  if o = 5 then ⟨s.pc + 1, updR s.rg x.toNat 0, s.told, s.unc⟩ else
  if o = 6 then (if s.rg x.toNat = t then ⟨s.pc + 1, s.rg, s.told, s.unc⟩ else ⟨s.pc + 2, updR s.rg x.toNat (s.rg x.toNat + 1), s.told, s.unc⟩) else
  ⟨s.pc + 1, s.rg, s.told, s.unc⟩
def stepR (zs : Nat → Int) (n : Nat) (gs : Nat → Int) (g : Nat) (s : Rs) : Rs :=
  if codeR s (lop zs s.pc) (lnn zs s.pc) = 0 then plainR s (lop zs s.pc) (lnn zs s.pc) (lto zs s.pc) else raiseR n gs g s (codeR s (lop zs s.pc) (lnn zs s.pc))
def runR (zs : Nat → Int) (n : Nat) (gs : Nat → Int) (g : Nat) : Nat → Rs → Nat → Option (Rs × Nat)
  | 0, s, d => if s.pc < n then none else some (s, d)
  | f + 1, s, d => if s.pc < n then runR zs n gs g f (stepR zs n gs g s) (d + 1) else some (s, d)
theorem runR_end {zs : Nat → Int} {n : Nat} {gs : Nat → Int} {g f d : Nat} {s : Rs} (h : ¬ s.pc < n) : runR zs n gs g f s d = some (s, d) := by
  cases f <;> (unfold runR; rw [if_neg h])
theorem runR_out {zs : Nat → Int} {n : Nat} {gs : Nat → Int} {g d : Nat} {s : Rs} (h : s.pc < n) : runR zs n gs g 0 s d = none := by
  unfold runR; rw [if_pos h]
theorem runR_on {zs : Nat → Int} {n : Nat} {gs : Nat → Int} {g f d : Nat} {s : Rs} (h : s.pc < n) : runR zs n gs g (f + 1) s d = runR zs n gs g f (stepR zs n gs g s) (d + 1) := by
  rw [runR, if_pos h]
theorem raise_told (n : Nat) (gs : Nat → Int) (g : Nat) (s : Rs) (c : Int) : (raiseR n gs g s c).told = s.told := by unfold raiseR; split <;> rfl
theorem plain_told (s : Rs) (o x t : Int) : (plainR s o x t).told = if o = 1 then s.told ++ [x] else s.told := by
  unfold plainR
  by_cases h1 : o = 1
  · rw [if_pos h1, if_pos h1]
  · rw [if_neg h1, if_neg h1]
    split
    · rfl
    · split
      · rfl
      · split
        · split <;> rfl
        · rfl
theorem step_told (zs : Nat → Int) (n : Nat) (gs : Nat → Int) (g : Nat) (s : Rs) : s.told.length ≤ (stepR zs n gs g s).told.length := by
  unfold stepR
  split
  · rw [plain_told]; split <;> simp
  · rw [raise_told]; exact Nat.le_refl _
theorem run_told {zs : Nat → Int} {n : Nat} {gs : Nat → Int} {g : Nat} : ∀ {f : Nat} {s : Rs} {d : Nat} {s' : Rs} {d' : Nat}, runR zs n gs g f s d = some (s', d') → s.told.length ≤ s'.told.length
  | 0, s, d, s', d', h => by
    unfold runR at h
    split at h
    · cases h
    · simp only [Option.some.injEq, Prod.mk.injEq] at h; rw [h.1]; exact Nat.le_refl _
  | f + 1, s, d, s', d', h => by
    rw [runR] at h
    split at h
    · exact Nat.le_trans (step_told zs n gs g s) (run_told h)
    · simp only [Option.some.injEq, Prod.mk.injEq] at h; rw [h.1]; exact Nat.le_refl _
/-- What is answered: where fuel and room suffice. -/
def endR : Option (Rs × Nat) → Option (List Int × Int × Nat)
  | none => none
  | some (s, d) => if s.told.length ≤ 200 then some (s.told, s.unc, d) else none
def ansR (zs : Nat → Int) (n : Nat) (gs : Nat → Int) (g : Nat) (fuel : Nat) : Option (List Int × Int × Nat) := endR (runR zs n gs g fuel rs0 0)
noncomputable def okRL (zs : Nat → Int) (n : Nat) (gs : Nat → Int) (g : Nat) (fuel : Int) : Bool := linedB zs n gs g && inR fuel 0 2000
noncomputable def lineAns (zs : Nat → Int) (n : Nat) (gs : Nat → Int) (g : Nat) (fuel : Int) : Option (List Int × Int × Nat) := if okRL zs n gs g fuel = true then ansR zs n gs g fuel.toNat else none
theorem ans_many {zs : Nat → Int} {n : Nat} {gs : Nat → Int} {g f d : Nat} {s : Rs} (h : 200 < s.told.length) : endR (runR zs n gs g f s d) = none := by
  cases hr : runR zs n gs g f s d with
  | none => rfl
  | some p =>
    obtain ⟨s', d'⟩ := p
    have := run_told hr
    show (if s'.told.length ≤ 200 then _ else none) = none
    rw [if_neg (by omega)]
/-- A run at work: the steps that were done, and what holds of it. -/
structure GoodR (zs : Nat → Int) (n : Nat) (gs : Nat → Int) (g fuel : Nat) (s : Rs) (d : Nat) : Prop where
  same : runR zs n gs g fuel rs0 0 = runR zs n gs g (fuel - d) s d
  few : d ≤ fuel
  low : ∀ i, 0 ≤ s.rg i ∧ s.rg i ≤ 9 + (d : Int)
  told : s.told.length ≤ d
  pc : s.pc ≤ n + 1
theorem goodR_start (zs : Nat → Int) (n : Nat) (gs : Nat → Int) (g fuel : Nat) : GoodR zs n gs g fuel rs0 0 :=
  ⟨rfl, Nat.zero_le _, fun i => ⟨Int.le_refl _, by show (0 : Int) ≤ 9 + ((0 : Nat) : Int); decide⟩, Nat.le_refl _, Nat.zero_le _⟩
/-- What a good line's step is of. -/
theorem step_cases {n : Nat} {o x t : Int} (h : lstepB n o x t = true) : (o = 1 ∧ 0 ≤ x ∧ x ≤ 99) ∨ (o = 2 ∧ 1 ≤ x ∧ x ≤ 9) ∨ (o = 3 ∧ 0 ≤ x ∧ x ≤ 39) ∨ (o = 4 ∧ 0 ≤ t ∧ t ≤ n) ∨ (o = 5 ∧ 0 ≤ x ∧ x ≤ 39) ∨ (o = 6 ∧ 0 ≤ x ∧ x ≤ 39 ∧ 0 ≤ t ∧ t ≤ 9) := by
  by_cases h1 : o = 1
  · subst h1; have := inR_out (Bool.and_eq_true_iff.1 (show (inR x 0 99 && decide (t = 0)) = true from h)).1; exact Or.inl ⟨rfl, this⟩
  by_cases h2 : o = 2
  · subst h2; have := inR_out (Bool.and_eq_true_iff.1 (show (inR x 1 9 && decide (t = 0)) = true from h)).1; exact Or.inr (Or.inl ⟨rfl, this⟩)
  by_cases h3 : o = 3
  · subst h3; have := inR_out (Bool.and_eq_true_iff.1 (show (inR x 0 39 && decide (t = 0)) = true from h)).1; exact Or.inr (Or.inr (Or.inl ⟨rfl, this⟩))
  by_cases h4 : o = 4
  · subst h4; have := inR_out (Bool.and_eq_true_iff.1 (show (decide (x = 0) && inR t 0 (n : Int)) = true from h)).2; exact Or.inr (Or.inr (Or.inr (Or.inl ⟨rfl, this⟩)))
  by_cases h5 : o = 5
  · subst h5; have := inR_out (Bool.and_eq_true_iff.1 (show (inR x 0 39 && decide (t = 0)) = true from h)).1; exact Or.inr (Or.inr (Or.inr (Or.inr (Or.inl ⟨rfl, this⟩))))
  by_cases h6 : o = 6
  · subst h6; have q := Bool.and_eq_true_iff.1 (show (inR x 0 39 && inR t 0 9) = true from h); have q1 := inR_out q.1; have q2 := inR_out q.2; exact Or.inr (Or.inr (Or.inr (Or.inr (Or.inr ⟨rfl, q1.1, q1.2, q2⟩))))
  rw [lstepB_else h1 h2 h3 h4 h5 h6] at h; cases h
/-- The guard that is found is there. -/
theorem firstG_at {gs : Nat → Int} {g : Nat} {a c : Int} (h : ¬ firstG gs g a c < 0) : ∃ k, k < g ∧ firstG gs g a c = (k : Int) := by
  rcases firstP_cases (takesAt gs a c) g with ⟨e, _⟩ | ⟨k, hk, _, e⟩
  · exact absurd (show firstG gs g a c < 0 by show firstP _ _ < 0; rw [e]; decide) h
  · exact ⟨k, hk, e⟩
theorem goodR_step {zs : Nat → Int} {n : Nat} {gs : Nat → Int} {g fuel : Nat} {s : Rs} {d : Nat} (h : GoodR zs n gs g fuel s d) (hl : LinedOk zs n gs g) (hp : s.pc < n) (hd : d < fuel) : GoodR zs n gs g fuel (stepR zs n gs g s) (d + 1) := by
  have hs := step_cases (hl.1 s.pc hp)
  have hup : ∀ (k : Nat) (v : Int), 0 ≤ v → v ≤ 9 + ((d + 1 : Nat) : Int) → ∀ i, 0 ≤ updR s.rg k v i ∧ updR s.rg k v i ≤ 9 + ((d + 1 : Nat) : Int) := fun k v h1 h2 i => by
    unfold updR
    split
    · exact ⟨h1, h2⟩
    · have := h.low i; omega
  have hst : ∀ i, 0 ≤ s.rg i ∧ s.rg i ≤ 9 + ((d + 1 : Nat) : Int) := fun i => by have := h.low i; omega
  have htd := h.told
  have hx := h.low (lnn zs s.pc).toNat
  refine ⟨?_, by omega, ?_, ?_, ?_⟩
  · rw [h.same, show fuel - d = (fuel - (d + 1)) + 1 by omega, runR_on hp]
  · unfold stepR
    split
    · unfold plainR
      split; · exact hst
      split; · exact hst
      split; · exact hup _ _ (by decide) (by omega)
      split
      · split
        · exact hst
        · exact hup _ _ (by omega) (by omega)
      · exact hst
    · have hc : 0 ≤ codeR s (lop zs s.pc) (lnn zs s.pc) ∧ codeR s (lop zs s.pc) (lnn zs s.pc) ≤ 9 + ((d + 1 : Nat) : Int) := by
        unfold codeR
        split
        · rename_i e
          rcases hs with q | q | q | q | q | q <;> omega
        · split
          · omega
          · omega
      unfold raiseR
      split
      · exact hst
      · exact hup _ _ hc.1 hc.2
  · unfold stepR
    split
    · rw [plain_told]; split
      · rw [List.length_append, List.length_singleton]; omega
      · omega
    · rw [raise_told]; omega
  · unfold stepR
    split
    · unfold plainR
      split; · show s.pc + 1 ≤ n + 1; omega
      split
      · rename_i e
        show (lto zs s.pc).toNat ≤ n + 1
        rcases hs with q | q | q | q | q | q <;> omega
      split; · show s.pc + 1 ≤ n + 1; omega
      split
      · split
        · show s.pc + 1 ≤ n + 1; omega
        · show s.pc + 2 ≤ n + 1; omega
      · show s.pc + 1 ≤ n + 1; omega
    · unfold raiseR
      split
      · exact Nat.le_succ n
      · rename_i e
        obtain ⟨k, hk, ek⟩ := firstG_at e
        rw [ek, Int.toNat_natCast]
        show (gat gs k).toNat ≤ n + 1
        have hg := hl.2.1 k hk
        unfold guardAt guardB at hg
        simp only [Bool.and_eq_true] at hg
        have := inR_out hg.2
        omega
end Go.Proofs.Ytlocdlgbjjbnoaa.math
