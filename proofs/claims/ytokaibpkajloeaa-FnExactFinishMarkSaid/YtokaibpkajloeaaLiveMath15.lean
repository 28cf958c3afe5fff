/-
  What is reached in a marker, as mathematics.
-/
import Derived.Test.YtokaibpkajloeaaMagMath
import Derived.Test.YtokaibpkajloeaaDeep
import Derived.Test.YtokaibpkajloeaaDeepRow
import Derived.Test.YtokaibpkajloeaaMarkMath
namespace Go.Proofs.Ytokaibpkajloeaa.math
open Go.Proofs.Ytokaibpkajloeaa.deep
set_option linter.unusedVariables false

/-- Reached from a link, from the roots. -/
inductive From (s : Mst) (x : Int) : Nat → Prop where
  | here (k : Nat) : x = (k : Int) → From s x k
  | step (k k' j : Nat) : From s x k → j < 2 → s.lk k j = (k' : Int) → From s x k'
theorem From.trans {s : Mst} {x : Int} {a : Nat} (h : From s x a) {j : Nat} (hj : j < 2) {k : Nat} (h2 : From s (s.lk a j) k) : From s x k := by
  induction h2 with
  | here k e => exact From.step a k j h hj e
  | step k k' j' _ hj' e ih => exact From.step k k' j' ih hj' e
def OkE (m : Nat → Bool) (x : Int) : Prop := x = -1 ∨ ∃ k : Nat, x = (k : Int) ∧ m k = true
theorem OkE.more {m m' : Nat → Bool} {x : Int} (h : OkE m x) (q : ∀ k, m k = true → m' k = true) : OkE m' x := h.imp id (fun ⟨k, e, r⟩ => ⟨k, e, q k r⟩)
/-- What meet leaves. -/
structure Post (s : Mst) (n : Nat) (x : Int) (m0 m : Nat → Bool) : Prop where
  sub : ∀ k, m0 k = true → m k = true
  shut : ∀ k, k < n → m k = true → m0 k = false → ∀ j, j < 2 → OkE m (s.lk k j)
  from_ : ∀ k, k < n → m k = true → m0 k = false → From s x k
  ok : OkE m x
/-- .. at each jump. -/
structure Jmp (s : Mst) (n : Nat) (x0 : Int) (m0 : Nat → Bool) (x : Int) (m : Nat → Bool) : Prop where
  sub : ∀ k, m0 k = true → m k = true
  shut : ∀ k, k < n → m k = true → m0 k = false → ∀ j, j < 2 → OkE m (s.lk k j) ∨ s.lk k j = x
  from_ : ∀ k, k < n → m k = true → m0 k = false → From s x0 k
  ok : OkE m x0 ∨ x0 = x
  at_ : x = -1 ∨ ∃ k : Nat, x = (k : Int) ∧ k < n ∧ From s x0 k
theorem Jmp.start {s : Mst} {n : Nat} {x : Int} {m : Nat → Bool} (h : x = -1 ∨ ∃ k : Nat, x = (k : Int) ∧ k < n) : Jmp s n x m x m := ⟨fun _ q => q, (fun k _ h1 h2 => by rw [h1] at h2; cases h2), (fun k _ h1 h2 => by rw [h1] at h2; cases h2), Or.inr rfl, h.imp id (fun ⟨k, e, hk⟩ => ⟨k, e, hk, From.here k e⟩)⟩
theorem Jmp.stop {s : Mst} {n : Nat} {x0 x : Int} {m0 m : Nat → Bool} (h : Jmp s n x0 m0 x m) (hx : OkE m x) : Post s n x0 m0 m := ⟨h.sub, fun k hk h1 h2 j hj => (h.shut k hk h1 h2 j hj).elim id (fun e => e ▸ hx), h.from_, h.ok.elim id (fun e => e ▸ hx)⟩
theorem Jmp.next {s : Mst} {n : Nat} {x0 : Int} {k : Nat} {m0 m m2 : Nat → Bool} (h : Jmp s n x0 m0 (k : Int) m) (hk : k < n) (hm : m k = false) (p : Post s n (s.lk k 0) (upN m k true) m2) (hl : s.lk k 1 = -1 ∨ ∃ q : Nat, s.lk k 1 = (q : Int) ∧ q < n) : Jmp s n x0 m0 (s.lk k 1) m2 := by
  have u : ∀ i, m i = true → m2 i = true := fun i q => p.sub i (by unfold upN; split <;> simp_all)
  have uk : m2 k = true := p.sub k (by unfold upN; simp)
  have fk : From s x0 k := by
    rcases h.at_ with q | ⟨k', e, _, f⟩
    · omega
    · have : k = k' := by omega
      subst this; exact f
  refine ⟨fun i q => u i (h.sub i q), fun i hi h1 h2 j hj => ?_, fun i hi h1 h2 => ?_, ?_, ?_⟩
  · by_cases e : i = k
    · subst e
      rcases (show j = 0 ∨ j = 1 by omega) with r | r
      · subst r; exact Or.inl p.ok
      · subst r; exact Or.inr rfl
    · cases q : m i
      · exact Or.inl (p.shut i hi h1 (by rw [upN_other _ _ e]; exact q) j hj)
      · rcases h.shut i hi q h2 j hj with r | r
        · exact Or.inl (r.more u)
        · exact Or.inl (Or.inr ⟨k, r, uk⟩)
  · by_cases e : i = k
    · subst e; exact fk
    · cases q : m i
      · exact fk.trans (show 0 < 2 by decide) (p.from_ i hi h1 (by rw [upN_other _ _ e]; exact q))
      · exact h.from_ i hi q h2
  · rcases h.ok with r | r
    · exact Or.inl (r.more u)
    · exact Or.inl (Or.inr ⟨k, r, uk⟩)
  · exact hl.imp id (fun ⟨q, e, hq⟩ => ⟨q, e, hq, From.step k q 1 fk (by decide) e⟩)
/-- How many are not met. -/
def unmet (m : Nat → Bool) : Nat → Nat
  | 0 => 0
  | k + 1 => unmet m k + (if m k = true then 0 else 1)
theorem unmet_le {m m' : Nat → Bool} (h : ∀ k, m k = true → m' k = true) : ∀ n, unmet m' n ≤ unmet m n
  | 0 => Nat.le_refl _
  | n + 1 => by
    have q := unmet_le h n
    unfold unmet
    by_cases r : m n = true
    · rw [if_pos r, if_pos (h n r)]; omega
    · rw [if_neg r]
      split <;> omega
theorem unmet_put {m : Nat → Bool} {k : Nat} (hm : m k = false) : ∀ n, k < n → unmet (upN m k true) n + 1 = unmet m n
  | 0, hk => by omega
  | n + 1, hk => by
    unfold unmet
    by_cases e : k = n
    · subst e
      have same : ∀ i, i ≤ k → unmet (upN m k true) i = unmet m i := by
        intro i
        induction i with
        | zero => intro _; rfl
        | succ i ih =>
          intro hi
          unfold unmet
          rw [ih (by omega), upN_other _ _ (by omega)]
      rw [same k (Nat.le_refl _), upN_same, if_pos rfl, if_neg (by rw [hm]; simp)]
    · have q := unmet_put hm n (by omega)
      rw [upN_other _ _ (fun r => e r.symm)]
      omega
/-- Reached from the roots. -/
def Live (s : Mst) (k : Nat) : Prop := From s (s.rt 0) k ∨ From s (s.rt 1) k
theorem live_of {s : Mst} {n : Nat} {m1 m : Nat → Bool} (hl : ∀ k, k < n → ∀ j, j < 2 → s.lk k j = -1 ∨ ∃ q : Nat, s.lk k j = (q : Int) ∧ q < n) (hr : ∀ j, j < 2 → s.rt j = -1 ∨ ∃ q : Nat, s.rt j = (q : Int) ∧ q < n) (p1 : Post s n (s.rt 0) (fun _ => false) m1) (p2 : Post s n (s.rt 1) m1 m) {k : Nat} (hk : k < n) : m k = true ↔ Live s k := by
  have shut : ∀ i, i < n → m i = true → ∀ j, j < 2 → OkE m (s.lk i j) := fun i hi h j hj => by
    cases q : m1 i
    · exact p2.shut i hi h q j hj
    · exact (p1.shut i hi q rfl j hj).more p2.sub
  have inn : ∀ x, (x = s.rt 0 ∨ x = s.rt 1) → ∀ i, From s x i → i < n ∧ m i = true := by
    intro x hx i h
    have ok0 : OkE m (s.rt 0) := p1.ok.more p2.sub
    induction h with
    | here k e =>
      rcases hx with r | r
      · subst r
        refine ⟨?_, ?_⟩
        · rcases hr 0 (by decide) with q | ⟨q, e2, hq⟩ <;> omega
        · rcases ok0 with q | ⟨q, e2, hq⟩
          · omega
          · have : k = q := by omega
            subst this; exact hq
      · subst r
        refine ⟨?_, ?_⟩
        · rcases hr 1 (by decide) with q | ⟨q, e2, hq⟩ <;> omega
        · rcases p2.ok with q | ⟨q, e2, hq⟩
          · omega
          · have : k = q := by omega
            subst this; exact hq
    | step k k' j _ hj e ih =>
      refine ⟨?_, ?_⟩
      · rcases hl k ih.1 j hj with q | ⟨q, e2, hq⟩ <;> omega
      · rcases shut k ih.1 ih.2 j hj with q | ⟨q, e2, hq⟩
        · omega
        · have : k' = q := by omega
          subst this; exact hq
  constructor
  · intro h
    cases q : m1 k
    · exact Or.inr (p2.from_ k hk h q)
    · exact Or.inl (p1.from_ k hk q rfl)
  · rintro (h | h)
    · exact (inn _ (Or.inl rfl) k h).2
    · exact (inn _ (Or.inr rfl) k h).2
end Go.Proofs.Ytokaibpkajloeaa.math
