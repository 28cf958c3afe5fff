/-
  The names needed ahead of each block of a flow, as plain data: one block's step, that whatever order the blocks are taken in the end is one and the same, and that it comes to an end.
-/
import Derived.Test.YtfmgbalfabpogaaBackMath
import Derived.Test.YtfmgbalfabpogaaFlowMath
namespace Go.Proofs.Ytfmgbalfabpogaa.math
open Go
set_option linter.unusedVariables false

abbrev Ls := Nat → Nat → Bool
/-- The names needed behind a block's code. -/
def nextL (s : Ls) (x : Int) (i : Nat) : Bool := if x < 0 then false else s x.toNat i
def behindL (b : Bv) (s : Ls) (i : Nat) : Bool := (nextL s b.th i || nextL s b.el i) || (!(b.th == b.el) && i == b.t.toNat)
/-- .. and ahead of it. -/
def aheadL (p : Bool) (f : Nat → Bv) (s : Ls) (k : Nat) : Nat → Bool := backK p (f k).zs (f k).len (behindL (f k) s) (f k).len
def updL (s : Ls) (k : Nat) (x : Nat → Bool) : Ls := fun j => if j = k then x else s j
theorem updL_same (s : Ls) (k : Nat) (x : Nat → Bool) : updL s k x k = x := if_pos rfl
theorem updL_other (s : Ls) {k j : Nat} (x : Nat → Bool) (h : j ≠ k) : updL s k x j = s j := if_neg h
def LeL (n : Nat) (s s' : Ls) : Prop := ∀ k, k < n → ∀ i, s k i = true → s' k i = true
def SameL (n : Nat) (s s' : Ls) : Prop := ∀ k, k < n → ∀ i, s k i = s' k i
theorem SameL.refl (n : Nat) (s : Ls) : SameL n s s := fun _ _ _ => rfl
theorem SameL.symm {n : Nat} {s s' : Ls} (h : SameL n s s') : SameL n s' s := fun k hk i => (h k hk i).symm
theorem SameL.trans {n : Nat} {a b c : Ls} (h : SameL n a b) (g : SameL n b c) : SameL n a c := fun k hk i => (h k hk i).trans (g k hk i)
theorem SameL.le {n : Nat} {s s' : Ls} (h : SameL n s s') : LeL n s s' := fun k hk i q => by rw [← h k hk i]; exact q
theorem same_of_le {n : Nat} {s s' : Ls} (h : LeL n s s') (g : LeL n s' s) : SameL n s s' := fun k hk i => by
  cases q : s k i
  · cases q' : s' k i
    · rfl
    · rw [g k hk i q'] at q; cases q
  · exact (h k hk i q).symm
theorem next_mono {n : Nat} {s s' : Ls} {x : Int} (h : LeL n s s') (hx : x < (n : Int)) {i : Nat} (q : nextL s x i = true) : nextL s' x i = true := by
  unfold nextL at q ⊢
  split at q
  · cases q
  · rename_i h0
    rw [if_neg h0]
    exact h _ (by omega) i q
theorem behind_mono {n : Nat} {b : Bv} {s s' : Ls} (h : LeL n s s') (ht : b.th < (n : Int)) (he : b.el < (n : Int)) {i : Nat} (q : behindL b s i = true) : behindL b s' i = true := by
  unfold behindL at q ⊢
  simp only [Bool.or_eq_true] at q ⊢
  rcases q with (q | q) | q
  · exact Or.inl (Or.inl (next_mono h ht q))
  · exact Or.inl (Or.inr (next_mono h he q))
  · exact Or.inr q
theorem at_mono {p : Bool} {o d a b : Int} {f g : Nat → Bool} (h : ∀ i, f i = true → g i = true) {i : Nat} (q : backAt p o d a b f i = true) : backAt p o d a b g i = true := by
  unfold backAt at q ⊢
  simp only [Bool.or_eq_true, Bool.and_eq_true] at q ⊢
  rcases q with ⟨q, r⟩ | ⟨(q | q) | q, r⟩
  · exact Or.inl ⟨h i q, r⟩
  · exact Or.inr ⟨Or.inl (Or.inl q), r⟩
  · exact Or.inr ⟨Or.inl (Or.inr (h _ q)), r⟩
  · exact Or.inr ⟨Or.inr q, r⟩
theorem backK_mono {p : Bool} {zs : List Int} {len : Nat} {f g : Nat → Bool} (h : ∀ i, f i = true → g i = true) : ∀ m i, backK p zs len f m i = true → backK p zs len g m i = true
  | 0, i, q => h i q
  | m + 1, i, q => at_mono (backK_mono h m) q
theorem ahead_mono {n k : Nat} {p : Bool} {f : Nat → Bv} {s s' : Ls} (hf : flowB f n = true) (hk : k < n) (h : LeL n s s') : ∀ i, aheadL p f s k i = true → aheadL p f s' k i = true := by
  have hb := (flow_out hf).2 k hk
  simp only [blockB, Bool.and_eq_true] at hb
  have h1 := inR_out hb.1.2
  have h2 := inR_out hb.2
  exact backK_mono (fun i => behind_mono h (by omega) (by omega)) _
theorem ahead_same {n k : Nat} {p : Bool} {f : Nat → Bv} {s s' : Ls} (hf : flowB f n = true) (hk : k < n) (h : SameL n s s') : ∀ i, aheadL p f s k i = aheadL p f s' k i := fun i => by
  cases q : aheadL p f s k i
  · cases q' : aheadL p f s' k i
    · rfl
    · rw [ahead_mono hf hk h.symm.le i q'] at q; cases q
  · exact (ahead_mono hf hk h.le i q).symm
/-- No name beyond the names is needed. -/
def HiL (n : Nat) (s : Ls) : Prop := ∀ k, k < n → ∀ i, 8 ≤ i → s k i = false
theorem next_hi {n : Nat} {s : Ls} {x : Int} (h : HiL n s) (hx : x < (n : Int)) {i : Nat} (hi : 8 ≤ i) : nextL s x i = false := by
  unfold nextL
  split
  · rfl
  · exact h _ (by omega) i hi
theorem behind_hi {n k : Nat} {f : Nat → Bv} {s : Ls} (hf : flowB f n = true) (hk : k < n) (h : HiL n s) : ∀ i, 8 ≤ i → behindL (f k) s i = false := fun i hi => by
  have hb := (flow_out hf).2 k hk
  simp only [blockB, Bool.and_eq_true] at hb
  have h0 := inR_out hb.1.1.2
  have h1 := inR_out hb.1.2
  have h2 := inR_out hb.2
  unfold behindL
  rw [next_hi h (by omega) hi, next_hi h (by omega) hi]
  have : (i == (f k).t.toNat) = false := by simp; omega
  rw [this]
  simp
theorem ahead_hi {n k : Nat} {p : Bool} {f : Nat → Bv} {s : Ls} (hf : flowB f n = true) (hk : k < n) (h : HiL n s) : ∀ i, 8 ≤ i → aheadL p f s k i = false := by
  have hb := (flow_out hf).2 k hk
  simp only [blockB, Bool.and_eq_true] at hb
  exact backK_hi (code_out hb.1.1.1).2 (behind_hi hf hk h) _ (Nat.le_refl _)
/-- What grows to the least end. -/
structure UpL (p : Bool) (f : Nat → Bv) (n : Nat) (s : Ls) : Prop where
  hi : HiL n s
  up : ∀ k, k < n → ∀ i, s k i = true → aheadL p f s k i = true
  low : ∀ t, (∀ k, k < n → ∀ i, aheadL p f t k i = true → t k i = true) → LeL n s t
/-- The least end. -/
structure FixL (p : Bool) (f : Nat → Bv) (n : Nat) (s : Ls) : Prop where
  up : UpL p f n s
  fix : ∀ k, k < n → ∀ i, aheadL p f s k i = s k i
theorem up_none (p : Bool) (f : Nat → Bv) (n : Nat) : UpL p f n (fun _ _ => false) := ⟨fun _ _ _ _ => rfl, fun _ _ _ h => (by cases h), fun _ _ _ _ _ h => (by cases h)⟩
theorem upd_le {p : Bool} {f : Nat → Bv} {n k : Nat} {s : Ls} (h : UpL p f n s) (hk : k < n) : LeL n s (updL s k (aheadL p f s k)) := fun j hj i q => by
  by_cases e : j = k
  · subst e; rw [updL_same]; exact h.up j hj i q
  · rw [updL_other _ _ e]; exact q
theorem up_step {p : Bool} {f : Nat → Bv} {n k : Nat} {s : Ls} (hf : flowB f n = true) (h : UpL p f n s) (hk : k < n) : UpL p f n (updL s k (aheadL p f s k)) := by
  have hle := upd_le h hk
  refine ⟨fun j hj i hi => ?_, fun j hj i q => ?_, fun t ht j hj i q => ?_⟩
  · by_cases e : j = k
    · subst e; rw [updL_same]; exact ahead_hi hf hj h.hi i hi
    · rw [updL_other _ _ e]; exact h.hi j hj i hi
  · by_cases e : j = k
    · subst e; rw [updL_same] at q; exact ahead_mono hf hj hle i q
    · rw [updL_other _ _ e] at q; exact ahead_mono hf hj hle i (h.up j hj i q)
  · by_cases e : j = k
    · subst e
      rw [updL_same] at q
      exact ht j hj i (ahead_mono hf hj (h.low t ht) i q)
    · rw [updL_other _ _ e] at q; exact h.low t ht j hj i q
theorem up_same {p : Bool} {f : Nat → Bv} {n : Nat} {s s' : Ls} (hf : flowB f n = true) (h : UpL p f n s) (e : SameL n s s') : UpL p f n s' :=
  ⟨fun k hk i hi => (e k hk i).symm.trans (h.hi k hk i hi), fun k hk i q => (ahead_same hf hk e i).symm.trans (h.up k hk i ((e k hk i).trans q)), fun t ht k hk i q => h.low t ht k hk i ((e k hk i).trans q)⟩
theorem fix_one {p : Bool} {f : Nat → Bv} {n : Nat} {s s' : Ls} (h : FixL p f n s) (h' : FixL p f n s') : SameL n s s' :=
  same_of_le (h.up.low s' (fun k hk i q => by rw [← h'.fix k hk i]; exact q)) (h'.up.low s (fun k hk i q => by rw [← h.fix k hk i]; exact q))
/-- How many names. -/
def cntL (f : Nat → Bool) : Nat := (risingTo f 8).length
theorem cnt_to (f g : Nat → Bool) (h : ∀ i, f i = true → g i = true) : ∀ k, (risingTo f k).length ≤ (risingTo g k).length ∧ ((risingTo f k).length = (risingTo g k).length → ∀ i, i < k → f i = g i)
  | 0 => ⟨Nat.le_refl _, fun _ i hi => by omega⟩
  | k + 1 => by
    obtain ⟨h1, h2⟩ := cnt_to f g h k
    simp only [risingTo, List.length_append]
    cases q : f k
    · cases q' : g k
      · refine ⟨by simpa using h1, fun e i hi => ?_⟩
        by_cases ei : i = k
        · subst ei; rw [q, q']
        · exact h2 (by simpa using e) i (by omega)
      · refine ⟨by simp; omega, fun e => ?_⟩
        simp at e
        omega
    · rw [h k q]
      refine ⟨by simpa using h1, fun e i hi => ?_⟩
      by_cases ei : i = k
      · subst ei; rw [q, h i q]
      · exact h2 (by simpa using e) i (by omega)
theorem cnt_le {f g : Nat → Bool} (h : ∀ i, f i = true → g i = true) : cntL f ≤ cntL g := (cnt_to f g h 8).1
theorem cnt_eq {f g : Nat → Bool} (h : ∀ i, f i = true → g i = true) (hf : ∀ i, 8 ≤ i → f i = false) (hg : ∀ i, 8 ≤ i → g i = false) (e : cntL f = cntL g) : ∀ i, f i = g i := fun i => by
  by_cases hi : i < 8
  · exact (cnt_to f g h 8).2 e i hi
  · rw [hf i (by omega), hg i (by omega)]
theorem cnt_8 (f : Nat → Bool) : cntL f ≤ 8 := rising_len f 8
def sumL (s : Ls) : Nat → Nat
  | 0 => 0
  | k + 1 => sumL s k + cntL (s k)
theorem sum_none : ∀ n, sumL (fun _ _ => false) n = 0
  | 0 => rfl
  | n + 1 => by simp only [sumL, sum_none n]; rfl
theorem sumL_le (s : Ls) : ∀ n, sumL s n ≤ n * 8
  | 0 => Nat.le_refl _
  | n + 1 => by have := sumL_le s n; have := cnt_8 (s n); simp only [sumL, Nat.succ_mul]; omega
theorem sumL_mono {s s' : Ls} : ∀ {n : Nat}, LeL n s s' → sumL s n ≤ sumL s' n
  | 0, _ => Nat.le_refl _
  | n + 1, h => by
    have h1 := sumL_mono (n := n) (fun k hk i q => h k (by omega) i q)
    have h2 := cnt_le (fun i => h n (by omega) i)
    simp only [sumL]; omega
theorem sumL_less {s s' : Ls} : ∀ {n k : Nat}, LeL n s s' → k < n → cntL (s k) < cntL (s' k) → sumL s n < sumL s' n
  | 0, k, _, hk, _ => by omega
  | n + 1, k, h, hk, hl => by
    have h2 := cnt_le (fun i => h n (by omega) i)
    simp only [sumL]
    by_cases e : k = n
    · subst e
      have h1 := sumL_mono (n := k) (fun j hj i q => h j (by omega) i q)
      omega
    · have h1 := sumL_less (n := n) (k := k) (fun j hj i q => h j (by omega) i q) (by omega) hl
      omega
theorem cnt_same {f g : Nat → Bool} (h : ∀ i, f i = g i) : cntL f = cntL g := by
  have : f = g := funext h
  rw [this]
/-- A block's step that adds nothing changes nothing. -/
theorem step_still {p : Bool} {f : Nat → Bv} {n k : Nat} {s : Ls} (hf : flowB f n = true) (h : UpL p f n s) (hk : k < n) (e : cntL (aheadL p f s k) ≤ cntL (s k)) : (∀ i, aheadL p f s k i = s k i) ∧ SameL n (updL s k (aheadL p f s k)) s := by
  have hle := cnt_le (h.up k hk)
  have e1 := cnt_eq (h.up k hk) (h.hi k hk) (ahead_hi hf hk h.hi) (by omega)
  refine ⟨fun i => (e1 i).symm, fun j hj i => ?_⟩
  by_cases q : j = k
  · subst q; rw [updL_same]; exact (e1 i).symm
  · rw [updL_other _ _ q]
/-- A round, as far as it has gone: from s0 to s, the blocks of D having been taken; whether something was added. -/
structure RndL (p : Bool) (f : Nat → Bv) (n : Nat) (s0 s : Ls) (D : Nat → Prop) (c : Bool) : Prop where
  up0 : UpL p f n s0
  up : UpL p f n s
  le : LeL n s0 s
  no : c = false → SameL n s s0 ∧ ∀ k, k < n → D k → ∀ i, aheadL p f s0 k i = s0 k i
  yes : c = true → sumL s0 n < sumL s n
theorem rnd_start {p : Bool} {f : Nat → Bv} {n : Nat} {s : Ls} (h : UpL p f n s) (D : Nat → Prop) (hD : ∀ k, k < n → ¬ D k) : RndL p f n s s D false :=
  ⟨h, h, fun _ _ _ q => q, fun _ => ⟨SameL.refl _ _, fun k hk hd => absurd hd (hD k hk)⟩, fun e => by cases e⟩
theorem rnd_more {p : Bool} {f : Nat → Bv} {n k : Nat} {s0 s : Ls} {D : Nat → Prop} {c : Bool} (hf : flowB f n = true) (h : RndL p f n s0 s D c) (hk : k < n) (e : cntL (s k) < cntL (aheadL p f s k)) (D' : Nat → Prop) : RndL p f n s0 (updL s k (aheadL p f s k)) D' true :=
  ⟨h.up0, up_step hf h.up hk, fun j hj i q => upd_le h.up hk j hj i (h.le j hj i q), fun e => (by cases e), fun _ => by
    have h1 := sumL_mono h.le
    have h2 := sumL_less (upd_le h.up hk) hk (by rw [updL_same]; exact e)
    omega⟩
theorem rnd_still {p : Bool} {f : Nat → Bv} {n k : Nat} {s0 s s' : Ls} {D D' : Nat → Prop} {c : Bool} (hf : flowB f n = true) (h : RndL p f n s0 s D c) (hk : k < n) (e : cntL (aheadL p f s k) ≤ cntL (s k)) (hs : SameL n s' s) (hD : ∀ j, j < n → D' j → D j ∨ j = k) : RndL p f n s0 s' D' c := by
  obtain ⟨e1, e2⟩ := step_still hf h.up hk e
  refine ⟨h.up0, up_same hf h.up hs.symm, fun j hj i q => hs.symm.le j hj i (h.le j hj i q), fun hc => ?_, fun hc => ?_⟩
  · obtain ⟨q1, q2⟩ := h.no hc
    refine ⟨hs.trans q1, fun j hj hd i => ?_⟩
    rcases hD j hj hd with hd | rfl
    · exact q2 j hj hd i
    · rw [← ahead_same hf hj q1 i, e1 i, q1 j hj i]
  · exact Nat.lt_of_lt_of_le (h.yes hc) (sumL_mono hs.symm.le)
theorem rnd_fix {p : Bool} {f : Nat → Bv} {n : Nat} {s0 s : Ls} {D : Nat → Prop} (hf : flowB f n = true) (h : RndL p f n s0 s D false) (hD : ∀ k, k < n → D k) : FixL p f n s := by
  obtain ⟨q1, q2⟩ := h.no rfl
  exact ⟨h.up, fun k hk i => by rw [ahead_same hf hk q1 i, q2 k hk (hD k hk) i, q1 k hk i]⟩
theorem sum_64 {f : Nat → Bv} {n : Nat} (hf : flowB f n = true) (s : Ls) : sumL s n ≤ 64 := by
  have h1 := sumL_le s n
  have h2 := (flow_out hf).1
  omega
end Go.Proofs.Ytfmgbalfabpogaa.math
