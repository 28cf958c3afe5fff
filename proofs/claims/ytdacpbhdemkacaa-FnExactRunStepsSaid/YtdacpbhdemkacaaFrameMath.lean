/-
  A run of stack code on a frame, as plain mathematics.
-/
import Derived.Test.YtdacpbhdemkacaaMagMath
import Derived.Test.YtdacpbhdemkacaaRunMath
import Derived.Test.YtdacpbhdemkacaaStackMath
import Derived.Test.YtdacpbhdemkacaaFrames
namespace Go.Proofs.Ytdacpbhdemkacaa.walks
open Go.RowKit Go.Proofs.Ytdacpbhdemkacaa.math Go.Proofs.Ytdacpbhdemkacaa.deep
set_option linter.unusedVariables false

/-- A frame: locals, stack (its uppermost one last), what was told. -/
structure Fs where
  l : List Int
  s : List Int
  t : List Int
def topL (l : List Int) : Int := l.getD (l.length - 1) 0
theorem top_split {l : List Int} (h : 0 < l.length) : l = l.dropLast ++ [topL l] := by
  have hn : l ≠ [] := by intro e; rw [e] at h; simp at h
  have e : topL l = l.getLast hn := by
    unfold topL
    rw [List.getLast_eq_getElem, List.getD_eq_getElem?_getD, List.getElem?_eq_getElem (by omega)]; rfl
  rw [e]; exact (List.dropLast_concat_getLast hn).symm
theorem top_snoc (l : List Int) (x : Int) : topL (l ++ [x]) = x := by simp [topL, List.getD]
def stepF (o n : Int) (f : Fs) : Fs :=
  if o = 1 then ⟨f.l, f.s ++ [n], f.t⟩
  else if o = 2 then ⟨f.l, f.s ++ [f.l.getD n.toNat 0], f.t⟩
  else if o = 3 then ⟨f.l.set n.toNat (topL f.s), f.s.dropLast, f.t⟩
  else if o = 8 then ⟨f.l, f.s ++ [topL f.s], f.t⟩
  else if o = 9 then ⟨f.l, f.s.dropLast, f.t⟩
  else if o = 10 then ⟨f.l, f.s.dropLast, f.t ++ [topL f.s]⟩
  else ⟨f.l, f.s.dropLast.dropLast ++ [doV (o - 1) (topL f.s.dropLast) (topL f.s)], f.t⟩
/-- The frame behind m steps from step b on. -/
def runF (cs : Nat → Dv) (b : Nat) (f : Fs) : Nat → Fs
  | 0 => f
  | m + 1 => stepF (opS cs (b + m)) (nS cs (b + m)) (runF cs b f m)
structure GoodFs (f : Fs) (d : Int) (m : Nat) : Prop where
  l3 : f.l.length = 3
  lw : wordsB f.l = true
  sd : (f.s.length : Int) = d
  sw : wordsB f.s = true
  tm : f.t.length ≤ m
theorem words_snoc {l : List Int} {x : Int} (h : wordsB l = true) (h0 : 0 ≤ x) (h1 : x ≤ 65535) : wordsB (l ++ [x]) = true := by
  refine words_yes (fun k hk => ?_)
  rw [List.length_append] at hk
  by_cases e : k < l.length
  · have q := of_decide_eq_true h k e
    rwa [show (l ++ [x]).getD k 0 = l.getD k 0 by simp [List.getD, List.getElem?_append, e]]
  · have : k = l.length := by simp at hk; omega
    subst this
    rw [show (l ++ [x]).getD l.length 0 = x by simp [List.getD]]
    exact inR_mk h0 h1
theorem words_drop {l : List Int} (h : wordsB l = true) : wordsB l.dropLast = true := by
  refine words_yes (fun k hk => ?_)
  rw [List.length_dropLast] at hk
  have q := of_decide_eq_true h k (by omega)
  rwa [show l.dropLast.getD k 0 = l.getD k 0 by simp [List.getD, hk, show k < l.length by omega]]
theorem words_set {l : List Int} {j : Nat} {x : Int} (h : wordsB l = true) (h0 : 0 ≤ x) (h1 : x ≤ 65535) : wordsB (l.set j x) = true := by
  refine words_yes (fun k hk => ?_)
  rw [List.length_set] at hk
  by_cases e : j = k
  · subst e
    rw [show (l.set j x).getD j 0 = x by simp [List.getD, hk]]
    exact inR_mk h0 h1
  · have q := of_decide_eq_true h k hk
    rwa [show (l.set j x).getD k 0 = l.getD k 0 by simp [List.getD, e]]
theorem top_word {l : List Int} (h : wordsB l = true) (hl : 0 < l.length) : 0 ≤ topL l ∧ topL l ≤ 65535 := words_at h (by omega)
theorem okS_cases {o n : Int} (h : okS o n = true) : (o = 1 ∧ 0 ≤ n ∧ n ≤ 65535) ∨ (o = 2 ∧ 0 ≤ n ∧ n ≤ 2) ∨ (o = 3 ∧ 0 ≤ n ∧ n ≤ 2) ∨ (o = 8 ∧ n = 0) ∨ (o = 9 ∧ n = 0) ∨ (o = 10 ∧ n = 0) ∨ (4 ≤ o ∧ o ≤ 7 ∧ n = 0) := by
  unfold okS at h
  by_cases h1 : o = 1
  · rw [if_pos h1] at h; exact Or.inl ⟨h1, inR_out h⟩
  · rw [if_neg h1] at h
    by_cases h2 : o = 2 ∨ o = 3
    · rw [if_pos h2] at h
      have := inR_out h
      omega
    · rw [if_neg h2] at h
      simp only [Bool.and_eq_true] at h
      have := inR_out h.1
      have e : n = 0 := by simpa using h.2
      omega
theorem step_good {o n d : Int} {f : Fs} {m : Nat} (ho : okS o n = true) (hd : offK o ≤ d) (h : GoodFs f d m) : GoodFs (stepF o n f) (d + (onK o - offK o)) (m + 1) := by
  obtain ⟨h1, h2, h3, h4, h5⟩ := h
  rcases okS_cases ho with ⟨rfl, n0, n1⟩ | ⟨rfl, n0, n1⟩ | ⟨rfl, n0, n1⟩ | ⟨rfl, rfl⟩ | ⟨rfl, rfl⟩ | ⟨rfl, rfl⟩ | ⟨o4, o7, rfl⟩
  · exact ⟨h1, h2, by show ((f.s ++ [n]).length : Int) = _; simp [onK, offK]; omega, words_snoc h4 n0 n1, by show f.t.length ≤ _; omega⟩
  · have q := words_at h2 (k := n.toNat) (by omega)
    exact ⟨h1, h2, by show ((f.s ++ [f.l.getD n.toNat 0]).length : Int) = _; simp [onK, offK]; omega, words_snoc h4 q.1 q.2, by show f.t.length ≤ _; omega⟩
  · have hl : 0 < f.s.length := by simp [offK] at hd; omega
    have q := top_word h4 hl
    exact ⟨by show (f.l.set _ _).length = 3; simpa using h1, words_set h2 q.1 q.2, by show ((f.s.dropLast).length : Int) = _; simp [onK, offK]; omega, words_drop h4, by show f.t.length ≤ _; omega⟩
  · have hl : 0 < f.s.length := by simp [offK] at hd; omega
    have q := top_word h4 hl
    exact ⟨h1, h2, by show ((f.s ++ [topL f.s]).length : Int) = _; simp [onK, offK]; omega, words_snoc h4 q.1 q.2, by show f.t.length ≤ _; omega⟩
  · have hl : 0 < f.s.length := by simp [offK] at hd; omega
    exact ⟨h1, h2, by show ((f.s.dropLast).length : Int) = _; simp [onK, offK]; omega, words_drop h4, by show f.t.length ≤ _; omega⟩
  · have hl : 0 < f.s.length := by simp [offK] at hd; omega
    exact ⟨h1, h2, by show ((f.s.dropLast).length : Int) = _; simp [onK, offK]; omega, words_drop h4, by show (f.t ++ [topL f.s]).length ≤ _; simp; omega⟩
  · have e1 : offK o = 2 := by unfold offK; rw [if_neg (by omega), if_neg (by omega), if_neg (by omega)]
    have e2 : onK o = 1 := by unfold onK; rw [if_neg (by omega), if_neg (by omega), if_neg (by omega)]
    have hl : 2 ≤ f.s.length := by omega
    have e : stepF o 0 f = ⟨f.l, f.s.dropLast.dropLast ++ [doV (o - 1) (topL f.s.dropLast) (topL f.s)], f.t⟩ := by
      unfold stepF; rw [if_neg (by omega), if_neg (by omega), if_neg (by omega), if_neg (by omega), if_neg (by omega), if_neg (by omega)]
    rw [e]
    exact ⟨h1, h2, by show ((f.s.dropLast.dropLast ++ [_]).length : Int) = _; simp; omega, words_snoc (words_drop (words_drop h4)) do_bd.1 do_bd.2, by show f.t.length ≤ _; omega⟩
theorem run_good {cs : Nat → Dv} {n b : Nat} {f : Fs} {q : Nat} (hs : ∀ k, k < n → StepOk cs k) (h : GoodFs f (dpt cs b) q) : ∀ m, b + m ≤ n → GoodFs (runF cs b f m) (dpt cs (b + m)) (q + m)
  | 0, _ => h
  | m + 1, hm => by
    have k := run_good hs h m (by omega)
    have s := hs (b + m) (by omega)
    exact step_good s.1 s.2.1 k
/-- Whether RunSteps tells true, and what it tells. -/
def rsB (cs : Nat → Dv) (n : Nat) (f : Fs) (b t : Int) : Bool := decide (stepsB cs n = true ∧ frameB f.l f.s f.t = true ∧ 0 ≤ b ∧ b ≤ t ∧ t ≤ (n : Int) ∧ (f.s.length : Int) = dpt cs b.toNat ∧ (runF cs b.toNat f (t.toNat - b.toNat)).t.length ≤ 100)
def rsF (cs : Nat → Dv) (n : Nat) (f : Fs) (b t : Int) : Fs := if rsB cs n f b t then runF cs b.toNat f (t.toNat - b.toNat) else ⟨[], [], []⟩
theorem rs_no {cs : Nat → Dv} {n : Nat} {f : Fs} {b t : Int} (h : ¬ (stepsB cs n = true ∧ frameB f.l f.s f.t = true ∧ 0 ≤ b ∧ b ≤ t ∧ t ≤ (n : Int) ∧ (f.s.length : Int) = dpt cs b.toNat ∧ (runF cs b.toNat f (t.toNat - b.toNat)).t.length ≤ 100)) : rsB cs n f b t = false := decide_eq_false h
theorem rs_yes {cs : Nat → Dv} {n : Nat} {f : Fs} {b t : Int} (h : stepsB cs n = true ∧ frameB f.l f.s f.t = true ∧ 0 ≤ b ∧ b ≤ t ∧ t ≤ (n : Int) ∧ (f.s.length : Int) = dpt cs b.toNat ∧ (runF cs b.toNat f (t.toNat - b.toNat)).t.length ≤ 100) : rsB cs n f b t = true := decide_eq_true h
theorem rs_out {cs : Nat → Dv} {n : Nat} {f : Fs} {b t : Int} (h : rsB cs n f b t = true) : stepsB cs n = true ∧ frameB f.l f.s f.t = true ∧ 0 ≤ b ∧ b ≤ t ∧ t ≤ (n : Int) ∧ (f.s.length : Int) = dpt cs b.toNat ∧ (runF cs b.toNat f (t.toNat - b.toNat)).t.length ≤ 100 := of_decide_eq_true h
theorem rsF_no {cs : Nat → Dv} {n : Nat} {f : Fs} {b t : Int} (h : rsB cs n f b t = false) : rsF cs n f b t = ⟨[], [], []⟩ := by unfold rsF; rw [h]; rfl
theorem rsF_yes {cs : Nat → Dv} {n : Nat} {f : Fs} {b t : Int} (h : rsB cs n f b t = true) : rsF cs n f b t = runF cs b.toNat f (t.toNat - b.toNat) := by unfold rsF; rw [h]; rfl
theorem good_of_frame {f : Fs} {d : Int} (h : frameB f.l f.s f.t = true) (hd : (f.s.length : Int) = d) : GoodFs f d 100 := by
  obtain ⟨h1, h2, h3, h4, h5, h6⟩ := frame_out h
  exact ⟨h1, h2, hd, h4, h5⟩
end Go.Proofs.Ytdacpbhdemkacaa.walks
