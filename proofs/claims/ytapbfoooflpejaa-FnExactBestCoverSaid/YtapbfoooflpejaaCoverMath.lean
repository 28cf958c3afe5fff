/-
  Covers: pieces held against the places that are open, one after the other.
-/
import Derived.Test.YtapbfoooflpejaaFitMath
import Derived.Test.YtapbfoooflpejaaPats
namespace Go.Proofs.Ytapbfoooflpejaa.math
open Go.Proofs.Ytapbfoooflpejaa.walks

/-- All sizes together. -/
def szS (t : List Int) (os : List Nat) : Nat := (os.map (szT false t)).sum
theorem szS_nil (t : List Int) : szS t [] = 0 := rfl
theorem szS_cons (t : List Int) (o : Nat) (os : List Nat) : szS t (o :: os) = szT false t o + szS t os := by simp [szS]
theorem szS_app (t : List Int) (a b : List Nat) : szS t (a ++ b) = szS t a + szS t b := by simp [szS]
/-- The places that are left, and the kinds that are told, are all kinds up to the end. -/
theorem fit_sizes {t p : List Int} {E : Nat} : ∀ (d j pos n : Nat) (hs : List Nat), p.length - j = d → j ≤ p.length → FitI t p E j pos n → fitL t (p.drop j) pos = some hs → szS t hs ≤ E - pos
  | 0, j, pos, n, hs, hd, hj, hF, hf => by
    obtain rfl : j = p.length := by omega
    rw [fit_end] at hf
    cases hf
    rw [szS_nil]
    omega
  | d + 1, j, pos, n, hs, hd, hj, hF, hf => by
    have hlt : j < p.length := by omega
    obtain ⟨m, rfl, hpE⟩ := hF.pos hlt
    by_cases hk : p.getD j 0 = 0
    · rw [fit_any hlt hk] at hf
      obtain ⟨hF2, _⟩ := hF.any hlt hk
      cases q : fitL t (p.drop (j + 1)) (pos + szT false t pos) with
      | none => rw [q] at hf; cases hf
      | some hs' =>
        rw [q] at hf
        simp at hf
        subst hf
        have ih := fit_sizes d (j + 1) _ _ hs' (by omega) (by omega) hF2 q
        have hle := hF2.le
        rw [szS_cons]
        omega
    · by_cases he : t.getD pos 0 = p.getD j 0
      · rw [fit_kind hlt hk he] at hf
        obtain ⟨n2, hF2⟩ := hF.kind hlt hk he
        have ih := fit_sizes d (j + 1) _ _ hs (by omega) (by omega) hF2 hf
        omega
      · rw [fit_none hlt hk he] at hf
        cases hf
/-- What a pattern leaves is less than the tree. -/
theorem fit_less {t p : List Int} {at0 : Nat} {hs : List Nat} (ht : wholeB false t = true) (hp : wholeB true p = true) (hat : at0 < t.length) (h0 : p.getD 0 0 ≠ 0) (hf : fitL t p at0 = some hs) : szS t hs + 1 ≤ szT false t at0 := by
  have hF := fit_start ht hp hat
  have hpl := (whole_iff.1 hp).1
  have hf' : fitL t (p.drop 0) at0 = some hs := by rw [List.drop_zero]; exact hf
  have hs1 := (sz_le (whole_each ht hat) (by omega)).1
  by_cases he : t.getD at0 0 = p.getD 0 0
  · rw [fit_kind hpl h0 he] at hf'
    obtain ⟨n2, hF2⟩ := hF.kind hpl h0 he
    have := fit_sizes (p.length - 1) 1 _ _ hs (by omega) (by omega) hF2 hf'
    omega
  · rw [fit_none hpl h0 he] at hf'
    cases hf'
/-- All open places are the tree's. -/
def OpenB (t : List Int) (os : List Nat) : Prop := ∀ o ∈ os, o < t.length
theorem open_len {t : List Int} (ht : wholeB false t = true) : ∀ (os : List Nat), OpenB t os → os.length ≤ szS t os
  | [], _ => Nat.le_refl _
  | o :: os, h => by
    have ih := open_len ht os (fun x hx => h x (by simp [hx]))
    have h1 := (sz_le (whole_each ht (h o (by simp))) (by have := h o (by simp); omega)).1
    rw [szS_cons, List.length_cons]
    omega
/-- The patterns are good. -/
def GoodPs (f : Nat → Pv) (n : Nat) : Prop := ∀ k, k < n → (f k).zs.length ≤ 10 ∧ (f k).zs.getD 0 0 ≠ 0 ∧ wholeB true (f k).zs = true ∧ 1 ≤ (f k).c ∧ (f k).c ≤ 100
/-- One piece at a place: which places it leaves, if it is good there. -/
def pieceO (t : List Int) (f : Nat → Pv) (n : Nat) (x y : Int) (a : Nat) : Option (List Nat) := if x = (a : Int) ∧ 0 ≤ y ∧ y < (n : Int) then fitL t (f y.toNat).zs a else none
/-- The pieces from number i on, fu of them, held against the open places: the number behind the last one that is taken. -/
def goC (t : List Int) (f : Nat → Pv) (n : Nat) (z : List Int) : Nat → Nat → List Nat → Option Nat
  | _, i, [] => some i
  | 0, _, _ :: _ => none
  | fu + 1, i, a :: os => match pieceO t f n (z.getD (i * 2) 0) (z.getD (i * 2 + 1) 0) a with
    | none => none
    | some hs => goC t f n z fu (i + 1) (hs ++ os)
theorem goC_nil (t : List Int) (f : Nat → Pv) (n : Nat) (z : List Int) (fu i : Nat) : goC t f n z fu i [] = some i := by unfold goC; rfl
theorem goC_none {t : List Int} {f : Nat → Pv} {n : Nat} {z : List Int} {fu i a : Nat} {os : List Nat} (h : pieceO t f n (z.getD (i * 2) 0) (z.getD (i * 2 + 1) 0) a = none) : goC t f n z (fu + 1) i (a :: os) = none := by simp only [goC]; rw [h]
theorem goC_some {t : List Int} {f : Nat → Pv} {n : Nat} {z : List Int} {fu i a : Nat} {os hs : List Nat} (h : pieceO t f n (z.getD (i * 2) 0) (z.getD (i * 2 + 1) 0) a = some hs) : goC t f n z (fu + 1) i (a :: os) = goC t f n z fu (i + 1) (hs ++ os) := by simp only [goC]; rw [h]
theorem goC_le (t : List Int) (f : Nat → Pv) (n : Nat) (z : List Int) : ∀ (fu i : Nat) (os : List Nat) (j : Nat), goC t f n z fu i os = some j → i ≤ j ∧ j ≤ i + fu ∧ (os ≠ [] → i < j)
  | fu, i, [], j, h => by rw [goC_nil] at h; cases h; simp
  | 0, i, a :: os, j, h => by simp [goC] at h
  | fu + 1, i, a :: os, j, h => by
    cases q : pieceO t f n (z.getD (i * 2) 0) (z.getD (i * 2 + 1) 0) a with
    | none => rw [goC_none q] at h; cases h
    | some hs =>
      rw [goC_some q] at h
      have := goC_le t f n z fu (i + 1) (hs ++ os) j h
      omega
/-- Some open places, and others behind them. -/
theorem goC_app (t : List Int) (f : Nat → Pv) (n : Nat) (z : List Int) : ∀ (fu i : Nat) (hs os : List Nat), goC t f n z fu i (hs ++ os) = (goC t f n z fu i hs).bind fun j => goC t f n z (fu - (j - i)) j os
  | fu, i, [], os => by rw [goC_nil]; simp
  | 0, i, a :: hs, os => by simp [goC]
  | fu + 1, i, a :: hs, os => by
    cases q : pieceO t f n (z.getD (i * 2) 0) (z.getD (i * 2 + 1) 0) a with
    | none => rw [List.cons_append, goC_none q, goC_none q]; rfl
    | some h2 =>
      rw [List.cons_append, goC_some q, goC_some q, ← List.append_assoc, goC_app t f n z fu (i + 1) (h2 ++ hs) os]
      cases r : goC t f n z fu (i + 1) (h2 ++ hs) with
      | none => rfl
      | some j =>
        have := goC_le t f n z _ _ _ _ r
        simp only [Option.bind_some]
        rw [show fu - (j - (i + 1)) = fu + 1 - (j - i) by omega]
/-- What the specification counts: how many pieces are taken, 0 for none. -/
def covN (o : Option Nat) (i : Nat) : Nat := match o with
  | none => 0
  | some j => j - i
end Go.Proofs.Ytapbfoooflpejaa.math
