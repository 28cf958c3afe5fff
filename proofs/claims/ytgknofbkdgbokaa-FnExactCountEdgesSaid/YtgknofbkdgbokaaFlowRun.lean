/-
  A flow's run, as plain data.
-/
import Derived.Test.YtgknofbkdgbokaaFlowMath
import Derived.Test.YtgknofbkdgbokaaCodeMath
import Derived.Test.YtgknofbkdgbokaaRunMath
import Derived.WalkKit
namespace Go.Proofs.Ytgknofbkdgbokaa.math

/-- What has been told, the words, the blocks gone through, and the block that is next. -/
structure Rs where
  told : List Int
  ws : List Int
  path : List Int
  next : Int
def goR (f : Nat → Bv) (s : Rs) : Rs := ⟨s.told ++ toldTo (f s.next.toNat).zs s.ws (f s.next.toNat).len, runW (f s.next.toNat).zs s.ws (f s.next.toNat).len, s.path ++ [s.next], if (runW (f s.next.toNat).zs s.ws (f s.next.toNat).len).getD (f s.next.toNat).t.toNat 0 = 0 then (f s.next.toNat).el else (f s.next.toNat).th⟩
def flowTo (f : Nat → Bv) (ws : List Int) : Nat → Rs
  | 0 => ⟨[], ws, [], 0⟩
  | k + 1 => goR f (flowTo f ws k)
/-- k blocks are gone through, and none of them is the end. -/
def Alive (f : Nat → Bv) (ws : List Int) (k : Nat) : Prop := ∀ j, j < k → 0 ≤ (flowTo f ws j).next
/-- .. and there the run stands. -/
def Stands (f : Nat → Bv) (ws : List Int) (fuel k : Nat) : Prop := Alive f ws k ∧ k ≤ fuel ∧ ((flowTo f ws k).next < 0 ∨ k = fuel)
theorem stands_one {f : Nat → Bv} {ws : List Int} {fuel k k' : Nat} (h : Stands f ws fuel k) (h' : Stands f ws fuel k') : k = k' := by
  rcases Nat.lt_trichotomy k k' with q | q | q
  · have := h'.1 k q
    rcases h.2.2 with e | e
    · omega
    · have := h'.2.1; omega
  · exact q
  · have := h.1 k' q
    rcases h'.2.2 with e | e
    · omega
    · have := h.2.1; omega
theorem path_len (f : Nat → Bv) (ws : List Int) : ∀ k, (flowTo f ws k).path.length = k
  | 0 => rfl
  | k + 1 => by simp [flowTo, goR, path_len f ws k]
theorem block_out {b : Bv} {n : Nat} (h : blockB b n = true) : codeB b.zs b.len = true ∧ (0 ≤ b.t ∧ b.t ≤ 7) ∧ (-1 ≤ b.th ∧ b.th ≤ (n : Int) - 1) ∧ (-1 ≤ b.el ∧ b.el ≤ (n : Int) - 1) := by
  unfold blockB at h
  simp only [Bool.and_eq_true] at h
  exact ⟨h.1.1.1, inR_out h.1.1.2, inR_out h.1.2, inR_out h.2⟩
theorem flow_inv {f : Nat → Bv} {ws : List Int} {n : Nat} (hf : flowB f n = true) (hw : wordsB ws = true) : ∀ k, Alive f ws k → wordsB (flowTo f ws k).ws = true ∧ (-1 ≤ (flowTo f ws k).next ∧ (flowTo f ws k).next ≤ (n : Int) - 1) ∧ (flowTo f ws k).told.length ≤ 30 * k
  | 0, _ => ⟨hw, ⟨by simp [flowTo], by have := (flow_out hf).1; simp only [flowTo]; omega⟩, by simp [flowTo]⟩
  | k + 1, ha => by
    obtain ⟨i1, i2, i3⟩ := flow_inv hf hw k (fun j hj => ha j (by omega))
    have h0 := ha k (by omega)
    obtain ⟨hc, _, hth, hel⟩ := block_out ((flow_out hf).2 (flowTo f ws k).next.toNat (by omega))
    have h30 := (code_out hc).1
    have htl := told_len (f (flowTo f ws k).next.toNat).zs (flowTo f ws k).ws (f (flowTo f ws k).next.toNat).len
    refine ⟨run_words i1 (code_out hc).2 _ (Nat.le_refl _), ?_, ?_⟩
    · show -1 ≤ (goR f (flowTo f ws k)).next ∧ (goR f (flowTo f ws k)).next ≤ (n : Int) - 1
      unfold goR
      simp only
      split
      · exact hel
      · exact hth
    · show (goR f (flowTo f ws k)).told.length ≤ 30 * (k + 1)
      unfold goR
      simp only [List.length_append]
      omega
end Go.Proofs.Ytgknofbkdgbokaa.math
