/-
  Lists of lists of ints in memory, and the laws' helpers on them: eqIntSS, markIntSS, heldIntSS.
-/
import Derived.Test.YthjcgnldlhjjmabProg
import Derived.Test.YthjcgnldlhjjmabInts
import Derived.Test.YthjcgnldlhjjmabMarks
import Derived.WalkKit
import Derived.WalkSpells
import Derived.Below
import Derived.Handy
import Derived.Deep.RegionWith
namespace Go.Proofs.Ythjcgnldlhjjmab.ints
open Go.RowKit
set_option linter.unusedVariables false

/-- A list of lists. -/
def Lists (w : World) (a : Option Addr) (n : Nat) (Z : Nat → List Int) : Prop :=
  n = 0 ∨ ∃ b, a = some ⟨b, 0, none⟩ ∧ b < w.heap.size ∧ ∀ k, k < n → ∃ c d, w.cell? ⟨b, k, none⟩ = some (.slice c (Z k).length d) ∧ Ints w c (Z k)
theorem Lists.kept {w w' : World} {a : Option Addr} {n : Nat} {Z : Nat → List Int} (h : Lists w a n Z) (hb : Below w.heap.size w w') : Lists w' a n Z := by
  rcases h with h | ⟨b, e, hl, hc⟩
  · exact Or.inl h
  · refine Or.inr ⟨b, e, Nat.lt_of_lt_of_le hl hb.size, fun k hk => ?_⟩
    obtain ⟨c, d, q, hi⟩ := hc k hk
    exact ⟨c, d, (hb.cell (p := ⟨b, k, none⟩) hl).trans q, hi.kept hb⟩
theorem Lists.at {W wr : World} {a : Option Addr} {n k : Nat} {Z : Nat → List Int} (h : Lists W a n Z) (hb : Below W.heap.size W wr) (hk : k < n) : ∃ b c d, a = some ⟨b, 0, none⟩ ∧ wr.cell? ⟨b, k, none⟩ = some (.slice c (Z k).length d) ∧ Ints wr c (Z k) := by
  rcases h.kept hb with h | ⟨b, e, hl, hc⟩
  · omega
  · obtain ⟨c, d, q, hi⟩ := hc k hk
    exact ⟨b, c, d, e, q, hi⟩
/-- .. all of it in memory from B on, each list in a block of its own, no cell barred. -/
structure MineL (w : World) (B : Nat) (a : Option Addr) (n : Nat) (Z : Nat → List Int) (C : Nat → Option Addr × Nat) : Prop where
  top : n = 0 ∨ ∃ b, a = some ⟨b, 0, none⟩ ∧ B ≤ b ∧ b < w.heap.size ∧ (∀ k, k < n → w.cell? ⟨b, k, none⟩ = some (.slice (C k).1 (Z k).length (C k).2)) ∧ ∀ k, k < n → 0 < (Z k).length → ∀ b' o, (C k).1 = some ⟨b', o, none⟩ → b' ≠ b
  row : ∀ k, k < n → Mine w B (C k).1 (Z k)
  ap : ∀ j k, j < n → k < n → j ≠ k → 0 < (Z j).length → 0 < (Z k).length → Apart (C j).1 (C k).1
theorem MineL.lists {w : World} {B : Nat} {a : Option Addr} {n : Nat} {Z : Nat → List Int} {C : Nat → Option Addr × Nat} (h : MineL w B a n Z C) : Lists w a n Z := by
  rcases h.top with q | ⟨b, e, _, hl, hc, _⟩
  · exact Or.inl q
  · exact Or.inr ⟨b, e, hl, fun k hk => ⟨_, _, hc k hk, (h.row k hk).ints⟩⟩
theorem MineL.kept {w w' : World} {B : Nat} {a : Option Addr} {n : Nat} {Z : Nat → List Int} {C : Nat → Option Addr × Nat} (h : MineL w B a n Z C) (hb : Below w.heap.size w w') : MineL w' B a n Z C := by
  refine ⟨?_, fun k hk => (h.row k hk).kept hb, h.ap⟩
  rcases h.top with q | ⟨b, e, h0, hl, hc, hn⟩
  · exact Or.inl q
  · exact Or.inr ⟨b, e, h0, Nat.lt_of_lt_of_le hl hb.size, fun k hk => (hb.cell (p := ⟨b, k, none⟩) hl).trans (hc k hk), hn⟩
theorem MineL.congr {w : World} {B : Nat} {a : Option Addr} {n : Nat} {Z Z' : Nat → List Int} {C : Nat → Option Addr × Nat} (h : MineL w B a n Z C) (e : ∀ k, k < n → Z k = Z' k) : MineL w B a n Z' C := by
  refine ⟨?_, fun k hk => by rw [← e k hk]; exact h.row k hk, fun j k hj hk hne h1 h2 => h.ap j k hj hk hne (by rw [e j hj]; exact h1) (by rw [e k hk]; exact h2)⟩
  rcases h.top with q | ⟨b, e', h0, hl, hc, hn⟩
  · exact Or.inl q
  · exact Or.inr ⟨b, e', h0, hl, fun k hk => by rw [← e k hk]; exact hc k hk, fun k hk h1 => hn k hk (by rw [e k hk]; exact h1)⟩
/-- One of its lists has been marked. -/
theorem MineL.put {w w' : World} {B : Nat} {a : Option Addr} {n k : Nat} {Z : Nat → List Int} {C : Nat → Option Addr × Nat} {zs : List Int} (h : MineL w B a n Z C) (hk : k < n) (hz : zs.length = (Z k).length) (hm : Mine w' B (C k).1 zs) (ho : Only w w' B (C k).1 (Z k).length) : MineL w' B a n (fun j => if j = k then zs else Z j) C := by
  have hlen : ∀ j, (if j = k then zs else Z j).length = (Z j).length := fun j => by
    by_cases e : j = k
    · subst e; rw [if_pos rfl]; exact hz
    · rw [if_neg e]
  refine ⟨?_, fun j hj => ?_, fun i j hi hj hne h1 h2 => h.ap i j hi hj hne (by rw [← hlen i]; exact h1) (by rw [← hlen j]; exact h2)⟩
  · rcases h.top with q | ⟨b, e, h0, hl, hc, hn⟩
    · exact Or.inl q
    · refine Or.inr ⟨b, e, h0, by rw [ho.1]; exact hl, fun j hj => ?_, fun j hj h1 => hn j hj (by rw [← hlen j]; exact h1)⟩
      rw [hlen j, ← hc j hj]
      rcases ho.2 with q | ⟨l0, b', off, e', _, hg⟩
      · rw [q]
      · exact World.cell?_of_block (hg.block b hl (by simpa using fun q => hn k hk l0 b' off e' q.symm))
  · by_cases e : j = k
    · subst e; simp only [if_true]; exact hm
    · simp only [if_neg e]
      by_cases l0 : 0 < (Z j).length
      · rcases ho.2 with q | ⟨l1, _⟩
        · rw [q]; exact h.row j hj
        · exact ho.mine (h.row j hj) (h.ap k j hk hj (fun q => e q.symm) l1 l0)
      · exact Or.inl (List.length_eq_zero_iff.1 (by omega))
/-- How many numbers stand ahead of the k-th list. -/
def offs (l : Nat → Nat) : Nat → Nat
  | 0 => 0
  | k + 1 => offs l k + l k
theorem offs_le (l : Nat → Nat) (m : Nat) : ∀ n, (∀ k, k < n → l k ≤ m) → offs l n ≤ n * m
  | 0, _ => by simp [offs]
  | n + 1, h => by
    have h1 := offs_le l m n (fun k hk => h k (by omega))
    have h2 := h n (by omega)
    simp only [offs, Nat.add_mul, Nat.one_mul]
    omega
end Go.Proofs.Ythjcgnldlhjjmab.ints
