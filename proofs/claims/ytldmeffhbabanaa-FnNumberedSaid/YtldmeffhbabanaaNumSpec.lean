/-
  What the specification's NumberCode answers.
-/
import Derived.Test.YtldmeffhbabanaaProg
import Derived.Test.YtldmeffhbabanaaNumAll
import Derived.Test.YtldmeffhbabanaaNumCode
import Derived.WalkKit
import Derived.WalkSpells
import Derived.Below
import Derived.Handy
import Derived.Deep.RegionWith
namespace Go.Proofs.Ytldmeffhbabanaa.nums
open Go.RowKit Go.Proofs.Ytldmeffhbabanaa.math Go.Proofs.Ytldmeffhbabanaa.ints Go.Proofs.Ytldmeffhbabanaa.walks
set_option linter.unusedVariables false

/-- The least name among the m highest that has the value v. -/
def selD (ns : List V) (v : V) : Nat → Option Nat
  | 0 => none
  | m + 1 => if ns.getD (7 - m) zV = v then some (7 - m) else selD ns v m
theorem sel_spec (ns : List V) (v : V) : ∀ m, m ≤ 8 → (∀ j, selD ns v m = some j → 8 - m ≤ j ∧ j < 8 ∧ ns.getD j zV = v ∧ ∀ i, 8 - m ≤ i → i < j → ns.getD i zV ≠ v) ∧ (selD ns v m = none → ∀ i, 8 - m ≤ i → i < 8 → ns.getD i zV ≠ v)
  | 0, _ => ⟨fun j h => by simp [selD] at h, fun _ i h1 h2 => by omega⟩
  | m + 1, hm => by
    obtain ⟨h1, h2⟩ := sel_spec ns v m (by omega)
    by_cases e : ns.getD (7 - m) zV = v
    · refine ⟨fun j h => ?_, fun h => ?_⟩
      · rw [selD, if_pos e] at h
        cases h
        exact ⟨by omega, by omega, e, fun i a b => by omega⟩
      · rw [selD, if_pos e] at h; cases h
    · refine ⟨fun j h => ?_, fun h i a b => ?_⟩
      · rw [selD, if_neg e] at h
        obtain ⟨k1, k2, k3, k4⟩ := h1 j h
        refine ⟨by omega, k2, k3, fun i a b => ?_⟩
        by_cases ei : i = 7 - m
        · rw [ei]; exact e
        · exact k4 i (by omega) b
      · rw [selD, if_neg e] at h
        by_cases ei : i = 7 - m
        · rw [ei]; exact e
        · exact h2 h i (by omega) b
theorem sel_all {ns : List V} {v : V} (hl : ns.length = 8) : selD ns v 8 = if v ∈ ns then some (idx ns v) else none := by
  obtain ⟨h1, h2⟩ := sel_spec ns v 8 (Nat.le_refl _)
  cases h : selD ns v 8 with
  | none =>
    have := h2 h
    rw [if_neg (not_mem_of (fun i hi => this i (by omega) (by omega)))]
  | some j =>
    obtain ⟨k1, k2, k3, k4⟩ := h1 j h
    have hj : j < ns.length := by omega
    rw [if_pos (k3 ▸ get_mem hj), idx_is hj k3 (fun i hi => k4 i (by omega) hi)]
def selI (ns : List V) (v : V) (o d a b n : Int) (m : Nat) : I5 := match selD ns v m with | some j => (2, d, (j : Int), 0, 0) | none => (o, d, a, b, n)
theorem selI_yes {ns : List V} {v : V} {o d a b n : Int} {m : Nat} (h : ns.getD (7 - m) zV = v) : selI ns v o d a b n (m + 1) = (2, d, ((7 - m : Nat) : Int), 0, 0) := by unfold selI; rw [selD, if_pos h]
theorem selI_no {ns : List V} {v : V} {o d a b n : Int} {m : Nat} (h : ns.getD (7 - m) zV ≠ v) : selI ns v o d a b n (m + 1) = selI ns v o d a b n m := by unfold selI; rw [selD, if_neg h]
theorem selI_d (ns : List V) (v : V) (o d a b n : Int) (m : Nat) : ∃ p0 p2 p3 p4, selI ns v o d a b n m = (p0, d, p2, p3, p4) := by
  unfold selI
  split
  · exact ⟨_, _, _, _, rfl⟩
  · exact ⟨_, _, _, _, rfl⟩
theorem selI_end {ns : List V} {v : V} {o d a b n : Int} (hl : ns.length = 8) (h1 : v.1 ≠ 1) : selI ns v o d a b n 8 = cheapV ns v o d a b n := by
  unfold selI cheapV
  rw [sel_all hl, if_neg h1]
  by_cases h : v ∈ ns
  · rw [if_pos h, if_pos h]
  · rw [if_neg h, if_neg h]
/-- A step in a block of its own. -/
def Box5 (w : World) (b : Nat) (i : I5) : Prop := w.rowIs b 61 5 (fun j => .int .i64 ((flat5 i).getD j 0))
theorem box_new (w : World) (o d a b n : Int) : Box5 (w.alloc (.cells #[.int .i64 o, .int .i64 d, .int .i64 a, .int .i64 b, .int .i64 n] 61)) w.heap.size (o, d, a, b, n) :=
  World.rowIs_alloc w _ _ _ (fun i hi => by
    match i, hi with
    | 0, _ => rfl
    | 1, _ => rfl
    | 2, _ => rfl
    | 3, _ => rfl
    | 4, _ => rfl
    | i + 5, h => simp at h; omega)
theorem box_put {w : World} {b : Nat} {i : I5} (h : Box5 w b i) (p0 p1 p2 p3 p4 : Int) : Box5 (((((w.setCell ⟨b, 0, none⟩ (.int .i64 p0)).setCell ⟨b, 1, none⟩ (.int .i64 p1)).setCell ⟨b, 2, none⟩ (.int .i64 p2)).setCell ⟨b, 3, none⟩ (.int .i64 p3)).setCell ⟨b, 4, none⟩ (.int .i64 p4)) b (p0, p1, p2, p3, p4) := by
  refine World.rowIs.congr (((((World.rowIs.set h 0 (.int .i64 p0)).set 1 (.int .i64 p1)).set 2 (.int .i64 p2)).set 3 (.int .i64 p3)).set 4 (.int .i64 p4)) ?_
  intro j hj
  match j, hj with
  | 0, _ => rfl
  | 1, _ => rfl
  | 2, _ => rfl
  | 3, _ => rfl
  | 4, _ => rfl
  | j + 5, h => omega
theorem box_kind {w : World} {b : Nat} {i : I5} (h : Box5 w b i) : ∃ c, w.heap[b]? = some (.cells c 61 (0, 0)) := by
  obtain ⟨c, h, _⟩ := h
  exact ⟨c, h⟩
theorem own_kind {w : World} {B size n g : Nat} {e : TypeId} {v : Value} {xs : List Value} (h : w.ownsRow B e size v n xs) (hg : v.ownBlock = some g) : ∃ c, w.heap[g]? = some (.cells c e (0, 0)) := by
  rcases h.2 with ⟨rfl, _⟩ | ⟨g', cap, cur, rfl, _, hw, _⟩
  · cases hg
  · simp [Value.ownBlock] at hg
    subst hg
    exact ⟨cur, hw⟩
/-- A block of steps is none of the state's. -/
theorem Seen.apart {w : World} {B sb gv gn cv cn g : Nat} {vs : List V} {ks : List Int} (h : Seen w B sb gv gn cv cn vs ks) (hg : ∃ c, w.heap[g]? = some (.cells c 61 (0, 0))) : g ≠ sb ∧ g ≠ gv ∧ g ≠ gn := by
  obtain ⟨c, hc⟩ := hg
  refine ⟨fun e => ?_, fun e => ?_, fun e => ?_⟩
  · rw [e, h.heap] at hc
    simp at hc
  · obtain ⟨c', hc'⟩ := own_kind h.vals (show _ = some gv from rfl)
    rw [e, hc'] at hc
    simp at hc
  · obtain ⟨c', hc'⟩ := own_kind h.nums (show _ = some gn from rfl)
    rw [e, hc'] at hc
    simp at hc
/-- The world w' is w but for the block b. -/
def But (w w' : World) (b : Nat) : Prop := w.grownBy w' (some b) ∧ w'.heap.size = w.heap.size
theorem But.refl (w : World) (b : Nat) : But w w b := ⟨⟨rfl, rfl, rfl, Nat.le_refl _, fun _ _ _ => rfl⟩, rfl⟩
theorem But.cell {w w' : World} {b g i : Nat} (h : But w w' b) (hl : g < w.heap.size) (hg : g ≠ b) : w'.cell? ⟨g, i, none⟩ = w.cell? ⟨g, i, none⟩ := World.cell?_of_block (a := ⟨g, i, none⟩) (h.1.block g hl (by simpa using hg))
theorem but_put {w w' : World} {b : Nat} (h : But w w' b) (p0 p1 p2 p3 p4 : Value) : But w (((((w'.setCell ⟨b, 0, none⟩ p0).setCell ⟨b, 1, none⟩ p1).setCell ⟨b, 2, none⟩ p2).setCell ⟨b, 3, none⟩ p3).setCell ⟨b, 4, none⟩ p4) b :=
  ⟨((((h.1.trans (set_grown _ b 0 p0)).trans (set_grown _ b 1 p1)).trans (set_grown _ b 2 p2)).trans (set_grown _ b 3 p3)).trans (set_grown _ b 4 p4), by simpa using h.2⟩
theorem Seen.but {w w' : World} {B sb gv gn cv cn b : Nat} {vs : List V} {ks : List Int} (h : Seen w B sb gv gn cv cn vs ks) (hb : But w w' b) (h0 : b ≠ sb) (h1 : b ≠ gv) (h2 : b ≠ gn) : Seen w' B sb gv gn cv cn vs ks :=
  ⟨(hb.1.block sb h.lt.1 (by simpa using Ne.symm h0)).trans h.heap, h.vals.kept hb.1 (Or.inr (by simpa [Value.ownBlock] using Ne.symm h1)), h.nums.kept hb.1 (Or.inr (by simpa [Value.ownBlock] using Ne.symm h2)), h.n0, h.n1, h.n2, h.low⟩
theorem below_but {W w w' : World} {B b : Nat} (h : Below B W w) (hb : But w w' b) (hB : B ≤ b) (hs : B ≤ w.heap.size) : Below B W w' := h.grown hb.1 hs (fun j hj => by cases hj; exact hB)
end Go.Proofs.Ytldmeffhbabanaa.nums
