/-
  The specification's state: the values so far and each name's number, in memory.
-/
import Derived.Test.YtldmeffhbabanaaProg
import Derived.Test.YtldmeffhbabanaaNumMath
import Derived.Test.YtldmeffhbabanaaOwnInts
import Derived.Test.YtldmeffhbabanaaNumSet
import Derived.WalkKit
import Derived.WalkSpells
import Derived.Below
import Derived.Handy
import Derived.Laws.OwnMore
import Derived.Deep.AppendLies
namespace Go.Proofs.Ytldmeffhbabanaa.nums
open Go.RowKit Go.Proofs.Ytldmeffhbabanaa.ints
set_option linter.unusedVariables false

def flatV (vs : List V) : List Value := vs.flatMap (fun v => [.int .i64 v.1, .int .i64 v.2.1, .int .i64 v.2.2.1, .int .i64 v.2.2.2])
theorem flat_len : ∀ vs : List V, (flatV vs).length = vs.length * 4
  | [] => rfl
  | v :: r => by
    have := flat_len r
    simp only [flatV, List.flatMap_cons, List.length_append, List.length_cons, List.length_nil] at this ⊢
    omega
theorem flat_snoc (vs : List V) (v : V) : flatV (vs ++ [v]) = flatV vs ++ [.int .i64 v.1, .int .i64 v.2.1, .int .i64 v.2.2.1, .int .i64 v.2.2.2] := by simp [flatV]
theorem flat_at : ∀ (vs : List V) (k i : Nat), k < vs.length → i < 4 → (flatV vs)[k * 4 + i]? = some (.int .i64 (fldV (vs.getD k zV) i))
  | [], k, i, h, _ => by simp at h
  | v :: r, 0, i, _, hi => by
    match i, hi with
    | 0, _ => rfl
    | 1, _ => rfl
    | 2, _ => rfl
    | 3, _ => rfl
  | v :: r, k + 1, i, h, hi => by
    have := flat_at r k i (by simpa using h) hi
    simp only [flatV, List.flatMap_cons] at this ⊢
    rw [List.getElem?_append_right (by simp; omega)]
    simp only [List.length_cons, List.length_nil]
    rw [show (k + 1) * 4 + i - (0 + 1 + 1 + 1 + 1) = k * 4 + i by omega]
    simpa using this
/-- The specification's state at block sb: values and names' numbers, each in a row of its own from block B on. -/
def St (w : World) (B sb : Nat) (vs : List V) (ks : List Int) : Prop := ∃ vv nv,
  w.heap[sb]? = some (.cells #[vv, nv] 68 (0, 0)) ∧ w.ownsRow B 49 4 vv vs.length (flatV vs) ∧ w.ownsRow B 3 1 nv ks.length (ks.map (Value.int .i64)) ∧
  vv.ownBlock ≠ some sb ∧ nv.ownBlock ≠ some sb ∧ (∀ g, vv.ownBlock = some g → nv.ownBlock ≠ some g) ∧ B ≤ sb
theorem St.lt {w : World} {B sb : Nat} {vs : List V} {ks : List Int} (h : St w B sb vs ks) : sb < w.heap.size := by
  obtain ⟨vv, nv, hb, _⟩ := h
  exact (Array.getElem?_eq_some_iff.1 hb).1
theorem grown_below {w w' : World} (h : Below w.heap.size w w') : ∀ k, k < w.heap.size → w'.heap[k]? = w.heap[k]? := fun k hk => h.block k hk
theorem own_below {w w' : World} {B size n : Nat} {e : TypeId} {v : Value} {xs : List Value} (h : w.ownsRow B e size v n xs) (hb : Below w.heap.size w w') : w'.ownsRow B e size v n xs := by
  refine ⟨h.1, ?_⟩
  rcases h.2 with k | ⟨g, cap, cur, e, hg, hw, r⟩
  · exact Or.inl k
  · exact Or.inr ⟨g, cap, cur, e, hg, (hb.block g (Array.getElem?_eq_some_iff.1 hw).1).trans hw, r⟩
theorem St.kept {w w' : World} {B sb : Nat} {vs : List V} {ks : List Int} (h : St w B sb vs ks) (hb : Below w.heap.size w w') : St w' B sb vs ks := by
  have hlt := h.lt
  obtain ⟨vv, nv, h0, h1, h2, r⟩ := h
  exact ⟨vv, nv, (hb.block sb hlt).trans h0, own_below h1 hb, own_below h2 hb, r⟩
theorem St.alloc {w : World} {B sb : Nat} {vs : List V} {ks : List Int} (h : St w B sb vs ks) (o : Obj) : St (w.alloc o) B sb vs ks := h.kept ((Below.refl _ _).alloc (Nat.le_refl _) o)
theorem St.drew {w : World} {B sb : Nat} {vs : List V} {ks : List Int} (h : St w B sb vs ks) : St w.drew B sb vs ks := h
/-- What a walk sees of it. -/
structure Seen (w : World) (B sb gv gn cv cn : Nat) (vs : List V) (ks : List Int) : Prop where
  heap : w.heap[sb]? = some (.cells #[.slice (some ⟨gv, 0, none⟩) vs.length cv, .slice (some ⟨gn, 0, none⟩) ks.length cn] 68 (0, 0))
  vals : w.ownsRow B 49 4 (.slice (some ⟨gv, 0, none⟩) vs.length cv) vs.length (flatV vs)
  nums : w.ownsRow B 3 1 (.slice (some ⟨gn, 0, none⟩) ks.length cn) ks.length (ks.map (Value.int .i64))
  n0 : gv ≠ sb
  n1 : gn ≠ sb
  n2 : gv ≠ gn
  low : B ≤ sb
theorem St.seen {w : World} {B sb : Nat} {vs : List V} {ks : List Int} (h : St w B sb vs ks) (hv : 0 < vs.length) (hk : 0 < ks.length) : ∃ gv gn cv cn, Seen w B sb gv gn cv cn vs ks := by
  obtain ⟨vv, nv, h0, h1, h2, h3, h4, h5, h6⟩ := h
  obtain ⟨gv, cv, rfl⟩ : ∃ gv cv, vv = .slice (some ⟨gv, 0, none⟩) vs.length cv := by
    rcases h1.2 with ⟨_, k⟩ | ⟨g, cap, cur, e, _⟩
    · omega
    · exact ⟨g, cap, e⟩
  obtain ⟨gn, cn, rfl⟩ : ∃ gn cn, nv = .slice (some ⟨gn, 0, none⟩) ks.length cn := by
    rcases h2.2 with ⟨_, k⟩ | ⟨g, cap, cur, e, _⟩
    · omega
    · exact ⟨g, cap, e⟩
  exact ⟨gv, gn, cv, cn, h0, h1, h2, fun e => h3 (by simp [Value.ownBlock, e]), fun e => h4 (by simp [Value.ownBlock, e]), fun e => h5 gv rfl (by simp [Value.ownBlock, e]), h6⟩
theorem Seen.st {w : World} {B sb gv gn cv cn : Nat} {vs : List V} {ks : List Int} (h : Seen w B sb gv gn cv cn vs ks) : St w B sb vs ks :=
  ⟨_, _, h.heap, h.vals, h.nums, by simpa [Value.ownBlock] using h.n0, by simpa [Value.ownBlock] using h.n1, fun g hg => by simp [Value.ownBlock] at hg ⊢; have := h.n2; omega, h.low⟩
theorem Seen.v {w : World} {B sb gv gn cv cn : Nat} {vs : List V} {ks : List Int} (h : Seen w B sb gv gn cv cn vs ks) : w.cell? ⟨sb, 0, none⟩ = some (.slice (some ⟨gv, 0, none⟩) vs.length cv) := by simp [World.cell?, h.heap]
theorem Seen.n {w : World} {B sb gv gn cv cn : Nat} {vs : List V} {ks : List Int} (h : Seen w B sb gv gn cv cn vs ks) : w.cell? ⟨sb, 1, none⟩ = some (.slice (some ⟨gn, 0, none⟩) ks.length cn) := by simp [World.cell?, h.heap]
theorem Seen.f {w : World} {B sb gv gn cv cn : Nat} {vs : List V} {ks : List Int} (h : Seen w B sb gv gn cv cn vs ks) (i : Nat) : w.frozen? ⟨sb, i, none⟩ = false := by simp [World.frozen?, h.heap]
theorem Seen.lt {w : World} {B sb gv gn cv cn : Nat} {vs : List V} {ks : List Int} (h : Seen w B sb gv gn cv cn vs ks) : sb < w.heap.size ∧ gv < w.heap.size ∧ gn < w.heap.size ∧ B ≤ gv ∧ B ≤ gn := by
  have h1 := h.vals.lt gv rfl
  have h2 := h.nums.lt gn rfl
  exact ⟨(Array.getElem?_eq_some_iff.1 h.heap).1, h1.2, h2.2, h1.1, h2.1⟩
theorem Seen.val {w : World} {B sb gv gn cv cn : Nat} {vs : List V} {ks : List Int} (h : Seen w B sb gv gn cv cn vs ks) {k i : Nat} (hk : k < vs.length) (hi : i < 4) : w.cell? ⟨gv, k * 4 + i, none⟩ = some (.int .i64 (fldV (vs.getD k zV) i)) := by
  rw [h.vals.cellAt (k * 4 + i) (by omega), flat_at vs k i hk hi]
theorem Seen.num {w : World} {B sb gv gn cv cn : Nat} {vs : List V} {ks : List Int} (h : Seen w B sb gv gn cv cn vs ks) {k : Nat} (hk : k < ks.length) : w.cell? ⟨gn, k, none⟩ = some (.int .i64 (ks.getD k 0)) := by
  rw [h.nums.cellAt k (by omega)]
  simp [List.getD, List.getElem?_eq_getElem hk]
/-- One more value. -/
theorem Seen.more {w w1 : World} {B sb gv gn cv cn gg cap : Nat} {vs : List V} {ks : List Int} {v : V} (h : Seen w B sb gv gn cv cn vs ks) (hown : w1.ownsRow B 49 4 (.slice (some ⟨gg, 0, none⟩) (vs.length + 1) cap) (vs.length + 1) (flatV vs ++ [.int .i64 v.1, .int .i64 v.2.1, .int .i64 v.2.2.1, .int .i64 v.2.2.2]))
    (hgrow : w.grownBy w1 (some gv)) (hat : gg = gv ∨ w.heap.size ≤ gg) : Seen (w1.setCell ⟨sb, 0, none⟩ (.slice (some ⟨gg, 0, none⟩) (vs.length + 1) cap)) B sb gg gn cap cn (vs ++ [v]) ks := by
  obtain ⟨l0, l1, l2, _, _⟩ := h.lt
  have n0 := h.n0
  have n1 := h.n1
  have n2 := h.n2
  have g0 : gg ≠ sb := by omega
  have g1 : gg ≠ gn := by omega
  have hb : w1.heap[sb]? = w.heap[sb]? := hgrow.block sb l0 (by simp; omega)
  have hset : w1.grownBy (w1.setCell ⟨sb, 0, none⟩ (.slice (some ⟨gg, 0, none⟩) (vs.length + 1) cap)) (some sb) := ⟨rfl, rfl, rfl, by simp, fun k _ hk => heap_setCell_other w1 ⟨sb, 0, none⟩ k _ (fun e => hk (by simp [e]))⟩
  refine ⟨?_, ?_, ?_, g0, n1, g1, h.low⟩
  · have := heap_setCell_same w1 sb 0 #[.slice (some ⟨gv, 0, none⟩) vs.length cv, .slice (some ⟨gn, 0, none⟩) ks.length cn] 68 (.slice (some ⟨gg, 0, none⟩) (vs.length + 1) cap) (hb.trans h.heap)
    simpa using this
  · have := hown.kept hset (Or.inr (by simpa [Value.ownBlock] using g0))
    simpa [flat_snoc] using this
  · exact (h.nums.kept hgrow (Or.inr (by simpa [Value.ownBlock] using Ne.symm n2))).kept hset (Or.inr (by simpa [Value.ownBlock] using n1))
/-- Another number for a name. -/
theorem Seen.put {w : World} {B sb gv gn cv cn j : Nat} {vs : List V} {ks : List Int} (h : Seen w B sb gv gn cv cn vs ks) (x : Int) : Seen (w.setCell ⟨gn, j, none⟩ (.int .i64 x)) B sb gv gn cv cn vs (ks.set j x) := by
  obtain ⟨h1, h2⟩ := h.nums.stored j (.int .i64 x)
  obtain ⟨l0, l1, l2, _, _⟩ := h.lt
  refine ⟨?_, h.vals.kept h2 (Or.inr (by simpa [Value.ownBlock] using h.n2)), ?_, h.n0, h.n1, h.n2, h.low⟩
  · rw [h2.block sb l0 (by have := h.n1; simp; omega), h.heap]
    simp
  · simpa [List.map_set] using h1
end Go.Proofs.Ytldmeffhbabanaa.nums
