/-
  What the laws' own helpers on lists of ints do, at every list: they copy it, hold it against another one, number it, and hold it against these numbers.
-/
import Derived.Test.YtfejfbafoaiidaaProg
import Derived.WalkKit
import Derived.WalkSpells
import Derived.Below
import Derived.Handy
import Derived.Deep.OwnRows
namespace Go.Proofs.Ytfejfbafoaiidaa.ints
open Go.RowKit

/-- The list at an address holds the numbers zs. -/
def Ints (w : World) (a : Option Addr) (zs : List Int) : Prop :=
  zs = [] ∨ ∃ b off, a = some ⟨b, off, none⟩ ∧ b < w.heap.size ∧ ∀ i, i < zs.length → w.cell? ⟨b, off + i, none⟩ = some (.int .i64 (zs.getD i 0))
theorem Ints.kept {w w' : World} {a : Option Addr} {zs : List Int} (h : Ints w a zs) (hb : Below w.heap.size w w') : Ints w' a zs := by
  rcases h with h | ⟨b, off, rfl, hlt, hc⟩
  · exact Or.inl h
  · exact Or.inr ⟨b, off, rfl, Nat.lt_of_lt_of_le hlt hb.size, fun i hi => (hb.cell (p := ⟨b, off + i, none⟩) hlt).trans (hc i hi)⟩
/-- .. and no cell of it is barred. -/
def Mine (w : World) (B : Nat) (a : Option Addr) (zs : List Int) : Prop :=
  zs = [] ∨ ∃ b off, a = some ⟨b, off, none⟩ ∧ B ≤ b ∧ b < w.heap.size ∧ ∀ i, i < zs.length → w.cell? ⟨b, off + i, none⟩ = some (.int .i64 (zs.getD i 0)) ∧ w.frozen? ⟨b, off + i, none⟩ = false
theorem Mine.ints {w : World} {B : Nat} {a : Option Addr} {zs : List Int} (h : Mine w B a zs) : Ints w a zs := by
  rcases h with h | ⟨b, off, rfl, _, hlt, hc⟩
  · exact Or.inl h
  · exact Or.inr ⟨b, off, rfl, hlt, fun i hi => (hc i hi).1⟩
theorem Mine.kept {w w' : World} {B : Nat} {a : Option Addr} {zs : List Int} (h : Mine w B a zs) (hb : Below w.heap.size w w') : Mine w' B a zs := by
  rcases h with h | ⟨b, off, rfl, h0, hlt, hc⟩
  · exact Or.inl h
  · exact Or.inr ⟨b, off, rfl, h0, Nat.lt_of_lt_of_le hlt hb.size, fun i hi => ⟨(hb.cell (p := ⟨b, off + i, none⟩) hlt).trans (hc i hi).1, (hb.frozen (p := ⟨b, off + i, none⟩) hlt).trans (hc i hi).2⟩⟩
theorem row_info : (Try.prog.info? 3).map (fun i => (i.zero, i.size, i.bytes)) = some (some (.int .i64 0), 1, 8) := by kernel_rfl

theorem mine_row {w : World} {b n : Nat} {zs : List Int} (h : w.rowIs b 3 n (fun i => .int .i64 (zs.getD i 0))) (hz : zs.length = n) {B : Nat} (hB : B ≤ b) : Mine w B (some ⟨b, 0, none⟩) zs :=
  Or.inr ⟨b, 0, rfl, hB, h.lt, fun i hi => ⟨by simpa using h.cell (i := i) (by omega), by simpa using h.frozen i⟩⟩

/-- One number of a list, in a world that has only grown. -/
theorem Ints.at {W wr : World} {a : Option Addr} {zs : List Int} (h : Ints W a zs) (hB : Below W.heap.size W wr) {k : Nat} (hk : k < zs.length) : ∃ b off, a = some ⟨b, off, none⟩ ∧ wr.cell? ⟨b, off + k, none⟩ = some (.int .i64 (zs.getD k 0)) := by
  rcases h with h | ⟨b, off, rfl, hb, hc⟩
  · rw [h] at hk; simp at hk
  · exact ⟨b, off, rfl, (hB.cell (p := ⟨b, off + k, none⟩) hb).trans (hc k hk)⟩


end Go.Proofs.Ytfejfbafoaiidaa.ints
