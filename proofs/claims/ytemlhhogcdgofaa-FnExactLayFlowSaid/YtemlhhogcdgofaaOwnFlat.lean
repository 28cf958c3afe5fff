/-
  A list of structs of numbers that a call makes by appends, told flat.
-/
import Derived.Test.YtemlhhogcdgofaaProg
import Derived.Test.YtemlhhogcdgofaaInts
import Derived.OwnWalk
import Derived.Maps.AppendAt
import Derived.Below
namespace Go.Proofs.Ytemlhhogcdgofaa.ints
open Go.RowKit
set_option linter.unusedVariables false

/-- The value v owns n structs of sz numbers each, in a block from B on (or it is nil, and they are none). -/
def OwnF (w : World) (B : Nat) (T : TypeId) (sz : Nat) (v : Value) (n : Nat) (fl : List Int) : Prop := w.ownsRow B T sz v n (fl.map (Value.int .i64))
theorem ownF_nil (w : World) (B : Nat) (T : TypeId) (sz : Nat) : OwnF w B T sz (.slice none 0 0) 0 [] := World.ownsRow_nil _ _ _ _
theorem OwnF.mine {w : World} {B n sz : Nat} {T : TypeId} {v : Value} {fl : List Int} (h : OwnF w B T sz v n fl) : ∃ a cap, v = .slice a n cap ∧ Mine w B a fl := by
  have h0 := h
  have hlen := h.1
  rcases h.2 with ⟨rfl, hn⟩ | ⟨g, cap, cur, rfl, hg, hw, _, _, _, hcur⟩
  · refine ⟨none, 0, by rw [hn], Or.inl ?_⟩
    rw [hn] at hlen
    simpa using hlen
  · refine ⟨some ⟨g, 0, none⟩, cap, rfl, Or.inr ⟨g, 0, rfl, hg, (World.ownsRow.lt h0 g rfl).2, fun i hi => ⟨?_, ?_⟩⟩⟩
    · have := World.ownsRow.cellAt h0 i (by simp at hlen; omega)
      simp only [Nat.zero_add]
      rw [this]
      simp [List.getD, List.getElem?_eq_getElem hi]
    · have := World.ownsRow.frozenAt h0 i
      simpa using this
theorem OwnF.kept {w w' : World} {B n sz : Nat} {T : TypeId} {v : Value} {fl : List Int} (h : OwnF w B T sz v n fl) (hb : Below w.heap.size w w') : OwnF w' B T sz v n fl :=
  World.ownsRow.kept h (row := none) ⟨hb.os, hb.tape, hb.output, hb.size, fun i hi _ => hb.block i hi⟩ (by
    cases q : v.ownBlock with
    | none => exact Or.inl rfl
    | some g => exact Or.inr (by simp))
theorem OwnF.low {w : World} {B B' n sz : Nat} {T : TypeId} {v : Value} {fl : List Int} (h : OwnF w B T sz v n fl) (hB : B' ≤ B) : OwnF w B' T sz v n fl := by
  refine ⟨h.1, ?_⟩
  rcases h.2 with q | ⟨g, cap, cur, e, hg, r⟩
  · exact Or.inl q
  · exact Or.inr ⟨g, cap, cur, e, Nat.le_trans hB hg, r⟩
theorem OwnF.drew {w : World} {B n sz : Nat} {T : TypeId} {v : Value} {fl : List Int} (h : OwnF w B T sz v n fl) : OwnF w.drew B T sz v n fl := h.kept (Below.refl _ _).drew
theorem OwnF.alloc {w : World} {B n sz : Nat} {T : TypeId} {v : Value} {fl : List Int} (h : OwnF w B T sz v n fl) (o : Obj) : OwnF (w.alloc o) B T sz v n fl := World.ownsRow.alloc h o
theorem OwnF.put {w : World} {B n sz : Nat} {T : TypeId} {v : Value} {fl : List Int} (h : OwnF w B T sz v n fl) {a : Addr} (u : Value) (ha : a.block < B) : OwnF (w.setCell a u) B T sz v n fl := by
  refine ⟨h.1, ?_⟩
  rcases h.2 with q | ⟨g, cap, cur, e, hg, hw, r⟩
  · exact Or.inl q
  · exact Or.inr ⟨g, cap, cur, e, hg, (Below.heap_setCell _ _ _ _ (by omega)).trans hw, r⟩
/-- One more, behind an append. -/
theorem OwnF.snoc {W wr w1 : World} {B n sz : Nat} {T : TypeId} {v v' : Value} {fl zs : List Int} {o : Obj} (hown : OwnF wr B T sz v n fl) (hB : B ≤ wr.heap.size) (hb : Below B W wr)
    (hown' : w1.ownsRow B T sz v' (n + 1) (fl.map (Value.int .i64) ++ zs.map (Value.int .i64))) (hgrow : (wr.alloc o).grownBy w1 v.ownBlock) : OwnF w1 B T sz v' (n + 1) (fl ++ zs) ∧ Below B W w1 ∧ B ≤ w1.heap.size := by
  refine ⟨by unfold OwnF; rw [List.map_append]; exact hown', (hb.alloc hB o).grown hgrow (by simp; omega) (fun j hj => (World.ownsRow.lt hown j hj).1), ?_⟩
  have := hgrow.size
  simp at this
  omega
theorem news_cells (w : World) (zs : List Int) (t : TypeId) : ∀ (j : Nat) (u : Value), (zs.map (Value.int .i64))[j]? = some u → (w.alloc (.cells (zs.map (Value.int .i64)).toArray t)).cell? ((⟨w.heap.size, 0, none⟩ : Addr).add j) = some u := by
  intro j u hj
  have hlt : j < (zs.map (Value.int .i64)).length := (List.getElem?_eq_some_iff.1 hj).1
  have e : (⟨w.heap.size, 0, none⟩ : Addr).add j = ⟨w.heap.size, j, none⟩ := by unfold Addr.add; split <;> simp_all
  rw [e, World.cell?_alloc_at _ _ _ _ (by simp)]
  simp only [List.getElem?_toArray]
  exact hj
theorem news_one (zs : List Int) : ∀ u ∈ zs.map (Value.int .i64), u.oneCell' = true := by
  intro u hu
  obtain ⟨x, _, rfl⟩ := List.mem_map.1 hu
  rfl
theorem news_vals (w : World) (vs : List Value) (t : TypeId) : ∀ (j : Nat) (u : Value), vs[j]? = some u → (w.alloc (.cells vs.toArray t)).cell? ((⟨w.heap.size, 0, none⟩ : Addr).add j) = some u := by
  intro j u hj
  have hlt : j < vs.length := (List.getElem?_eq_some_iff.1 hj).1
  have e : (⟨w.heap.size, 0, none⟩ : Addr).add j = ⟨w.heap.size, j, none⟩ := by unfold Addr.add; split <;> simp_all
  rw [e, World.cell?_alloc_at _ _ _ _ (by simp)]
  simp only [List.getElem?_toArray]
  exact hj
theorem mineF_put {w : World} {B b i : Nat} {a : Option Addr} {zs : List Int} {v : Value} (h : Mine w B a zs) (hb : b < B) : Mine (w.setCell ⟨b, i, none⟩ v) B a zs := by
  rcases h with h | ⟨g, off, e, hB, hl, hc⟩
  · exact Or.inl h
  · exact Or.inr ⟨g, off, e, hB, by simpa [World.setCell] using hl, fun j hj => ⟨by rw [World.cell?_setCell_other _ _ _ _ (by simp; try omega)]; exact (hc j hj).1, by simpa using (hc j hj).2⟩⟩
theorem mineF_low {w : World} {B B' : Nat} {a : Option Addr} {zs : List Int} (h : Mine w B a zs) (hB : B' ≤ B) : Mine w B' a zs := by
  rcases h with h | ⟨b, off, e, h0, r⟩
  · exact Or.inl h
  · exact Or.inr ⟨b, off, e, Nat.le_trans hB h0, r⟩
end Go.Proofs.Ytemlhhogcdgofaa.ints
