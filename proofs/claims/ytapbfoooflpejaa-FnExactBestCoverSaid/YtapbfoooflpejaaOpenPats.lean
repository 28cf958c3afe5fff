/-
  Records of a list of ints and an int that came in.
-/
import Derived.Test.YtapbfoooflpejaaPats
import Derived.Deep.Slices
import Derived.ProofKit
import Derived.OpenShut
namespace Go.Proofs.Ytapbfoooflpejaa.walks
open Go.RowKit Go.WideShapes Go.ChangeShapes Go.Proofs.Ytapbfoooflpejaa.ints

section
variable {H : Type} {enc : TypeId × Value → H} {P : Program} {w : World} {base : Nat} {spare : Nat → Bool} {held : Bool}
theorem one_of_dropP {cs : List Value} {j : Nat} {v : Value} (h : (cs.drop j).take 1 = [v]) (hj : j < cs.length) : cs[j]? = some v := by
  have : (cs.drop j).take 1 = [cs[j]] := by rw [List.drop_eq_getElem_cons hj]; rfl
  rw [this] at h
  simp at h
  rw [List.getElem?_eq_getElem hj, h]
/-- What one record of it is. -/
def PatIs (w : World) (a : Addr) (i : Nat) (f : Pv) (A : Option Addr × Nat) : Prop := w.cell? (a.add (i * 2)) = some (.slice A.1 f.zs.length A.2) ∧ w.cell? (a.add (i * 2 + 1)) = some (.int .i64 f.c) ∧ Ints w A.1 f.zs ∧ f.zs.length ≤ maxLen
/-- A list of ints that came in. -/
theorem ints_in {t e : TypeId} {fuel : Nat} {cs : List Value} {x : DataW H × List MemPlace} (ht : P.underlying t = some (.slice e)) (he : P.underlying e = some (.int .i64)) (ce : P.cellsOf e = 1) (h : DataW.trod enc P w base spare held fuel t cs = some x) :
    ∃ a zs cap, cs = [.slice a zs.length cap] ∧ Ints w a zs ∧ zs.length ≤ maxLen := by
  rcases open_ints ht he ce h with ⟨hcs, _⟩ | ⟨x, l, c, zs, hcs, _, hl, hm, hz, hx, hcell, hwz⟩
  · exact ⟨none, [], 0, hcs, Or.inl rfl, Nat.zero_le _⟩
  · have hz' : l ≤ zs.length := by rw [hz]; split <;> omega
    have hlen : (zs.take l).length = l := by rw [List.length_take]; omega
    refine ⟨some x, zs.take l, c, by rw [hlen]; exact hcs, ?_, by rw [hlen]; omega⟩
    by_cases h0 : l = 0
    · subst h0; exact Or.inl (by simp)
    · have hc := hcell 0 (by omega)
      obtain ⟨b, off, spot⟩ := x
      have hspot : spot = none := by simpa [Addr.add] using World.cell?_spot hc
      subst hspot
      have hb : b < w.heap.size := by simpa [Addr.add] using World.block_lt_of_cell? w _ hc
      refine Or.inr ⟨b, off, rfl, hb, fun i hi => ?_⟩
      rw [hlen] at hi
      have ha : (⟨b, off, none⟩ : Addr).add i = ⟨b, off + i, none⟩ := by
        unfold Addr.add
        split
        · rename_i h; subst h; rfl
        · rfl
      rw [← ha, hcell i (by omega)]
      simp [List.getD, hi]
theorem open_pats {t e ei : TypeId} {f0 f1 : Field} {fuel : Nat} {cs : List Value} {x : DataW H × List MemPlace} (ht : P.underlying t = some (.slice e)) (he : P.underlying e = some (.struct #[f0, f1])) (ce : P.cellsOf e = 2)
    (hs : f0.offset = 0 ∧ P.cellsOf f0.type = 1 ∧ P.underlying f0.type = some (.slice ei)) (hc : f1.offset = 1 ∧ P.cellsOf f1.type = 1 ∧ P.underlying f1.type = some (.int .i64))
    (hei : P.underlying ei = some (.int .i64)) (cei : P.cellsOf ei = 1)
    (h : DataW.trod enc P w base spare held fuel t cs = some x) :
    cs = [.slice none 0 0] ∨ ∃ (a : Addr) (len cap m : Nat) (D E : Nat → DataW H), cs = [.slice (some a) len cap] ∧ len ≤ cap ∧ cap ≤ maxLen ∧ len ≤ m ∧ x.1 = .slice ((List.range len).map D) ((List.range (m - len)).map E) ∧
      ∀ i, i < m → ∃ (f : Pv) (A : Option Addr × Nat), PatIs w a i f A := by
  rcases Go.Deep.open_slice ht h with ⟨hn, _⟩ | ⟨a, len, cap, m, n, D, Pl, rfl, hb, hl, hm, hmm, rfl, hx⟩
  · exact Or.inl hn
  · refine Or.inr ⟨a, len, cap, m, D, fun j => D (len + j), rfl, hl, hm, by rw [hmm]; split <;> omega, rfl, fun i hi => ?_⟩
    obtain ⟨cs', q1, q2⟩ := hx i hi
    rw [ce] at q1
    obtain ⟨_, hlen, hcell⟩ := World.cells?_some q1
    obtain ⟨xs, k, _, _, _, hxl, hf'⟩ := DataW.trod_struct he q2
    have hx2 : xs.length = 2 := by simpa using hxl
    have g0 := hf' 0 f0 rfl
    have g1 := hf' 1 f1 rfl
    rw [hs.1, hs.2.1, show xs[0]? = some (xs[0]'(by omega)) by simp [hx2]] at g0
    rw [hc.1, hc.2.1, show xs[1]? = some (xs[1]'(by omega)) by simp [hx2]] at g1
    obtain ⟨z1, e1, _, _⟩ := DataW.trod_int hc.2.2 g1
    have hl2 : cs'.length = 2 := hlen
    have c0 := hcell 0 (by omega)
    have c1 := hcell 1 (by omega)
    rw [Go.Deep.add_add, one_of_dropP e1 (by omega)] at c1
    obtain ⟨a', zs, cap', hcs, hI, hmx⟩ := ints_in hs.2.2 hei cei g0
    rw [Go.Deep.add_add, one_of_dropP hcs (by omega)] at c0
    exact ⟨⟨zs, z1⟩, (a', cap'), c0, c1, hI, hmx⟩
/-- .. as a list of records. -/
theorem pats_of {a : Addr} {len m : Nat} (hl : len ≤ m) (h : ∀ i, i < m → ∃ (f : Pv) (A : Option Addr × Nat), PatIs w a i f A) : ∃ f : Nat → Pv, Pats w (some a) len f ∧ ∀ k, k < len → (f k).zs.length ≤ maxLen := by
  have hch : ∀ i, ∃ p : Pv × (Option Addr × Nat), i < m → PatIs w a i p.1 p.2 := fun i => by
    by_cases hi : i < m
    · obtain ⟨f, A, q⟩ := h i hi
      exact ⟨(f, A), fun _ => q⟩
    · exact ⟨(noP, (none, 0)), fun q => (hi q).elim⟩
  refine ⟨fun i => (Classical.choose (hch i)).1, ?_, fun k hk => (Classical.choose_spec (hch k) (by omega)).2.2.2⟩
  have hs : ∀ i, i < m → PatIs w a i (Classical.choose (hch i)).1 (Classical.choose (hch i)).2 := fun i hi => Classical.choose_spec (hch i) hi
  by_cases h0 : len = 0
  · exact Or.inl h0
  · obtain ⟨b, off, spot⟩ := a
    have hc := (hs 0 (by omega)).1
    have hspot : spot = none := by simpa [Addr.add] using World.cell?_spot hc
    subst hspot
    have hb : b < w.heap.size := by simpa [Addr.add] using World.block_lt_of_cell? w _ hc
    have ha : ∀ i, (⟨b, off, none⟩ : Addr).add i = ⟨b, off + i, none⟩ := fun i => by
      unfold Addr.add
      split
      · rename_i h; subst h; rfl
      · rfl
    refine Or.inr ⟨b, off, fun i => (Classical.choose (hch i)).2, rfl, hb, fun i hi => ?_, fun k hk => (hs k (by omega)).2.2.1⟩
    obtain ⟨c0, c1, _⟩ := hs (i / 2) (by omega)
    rw [ha] at c0 c1
    rcases (show i % 2 = 0 ∨ i % 2 = 1 by omega) with e | e
    · obtain ⟨k, rfl⟩ : ∃ k, i = k * 2 := ⟨i / 2, by omega⟩
      rw [cellP_s]
      rw [show (k * 2) / 2 = k by omega] at c0
      exact c0
    · obtain ⟨k, rfl⟩ : ∃ k, i = k * 2 + 1 := ⟨i / 2, by omega⟩
      rw [cellP_c]
      rw [show (k * 2 + 1) / 2 = k by omega] at c1
      exact c1
end
end Go.Proofs.Ytapbfoooflpejaa.walks
