/-
  A flow that came in.
-/
import Derived.Test.YtfmgbalfabpogaaFlow
import Derived.Test.YtfmgbalfabpogaaOpenFlat
import Derived.Deep.Slices
import Derived.ProofKit
import Derived.OpenShut
namespace Go.Proofs.Ytfmgbalfabpogaa.walks
open Go.RowKit Go.Proofs.Ytfmgbalfabpogaa.math Go.Proofs.Ytfmgbalfabpogaa.ints

section
variable {H : Type} {enc : TypeId × Value → H} {P : Program} {w : World} {base : Nat} {spare : Nat → Bool} {held : Bool}
theorem one_of_drop {cs : List Value} {j : Nat} {v : Value} (h : (cs.drop j).take 1 = [v]) (hj : j < cs.length) : cs[j]? = some v := by
  have : (cs.drop j).take 1 = [cs[j]] := by rw [List.drop_eq_getElem_cons hj]; rfl
  rw [this] at h
  simp at h
  rw [List.getElem?_eq_getElem hj, h]
/-- What one block of it is. -/
def BlockIs (w : World) (a : Addr) (i : Nat) (f : Bv) (A : Option Addr × Nat) : Prop := w.cell? (a.add (i * 4)) = some (.slice A.1 f.len A.2) ∧ w.cell? (a.add (i * 4 + 1)) = some (.int .i64 f.t) ∧ w.cell? (a.add (i * 4 + 2)) = some (.int .i64 f.th) ∧ w.cell? (a.add (i * 4 + 3)) = some (.int .i64 f.el) ∧ Ints w A.1 f.zs ∧ f.zs.length = f.len * 5 ∧ f.len ≤ maxLen
theorem open_flow {t e ei : TypeId} {f0 f1 f2 f3 : Field} {fs : Array Field} {fuel : Nat} {cs : List Value} {x : DataW H × List MemPlace} (ht : P.underlying t = some (.slice e)) (he : P.underlying e = some (.struct #[f0, f1, f2, f3])) (ce : P.cellsOf e = 4)
    (h0 : f0.offset = 0 ∧ P.cellsOf f0.type = 1 ∧ P.underlying f0.type = some (.slice ei)) (h1 : f1.offset = 1 ∧ P.cellsOf f1.type = 1 ∧ P.underlying f1.type = some (.int .i64)) (h2 : f2.offset = 2 ∧ P.cellsOf f2.type = 1 ∧ P.underlying f2.type = some (.int .i64)) (h3 : f3.offset = 3 ∧ P.cellsOf f3.type = 1 ∧ P.underlying f3.type = some (.int .i64))
    (hei : P.underlying ei = some (.struct fs)) (cei : P.cellsOf ei = 5) (hN : fs.size = 5) (hf : ∀ (i : Nat) (f : Field), fs[i]? = some f → f.offset = i ∧ P.cellsOf f.type = 1 ∧ P.underlying f.type = some (.int .i64))
    (h : DataW.trod enc P w base spare held fuel t cs = some x) :
    cs = [.slice none 0 0] ∨ ∃ (a : Addr) (len cap m : Nat) (D E : Nat → DataW H), cs = [.slice (some a) len cap] ∧ len ≤ cap ∧ cap ≤ maxLen ∧ len ≤ m ∧ x.1 = .slice ((List.range len).map D) ((List.range (m - len)).map E) ∧
      ∀ i, i < m → ∃ (f : Bv) (A : Option Addr × Nat), BlockIs w a i f A := by
  rcases Go.Deep.open_slice ht h with ⟨hn, _⟩ | ⟨a, len, cap, m, n, D, Pl, rfl, hb, hl, hm, hmm, rfl, hx⟩
  · exact Or.inl hn
  · refine Or.inr ⟨a, len, cap, m, D, fun j => D (len + j), rfl, hl, hm, by rw [hmm]; split <;> omega, rfl, fun i hi => ?_⟩
    obtain ⟨cs', q1, q2⟩ := hx i hi
    rw [ce] at q1
    obtain ⟨_, hlen, hcell⟩ := World.cells?_some q1
    obtain ⟨xs, k, _, _, _, hxl, hf'⟩ := DataW.trod_struct he q2
    have hx4 : xs.length = 4 := by simpa using hxl
    have g0 := hf' 0 f0 rfl
    have g1 := hf' 1 f1 rfl
    have g2 := hf' 2 f2 rfl
    have g3 := hf' 3 f3 rfl
    rw [h0.1, h0.2.1, show xs[0]? = some (xs[0]'(by omega)) by simp [hx4]] at g0
    rw [h1.1, h1.2.1, show xs[1]? = some (xs[1]'(by omega)) by simp [hx4]] at g1
    rw [h2.1, h2.2.1, show xs[2]? = some (xs[2]'(by omega)) by simp [hx4]] at g2
    rw [h3.1, h3.2.1, show xs[3]? = some (xs[3]'(by omega)) by simp [hx4]] at g3
    obtain ⟨z1, e1, _, _⟩ := DataW.trod_int h1.2.2 g1
    obtain ⟨z2, e2, _, _⟩ := DataW.trod_int h2.2.2 g2
    obtain ⟨z3, e3, _, _⟩ := DataW.trod_int h3.2.2 g3
    have hl4 : cs'.length = 4 := hlen
    have c0 := hcell 0 (by omega)
    have c1 := hcell 1 (by omega)
    have c2 := hcell 2 (by omega)
    have c3 := hcell 3 (by omega)
    rw [Go.Deep.add_add, one_of_drop e1 (by omega)] at c1
    rw [Go.Deep.add_add, one_of_drop e2 (by omega)] at c2
    rw [Go.Deep.add_add, one_of_drop e3 (by omega)] at c3
    rcases open_flat h0.2.2 hei cei hN hf g0 with hcs | ⟨b, l, c, m', D', E', hcs, hl', hm', hlm, _, hcc⟩
    · rw [Go.Deep.add_add, one_of_drop hcs (by omega)] at c0
      exact ⟨⟨[], 0, z1, z2, z3⟩, (none, 0), c0, c1, c2, c3, Or.inl rfl, rfl, Nat.zero_le _⟩
    · rw [Go.Deep.add_add, one_of_drop hcs (by omega)] at c0
      obtain ⟨zs, hz, hI⟩ := flat_of (by decide) hlm hcc
      exact ⟨⟨zs, l, z1, z2, z3⟩, (some b, c), c0, c1, c2, c3, hI, hz, by show l ≤ maxLen; omega⟩
/-- .. as a flow. -/
theorem flow_of {a : Addr} {len m : Nat} (hl : len ≤ m) (h : ∀ i, i < m → ∃ (f : Bv) (A : Option Addr × Nat), BlockIs w a i f A) : ∃ f : Nat → Bv, Flow w (some a) len f ∧ ∀ k, k < len → (f k).len ≤ maxLen := by
  have hch : ∀ i, ∃ p : Bv × (Option Addr × Nat), i < m → BlockIs w a i p.1 p.2 := fun i => by
    by_cases hi : i < m
    · obtain ⟨f, A, q⟩ := h i hi
      exact ⟨(f, A), fun _ => q⟩
    · exact ⟨(noB, (none, 0)), fun q => (hi q).elim⟩
  refine ⟨fun i => (Classical.choose (hch i)).1, ?_, fun k hk => (Classical.choose_spec (hch k) (by omega)).2.2.2.2.2.2⟩
  have hs : ∀ i, i < m → BlockIs w a i (Classical.choose (hch i)).1 (Classical.choose (hch i)).2 := fun i hi => Classical.choose_spec (hch i) hi
  by_cases h0 : len = 0
  · exact Or.inl h0
  · obtain ⟨b, off, spot⟩ := a
    have hc := (hs 0 (by omega)).1
    have hspot : spot = none := by simpa [Addr.add] using World.cell?_spot hc
    subst hspot
    have hb : b < w.heap.size := by simpa [Addr.add] using World.block_lt_of_cell? w _ hc
    have ha : ∀ i, (⟨b, off, none⟩ : Addr).add i = ⟨b, off + i, none⟩ := fun i => by
      unfold Addr.add
      split
      · rename_i h; subst h; rfl
      · rfl
    refine Or.inr ⟨b, off, fun i => (Classical.choose (hch i)).2, rfl, hb, fun i hi => ?_, fun k hk => ⟨(hs k (by omega)).2.2.2.2.1, (hs k (by omega)).2.2.2.2.2.1⟩⟩
    obtain ⟨c0, c1, c2, c3, _⟩ := hs (i / 4) (by omega)
    rw [ha] at c0 c1 c2 c3
    rcases (show i % 4 = 0 ∨ i % 4 = 1 ∨ i % 4 = 2 ∨ i % 4 = 3 by omega) with e | e | e | e
    · obtain ⟨k, rfl⟩ : ∃ k, i = k * 4 := ⟨i / 4, by omega⟩
      rw [cellB_0]
      rw [show k * 4 / 4 = k by omega] at c0
      exact c0
    · obtain ⟨k, rfl⟩ : ∃ k, i = k * 4 + 1 := ⟨i / 4, by omega⟩
      rw [cellB_1]
      rw [show (k * 4 + 1) / 4 = k by omega] at c1
      exact c1
    · obtain ⟨k, rfl⟩ : ∃ k, i = k * 4 + 2 := ⟨i / 4, by omega⟩
      rw [cellB_2]
      rw [show (k * 4 + 2) / 4 = k by omega] at c2
      exact c2
    · obtain ⟨k, rfl⟩ : ∃ k, i = k * 4 + 3 := ⟨i / 4, by omega⟩
      rw [cellB_3]
      rw [show (k * 4 + 3) / 4 = k by omega] at c3
      exact c3
end
end Go.Proofs.Ytfmgbalfabpogaa.walks
