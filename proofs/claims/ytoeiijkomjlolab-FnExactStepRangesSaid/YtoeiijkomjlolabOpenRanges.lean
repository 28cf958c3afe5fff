/-
  A list of ranges that came in.
-/
import Derived.Test.YtoeiijkomjlolabRanges
import Derived.Deep.Slices
import Derived.ProofKit
import Derived.OpenShut
namespace Go.Proofs.Ytoeiijkomjlolab.walks
open Go.RowKit Go.Proofs.Ytoeiijkomjlolab.math

def boolOf : Option Value → Bool
  | some (.bool b) => b
  | _ => false
def numOf : Option Value → Int
  | some (.int _ n) => n
  | _ => 0
section
variable {H : Type} {enc : TypeId × Value → H} {P : Program} {w : World} {base : Nat} {spare : Nat → Bool} {held : Bool}
theorem one_at {cs : List Value} {j : Nat} {v : Value} (h : (cs.drop j).take 1 = [v]) (hj : j < cs.length) : cs[j]? = some v := by
  have : (cs.drop j).take 1 = [cs[j]] := by rw [List.drop_eq_getElem_cons hj]; rfl
  rw [this] at h
  simp at h
  rw [List.getElem?_eq_getElem hj, h]
theorem open_ranges {t e : TypeId} {f0 f1 f2 : Field} {fuel : Nat} {cs : List Value} {x : DataW H × List MemPlace} (ht : P.underlying t = some (.slice e)) (he : P.underlying e = some (.struct #[f0, f1, f2])) (ce : P.cellsOf e = 3)
    (h0 : f0.offset = 0 ∧ P.cellsOf f0.type = 1 ∧ P.underlying f0.type = some .bool) (h1 : f1.offset = 1 ∧ P.cellsOf f1.type = 1 ∧ P.underlying f1.type = some (.int .i64)) (h2 : f2.offset = 2 ∧ P.cellsOf f2.type = 1 ∧ P.underlying f2.type = some (.int .i64)) (h : DataW.trod enc P w base spare held fuel t cs = some x) :
    cs = [.slice none 0 0] ∨ ∃ (a : Addr) (len cap m : Nat) (D E : Nat → DataW H), cs = [.slice (some a) len cap] ∧ len ≤ cap ∧ cap ≤ maxLen ∧ len ≤ m ∧ x.1 = .slice ((List.range len).map D) ((List.range (m - len)).map E) ∧
      ∀ i, i < m → ∃ (u : Bool) (v n : Int), w.cell? (a.add (i * 3)) = some (.bool u) ∧ w.cell? (a.add (i * 3 + 1)) = some (.int .i64 v) ∧ w.cell? (a.add (i * 3 + 2)) = some (.int .i64 n) := by
  rcases Go.Deep.open_slice ht h with ⟨hn, _⟩ | ⟨a, len, cap, m, n, D, Pl, rfl, hb, hl, hm, hmm, rfl, hx⟩
  · exact Or.inl hn
  · refine Or.inr ⟨a, len, cap, m, D, fun j => D (len + j), rfl, hl, hm, by rw [hmm]; split <;> omega, rfl, fun i hi => ?_⟩
    obtain ⟨cs', q1, q2⟩ := hx i hi
    rw [ce] at q1
    obtain ⟨_, hlen, hcell⟩ := World.cells?_some q1
    obtain ⟨xs, k, _, _, _, hxl, hf'⟩ := DataW.trod_struct he q2
    have hx3 : xs.length = 3 := by simpa using hxl
    have g0 := hf' 0 f0 rfl
    have g1 := hf' 1 f1 rfl
    have g2 := hf' 2 f2 rfl
    rw [h0.1, h0.2.1, show xs[0]? = some (xs[0]'(by omega)) by simp [hx3]] at g0
    rw [h1.1, h1.2.1, show xs[1]? = some (xs[1]'(by omega)) by simp [hx3]] at g1
    rw [h2.1, h2.2.1, show xs[2]? = some (xs[2]'(by omega)) by simp [hx3]] at g2
    obtain ⟨u, e0, _⟩ := DataW.trod_bool h0.2.2 g0
    obtain ⟨v, e1, _, _⟩ := DataW.trod_int h1.2.2 g1
    obtain ⟨z, e2, _, _⟩ := DataW.trod_int h2.2.2 g2
    have hl3 : cs'.length = 3 := hlen
    have c0 := hcell 0 (by omega)
    have c1 := hcell 1 (by omega)
    have c2 := hcell 2 (by omega)
    rw [Go.Deep.add_add, one_at e0 (by omega)] at c0
    rw [Go.Deep.add_add, one_at e1 (by omega)] at c1
    rw [Go.Deep.add_add, one_at e2 (by omega)] at c2
    exact ⟨u, v, z, c0, c1, c2⟩
/-- .. as facts. -/
theorem ranges_of {a : Addr} {len m : Nat} (hl : len ≤ m) (h : ∀ i, i < m → ∃ (u : Bool) (v n : Int), w.cell? (a.add (i * 3)) = some (.bool u) ∧ w.cell? (a.add (i * 3 + 1)) = some (.int .i64 v) ∧ w.cell? (a.add (i * 3 + 2)) = some (.int .i64 n)) : ∃ g : Nat → Rv, Facts w (some a) len g := by
  refine ⟨fun i => ⟨boolOf (w.cell? (a.add (i * 3))), numOf (w.cell? (a.add (i * 3 + 1))), numOf (w.cell? (a.add (i * 3 + 2)))⟩, ?_⟩
  by_cases h0 : len = 0
  · exact Or.inl h0
  · obtain ⟨b, off, spot⟩ := a
    obtain ⟨u0, _, _, hc, _⟩ := h 0 (by omega)
    have hspot : spot = none := by simpa [Addr.add] using World.cell?_spot hc
    subst hspot
    have hb : b < w.heap.size := by simpa [Addr.add] using World.block_lt_of_cell? w _ hc
    have ha : ∀ i, (⟨b, off, none⟩ : Addr).add i = ⟨b, off + i, none⟩ := fun i => by
      unfold Addr.add
      split
      · rename_i h; subst h; rfl
      · rfl
    refine Or.inr ⟨b, off, rfl, hb, fun i hi => ?_⟩
    obtain ⟨u, v, n, c0, c1, c2⟩ := h (i / 3) (by omega)
    rw [ha] at c0 c1 c2
    rcases (show i % 3 = 0 ∨ i % 3 = 1 ∨ i % 3 = 2 by omega) with e | e | e
    · obtain ⟨k, rfl⟩ : ∃ k, i = k * 3 := ⟨i / 3, by omega⟩
      rw [cellG_0]
      rw [show k * 3 / 3 = k by omega] at c0
      show _ = some (Value.bool (boolOf (w.cell? ((⟨b, off, none⟩ : Addr).add (k * 3)))))
      rw [ha, c0]
      rfl
    · obtain ⟨k, rfl⟩ : ∃ k, i = k * 3 + 1 := ⟨i / 3, by omega⟩
      rw [cellG_1]
      rw [show (k * 3 + 1) / 3 = k by omega] at c1
      show _ = some (Value.int .i64 (numOf (w.cell? ((⟨b, off, none⟩ : Addr).add (k * 3 + 1)))))
      rw [ha, c1]
      rfl
    · obtain ⟨k, rfl⟩ : ∃ k, i = k * 3 + 2 := ⟨i / 3, by omega⟩
      rw [cellG_2]
      rw [show (k * 3 + 2) / 3 = k by omega] at c2
      show _ = some (Value.int .i64 (numOf (w.cell? ((⟨b, off, none⟩ : Addr).add (k * 3 + 2)))))
      rw [ha, c2]
      rfl
end
end Go.Proofs.Ytoeiijkomjlolab.walks
