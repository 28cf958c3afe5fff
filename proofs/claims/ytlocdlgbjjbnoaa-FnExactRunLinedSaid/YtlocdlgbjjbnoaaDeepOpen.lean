/-
  Data that came in, deep.
-/
import Derived.Test.YtlocdlgbjjbnoaaDeep
import Derived.Deep.Slices
import Derived.WideShapes
import Derived.ProofKit
import Derived.OpenShut
namespace Go.Proofs.Ytlocdlgbjjbnoaa.deep
open Go.RowKit Go.WideShapes Go.Proofs.Ytlocdlgbjjbnoaa.ints
set_option linter.unusedVariables false

/-- Every length is one that a slice may have, every number one that int holds. -/
def Lens : Dv → Prop
  | .l len sz cs => len ≤ maxLen ∧ ∀ i, i < len * sz → Lens (cs i)
  | .n x => (Lit.int .i64 x).wf = true
  | .t _ => True
/-- A type of one cell has this shape. -/
def Matches (P : Program) : Sh → TypeId → Prop
  | .n, t => P.underlying t = some (.int .i64)
  | .t, t => P.underlying t = some .bool
  | .l sz e, t => ∃ et, P.underlying t = some (.slice et) ∧ P.cellsOf et = sz ∧ 0 < sz ∧ ((sz = 1 ∧ Matches P (e 0) et) ∨ ∃ fs : Array Field, P.underlying et = some (.struct fs) ∧ fs.size = sz ∧ ∀ (i : Nat) (f : Field), fs[i]? = some f → f.offset = i ∧ P.cellsOf f.type = 1 ∧ Matches P (e i) f.type)
section
variable {H : Type} {enc : TypeId × Value → H} {P : Program} {w : World} {base : Nat} {spare : Nat → Bool} {held : Bool}
theorem one_of_drop {cs : List Value} {j : Nat} {v : Value} (h : (cs.drop j).take 1 = [v]) (hj : j < cs.length) : cs[j]? = some v := by
  have : (cs.drop j).take 1 = [cs[j]] := by rw [List.drop_eq_getElem_cons hj]; rfl
  rw [this] at h
  simp at h
  rw [List.getElem?_eq_getElem hj, h]
theorem open_deep : ∀ {s : Sh} {t : TypeId} {fuel : Nat} {cs : List Value} {x : DataW H × List MemPlace}, Matches P s t → DataW.trod enc P w base spare held fuel t cs = some x → ∃ d v, cs = [v] ∧ Holds w false d v ∧ Fits s d ∧ Lens d
  | .n, t, fuel, cs, x, hm, h => by
    obtain ⟨z, e, _, hw⟩ := DataW.trod_int hm h
    exact ⟨.n z, _, e, rfl, trivial, hw⟩
  | .t, t, fuel, cs, x, hm, h => by
    obtain ⟨z, e, _⟩ := DataW.trod_bool hm h
    exact ⟨.t z, _, e, rfl, trivial, trivial⟩
  | .l sz e, t, fuel, cs, x, ⟨et, ht, hc, h0, hk⟩, h => by
    rcases Go.Deep.open_slice ht h with ⟨hn, _⟩ | ⟨a, len, cap, m, n, D, Pl, rfl, hb, hl, hm, hmm, rfl, hx⟩
    · exact ⟨.l 0 sz (fun _ => .n 0), _, hn, ⟨none, 0, rfl, (fun q => by cases q), Or.inl (by simp)⟩, ⟨rfl, fun i hi => by omega⟩, ⟨by unfold maxLen; omega, fun i hi => by omega⟩⟩
    have hlm : len ≤ m := by rw [hmm]; split <;> omega
    have cell : ∀ q, q < len * sz → ∃ d u, w.cell? (a.add q) = some u ∧ Holds w false d u ∧ Fits (e (q % sz)) d ∧ Lens d := by
      intro q hq
      have h1 : q / sz < len := Nat.div_lt_of_lt_mul (by rw [Nat.mul_comm]; exact hq)
      have h2 : q % sz < sz := Nat.mod_lt _ h0
      have eq : q / sz * sz + q % sz = q := by rw [Nat.mul_comm]; exact Nat.div_add_mod q sz
      obtain ⟨cs', q1, q2⟩ := hx (q / sz) (by omega)
      rw [hc] at q1
      obtain ⟨_, hlen, hcell⟩ := World.cells?_some q1
      have e1 := hcell (q % sz) h2
      rw [Go.Deep.add_add, eq] at e1
      rcases hk with ⟨rfl, hk⟩ | ⟨fs, hs, hn, hf⟩
      · obtain ⟨d, v, ev, hd, hfi, hle⟩ := open_deep hk q2
        have e0 : q % 1 = 0 := by omega
        rw [e0] at e1 ⊢
        rw [ev] at e1
        exact ⟨d, v, by simpa using e1, hd, hfi, hle⟩
      · obtain ⟨xs, k, _, _, _, hxl, hf'⟩ := DataW.trod_struct hs q2
        have hjs : q % sz < fs.size := by omega
        obtain ⟨o, c, u⟩ := hf (q % sz) fs[q % sz] (by simp [hjs])
        have g := hf' (q % sz) fs[q % sz] (by simp [hjs])
        rw [o, c, show xs[q % sz]? = some (xs[q % sz]'(by omega)) by simp [hxl, hjs]] at g
        obtain ⟨d, v, ev, hd, hfi, hle⟩ := open_deep u g
        rw [one_of_drop ev (by omega)] at e1
        exact ⟨d, v, e1, hd, hfi, hle⟩
    have ch : ∀ q, ∃ d, q < len * sz → ∃ u, w.cell? (a.add q) = some u ∧ Holds w false d u ∧ Fits (e (q % sz)) d ∧ Lens d := fun q => by
      by_cases hq : q < len * sz
      · obtain ⟨d, h⟩ := cell q hq; exact ⟨d, fun _ => h⟩
      · exact ⟨.n 0, fun r => (hq r).elim⟩
    refine ⟨.l len sz (fun q => Classical.choose (ch q)), _, rfl, ⟨some a, cap, rfl, (fun q => by cases q), ?_⟩, ⟨rfl, fun i hi => ?_⟩, ⟨by omega, fun i hi => ?_⟩⟩
    · by_cases hz : len * sz = 0
      · exact Or.inl hz
      right
      obtain ⟨b, off, spot⟩ := a
      obtain ⟨d0, u0, hc0, _⟩ := cell 0 (by omega)
      have hspot : spot = none := by simpa [Addr.add] using World.cell?_spot hc0
      subst hspot
      have hb : b < w.heap.size := by simpa [Addr.add] using World.block_lt_of_cell? w _ hc0
      refine ⟨b, off, rfl, hb, fun i hi => ?_⟩
      obtain ⟨u, h1, h2, _⟩ := Classical.choose_spec (ch i) hi
      have ha : (⟨b, off, none⟩ : Addr).add i = ⟨b, off + i, none⟩ := by
        unfold Addr.add
        split
        · rename_i h; subst h; rfl
        · rfl
      rw [ha] at h1
      exact ⟨u, h1, h2⟩
    · obtain ⟨u, _, _, h3, _⟩ := Classical.choose_spec (ch i) hi
      exact h3
    · obtain ⟨u, _, _, _, h4⟩ := Classical.choose_spec (ch i) hi
      exact h4
theorem open_list {sz : Nat} {e : Nat → Sh} {t : TypeId} {a : Option Addr} {len cap : Nat} {d : DataW H} {p : List MemPlace} (hm : Matches P (.l sz e) t) (h : DataW.Trod enc P w base spare held t (.slice a len cap) d p) : ∃ cs, Holds w false (.l len sz cs) (.slice a len cap) ∧ Fits (.l sz e) (.l len sz cs) ∧ Lens (.l len sz cs) := by
  obtain ⟨fuel, hf⟩ := h
  obtain ⟨d, v, ev, hd, hfi, hle⟩ := open_deep hm hf
  simp [Value.cells] at ev
  subst ev
  obtain ⟨len', cs, rfl, _⟩ := hfi.list
  obtain ⟨a', cap', e', _⟩ := hd.slice
  simp only [Value.slice.injEq] at e'
  obtain ⟨rfl, rfl, rfl⟩ := e'
  exact ⟨cs, hd, hfi, hle⟩
/-- A struct that came in: a row of cells. -/
theorem open_row {n : Nat} {e : Nat → Sh} {t : TypeId} {fs : Array Field} {r : Reach} {b0 : Nat} {v : Value} {d : DataW H} {p : List MemPlace} (hs : P.underlying t = some (.struct fs)) (hc : P.cellsOf t = n) (hn : fs.size = n) (hf : ∀ (i : Nat) (f : Field), fs[i]? = some f → f.offset = i ∧ P.cellsOf f.type = 1 ∧ Matches P (e i) f.type)
    (hv : Value.okWide P w r b0 t v) (h : DataW.Trod enc P w base spare held t v d p) : ∃ cs : Array Value, v = .agg cs ∧ cs.size = n ∧ ∀ i, i < n → ∃ dd u, cs[i]? = some u ∧ Holds w false dd u ∧ Fits (e i) dd ∧ Lens dd := by
  obtain ⟨cs, rfl, hsz⟩ := okWide_struct hs hv
  obtain ⟨fuel, hq⟩ := h
  obtain ⟨xs, k, _, _, _, hxl, hf'⟩ := DataW.trod_struct hs hq
  refine ⟨cs, rfl, hsz.trans hc, fun i hi => ?_⟩
  have hjs : i < fs.size := by omega
  obtain ⟨o, c, u⟩ := hf i fs[i] (by simp [hjs])
  have g := hf' i fs[i] (by simp [hjs])
  rw [o, c, show xs[i]? = some (xs[i]'(by omega)) by simp [hxl, hjs]] at g
  obtain ⟨dd, v, ev, hd, hfi, hle⟩ := open_deep u g
  have q := one_of_drop ev (by simp [Value.cells]; omega)
  exact ⟨dd, v, by simpa [Value.cells] using q, hd, hfi, hle⟩
end
end Go.Proofs.Ytlocdlgbjjbnoaa.deep
