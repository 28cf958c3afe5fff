/-
  A list of structs of ints that came in, read as one flat list of ints.
-/
import Derived.Test.YtfmgbalfabpogaaInts
import Derived.Deep.Slices
import Derived.ProofKit
import Derived.OpenShut
namespace Go.Proofs.Ytfmgbalfabpogaa.ints
open Go.RowKit

section
variable {H : Type} {enc : TypeId × Value → H} {P : Program} {w : World} {base : Nat} {spare : Nat → Bool} {held : Bool}
/-- Each cell of each element is an int. -/
theorem open_flat {t e : TypeId} {fs : Array Field} {N fuel : Nat} {cs : List Value} {x : DataW H × List MemPlace} (ht : P.underlying t = some (.slice e)) (he : P.underlying e = some (.struct fs)) (ce : P.cellsOf e = N) (hN : fs.size = N)
    (hf : ∀ (i : Nat) (f : Field), fs[i]? = some f → f.offset = i ∧ P.cellsOf f.type = 1 ∧ P.underlying f.type = some (.int .i64)) (h : DataW.trod enc P w base spare held fuel t cs = some x) :
    cs = [.slice none 0 0] ∨ ∃ (a : Addr) (len cap m : Nat) (D E : Nat → DataW H), cs = [.slice (some a) len cap] ∧ len ≤ cap ∧ cap ≤ maxLen ∧ len ≤ m ∧ x.1 = .slice ((List.range len).map D) ((List.range (m - len)).map E) ∧
      ∀ i, i < m → ∀ j, j < N → ∃ n : Int, w.cell? (a.add (i * N + j)) = some (.int .i64 n) := by
  rcases Go.Deep.open_slice ht h with ⟨h0, _⟩ | ⟨a, len, cap, m, n, D, Pl, rfl, hb, hl, hm, hmm, rfl, hx⟩
  · exact Or.inl h0
  · refine Or.inr ⟨a, len, cap, m, D, fun j => D (len + j), rfl, hl, hm, by rw [hmm]; split <;> omega, rfl, fun i hi j hj => ?_⟩
    obtain ⟨cs', h1, h2⟩ := hx i hi
    rw [ce] at h1
    obtain ⟨_, hlen, hcell⟩ := World.cells?_some h1
    obtain ⟨xs, k, _, _, _, hxl, hf'⟩ := DataW.trod_struct he h2
    have hjs : j < fs.size := by omega
    obtain ⟨o, c, u⟩ := hf j fs[j] (by simp [hjs])
    have g := hf' j fs[j] (by simp [hjs])
    rw [o, c] at g
    have hx' : xs[j]? = some (xs[j]'(by omega)) := by simp [hxl, hjs]
    rw [hx'] at g
    obtain ⟨v, hv, _, _⟩ := DataW.trod_int u g
    have e1 := hcell j hj
    have hj' : j < cs'.length := by omega
    have e2 : cs'[j]? = some (.int .i64 v) := by
      have : (cs'.drop j).take 1 = [cs'[j]] := by
        rw [List.drop_eq_getElem_cons hj']; rfl
      rw [this] at hv
      simp at hv
      rw [List.getElem?_eq_getElem hj', hv]
    rw [Go.Deep.add_add, e2] at e1
    exact ⟨v, e1⟩
/-- .. so the list is a flat list of ints. -/
theorem flat_of {a : Addr} {len m N : Nat} (hN : 0 < N) (hl : len ≤ m) (h : ∀ i, i < m → ∀ j, j < N → ∃ n : Int, w.cell? (a.add (i * N + j)) = some (.int .i64 n)) : ∃ zs : List Int, zs.length = len * N ∧ Ints w (some a) zs := by
  have hq : ∀ q, q < len * N → ∃ n : Int, w.cell? (a.add q) = some (.int .i64 n) := by
    intro q hq
    have h1 : q / N < len := Nat.div_lt_of_lt_mul (by rw [Nat.mul_comm]; exact hq)
    have h2 := h (q / N) (by omega) (q % N) (Nat.mod_lt _ hN)
    rw [Nat.mul_comm, Nat.div_add_mod] at h2
    exact h2
  refine ⟨(List.range (len * N)).map (fun q => match w.cell? (a.add q) with | some v => intOf v | none => 0), by simp, ?_⟩
  by_cases h0 : len * N = 0
  · left; rw [h0]; rfl
  · obtain ⟨b, off, spot⟩ := a
    obtain ⟨n0, hc⟩ := hq 0 (by omega)
    have hspot : spot = none := by simpa [Addr.add] using World.cell?_spot hc
    subst hspot
    have hb : b < w.heap.size := by simpa [Addr.add] using World.block_lt_of_cell? w _ hc
    refine Or.inr ⟨b, off, rfl, hb, fun i hi => ?_⟩
    simp at hi
    obtain ⟨n, hn⟩ := hq i hi
    have ha : (⟨b, off, none⟩ : Addr).add i = ⟨b, off + i, none⟩ := by
      unfold Addr.add
      split
      · rename_i h; subst h; rfl
      · rfl
    rw [ha] at hn
    rw [hn]
    simp [List.getD, hi, ha, hn, intOf]
end
end Go.Proofs.Ytfmgbalfabpogaa.ints
