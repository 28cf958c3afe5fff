/-
  The numbering's map: which values are in it, and each one's number; what the operations on it do.
-/
import Derived.Test.YtldmeffhbabanaaNumMath
import Derived.Below
namespace Go.Proofs.Ytldmeffhbabanaa.nums
open Go Go.RowKit
set_option linter.unusedVariables false

open Classical in
noncomputable def klV (v : V) : Lit := if h : okV v then (key_some v h).choose else .bool false
theorem key_of {v : V} (h : okV v) : keyOf Try.prog 49 (vV v) = some (klV v) := by
  unfold klV
  rw [dif_pos h]
  exact (key_some v h).choose_spec
theorem klV_inj {u v : V} (hu : okV u) (hv : okV v) (h : klV u = klV v) : u = v := by
  have h1 := key_of hu
  have h2 := key_of hv
  rw [h] at h1
  exact vV_inj (law.inj h1 h2)
theorem klV_key {v : V} (h : okV v) : WideAt.IsKeyLit (klV v) := @Go.Maps.Keyed.key _ _ law (vV v) (klV v) (key_of h)
theorem list4 {α : Type} {l : List α} (h : l.length = 4) : ∃ a b c d, l = [a, b, c, d] := by
  match l, h with
  | [a, b, c, d], _ => exact ⟨a, b, c, d, rfl⟩
theorem lit_int {n : Nat} {c : Value} {ls : List Lit} (h : Try.prog.keyLits (n + 1) 3 [c] = some ls) : ∃ a, c = .int .i64 a := by
  unfold Program.keyLits at h
  simp only [Try.underlying3] at h
  cases c <;> simp at h
  obtain ⟨⟨rfl, _⟩, _⟩ := h
  exact ⟨_, rfl⟩
theorem key_inv {key : Value} {kl : Lit} (h : keyOf Try.prog 49 key = some kl) : ∃ v, key = vV v := by
  unfold keyOf at h
  simp only [Try.underlying49, keyT, Bool.true_and] at h
  split at h
  · rename_i hf
    cases key
    case agg cs =>
      simp only [Value.formed, Try.underlying49, cellsT, beq_iff_eq] at hf
      obtain ⟨l⟩ := cs
      obtain ⟨c0, c1, c2, c3, rfl⟩ := list4 (by simpa using hf)
      obtain ⟨n, hn⟩ : ∃ n, Try.prog.types.size + 1 = n + 2 := by
        have : 49 < Try.prog.types.size := rowT
        exact ⟨Try.prog.types.size - 1, by omega⟩
      rw [hn] at h
      have hc : (Value.agg #[c0, c1, c2, c3]).cells.toList = [c0, c1, c2, c3] := rfl
      rw [show (Value.agg { toList := [c0, c1, c2, c3] }).cells.toList = [c0, c1, c2, c3] from rfl] at h
      unfold Program.keyLits at h
      simp only [Try.underlying49, cellsT] at h
      simp [cellsI] at h
      cases e0 : Try.prog.keyLits (n + 1) 3 [c0] with
      | none => simp [e0] at h
      | some l0 =>
      cases e1 : Try.prog.keyLits (n + 1) 3 [c1] with
      | none => simp [e0, e1] at h
      | some l1 =>
      cases e2 : Try.prog.keyLits (n + 1) 3 [c2] with
      | none => simp [e0, e1, e2] at h
      | some l2 =>
      cases e3 : Try.prog.keyLits (n + 1) 3 [c3] with
      | none => simp [e0, e1, e2, e3] at h
      | some l3 =>
      obtain ⟨a, rfl⟩ := lit_int e0
      obtain ⟨b, rfl⟩ := lit_int e1
      obtain ⟨c, rfl⟩ := lit_int e2
      obtain ⟨d, rfl⟩ := lit_int e3
      exact ⟨(a, b, c, d), rfl⟩
    all_goals simp [Value.formed, Try.underlying49] at hf
  · cases h

/-- The datum D has the values vs for its keys, and their numbers for its elements. -/
structure Rep (D : DataW Unit) (vs : List V) : Prop where
  has : ∀ v, okV v → Maps.has D (klV v) = decide (v ∈ vs)
  at' : ∀ v, v ∈ vs → ∀ z, D.atKey (klV v) z = .lit (.int .i64 (idx vs v : Int))
  size : Maps.size D = vs.length
  only : ∀ kl, Maps.has D kl = true → ∃ v, v ∈ vs ∧ kl = klV v
theorem rep_nil : Rep (.map []) [] := ⟨fun v h => by simp [Maps.has_eq], fun v h => by simp at h, rfl, fun kl h => by simp [Maps.has_eq] at h⟩
theorem Rep.put {D : DataW Unit} {vs : List V} {v : V} (h : Rep D vs) (hT : Maps.Tidy D) (ok : ∀ u ∈ vs, okV u) (hv : okV v) (hn : v ∉ vs) : Rep (D.put (klV v) (.lit (.int .i64 (vs.length : Int)))) (vs ++ [v]) := by
  have hM := hT.isMap
  have hk := klV_key hv
  have h0 : Maps.has D (klV v) = false := by rw [h.has v hv]; simp [hn]
  refine ⟨?_, ?_, ?_, ?_⟩
  · intro u hu
    by_cases e : u = v
    · subst e
      rw [Maps.has_put_same hM hk]; simp
    · rw [Maps.has_put_other (fun e' => e (klV_inj hu hv e')), h.has u hu]
      simp [e]
  · intro u hu z
    by_cases e : u = v
    · subst e
      rw [Maps.atKey_put_same hM hk, idx_new hn]
    · have hu' : u ∈ vs := by simpa [e] using hu
      rw [Maps.atKey_put_other (fun e' => e (klV_inj (ok u hu') hv e')), h.at' u hu', ← add_new hn, idx_add v hu']
  · rw [Maps.size_put hT, h0]
    simp [h.size]
  · intro kl hkl
    by_cases e : kl = klV v
    · exact ⟨v, by simp, e⟩
    · rw [Maps.has_put_other e] at hkl
      obtain ⟨u, hu, rfl⟩ := h.only kl hkl
      exact ⟨u, by simp [hu], rfl⟩
/-- The block mb of the world is a map that has the values vs for its keys, each with its number. -/
def MapIs (w : World) (mb : Nat) (vs : List V) : Prop := ∃ D : DataW Unit, w.ownsMap Try.prog 49 (plainElem Try.prog 3) mb vs.length D ∧ Rep D vs
theorem MapIs.lt {w : World} {mb : Nat} {vs : List V} (h : MapIs w mb vs) : mb < w.heap.size := by
  obtain ⟨D, h, _⟩ := h
  exact h.lt
theorem MapIs.of_block {w w' : World} {mb : Nat} {vs : List V} (h : MapIs w mb vs) (hb : w'.heap[mb]? = w.heap[mb]?) : MapIs w' mb vs := by
  obtain ⟨D, ⟨es, clock, h0, h1⟩, hR⟩ := h
  exact ⟨D, ⟨es, clock, hb.trans h0, h1⟩, hR⟩
theorem MapIs.isMap {w : World} {mb : Nat} {vs : List V} (h : MapIs w mb vs) : ∃ es clock, w.heap[mb]? = some (.map es clock) := by
  obtain ⟨D, ⟨es, clock, h0, _⟩, _⟩ := h
  exact ⟨es, clock, h0⟩
theorem map_made (w : World) : MapIs (w.alloc (.map #[] 0)) w.heap.size [] := ⟨.map [], World.ownsMap_made _ _ _ _, rep_nil⟩
theorem zeroI (w : World) : (zeroValue 3).run Try.prog w = .ok (.int .i64 0) w := by kernel_rfl
theorem MapIs.look {w : World} {mb : Nat} {vs : List V} {v : V} (h : MapIs w mb vs) (ok : okV v) (hv : v ∈ vs) : (Instr.lookup 86 (.map (some mb)) (vV v) false).run Try.prog w = .ok (.int .i64 (idx vs v : Int)) w := by
  obtain ⟨D, hO, hR⟩ := h
  obtain ⟨c, hrun, hat, _⟩ := hO.lookup_int law Try.underlying86 Try.underlying3 (zeroI w) (key_of ok)
  rw [hR.at' v hv] at hat
  cases hat
  exact hrun
theorem MapIs.look_ok {w : World} {mb : Nat} {vs : List V} {v : V} (h : MapIs w mb vs) (ok : okV v) : ∃ c, (Instr.lookup 86 (.map (some mb)) (vV v) true).run Try.prog w = .ok (.tuple #[.int .i64 c, .bool (decide (v ∈ vs))]) w := by
  obtain ⟨D, hO, hR⟩ := h
  obtain ⟨x, ps, hrun, hx⟩ := hO.look_ok law Try.underlying86 (zeroI w) (plainElem_int Try.underlying3 (show (Lit.int .i64 0).wf = true by decide)) (key_of ok)
  obtain ⟨c, rfl, _, _⟩ := plainElem_int_inv Try.underlying3 hx
  rw [hR.has v ok] at hrun
  exact ⟨c, hrun⟩
theorem MapIs.len {w : World} {mb : Nat} {vs : List V} (h : MapIs w mb vs) (ty : TypeId) : (Builtin.len_ #[86] ty #[.map (some mb)]).run Try.prog w = .ok (.int .i64 (vs.length : Int)) w := by
  obtain ⟨D, hO, hR⟩ := h
  rw [hO.len Try.underlying86 ty, hR.size]
theorem MapIs.store {w : World} {mb : Nat} {vs : List V} {v : V} (h : MapIs w mb vs) (ok : ∀ u ∈ vs, okV u) (hv : okV v) (hn : v ∉ vs) (hl : vs.length ≤ 65535) : ∃ w', (Instr.mapUpdate 86 (.map (some mb)) (vV v) (.int .i64 (vs.length : Int))).run Try.prog w = .ok () w' ∧ MapIs w' mb (vs ++ [v]) ∧ w.mapTurned w' mb := by
  obtain ⟨D, hO, hR⟩ := h
  obtain ⟨w', hrun, hO', hT⟩ := hO.store law Try.underlying86 (by unfold maxLen; omega) (key_of hv) (plainElem_int Try.underlying3 (wf_word (x := (vs.length : Int)) (by omega)))
  exact ⟨w', hrun, ⟨_, by simpa using hO', hR.put (hO.tidy law) ok hv hn⟩, hT⟩
end Go.Proofs.Ytldmeffhbabanaa.nums
