/-
  The program's maps from numbers to boxes, and its sets of numbers, in memory: as functions.
-/
import Derived.Test.YthomonidconmcaaProg
import Derived.Test.YthomonidconmcaaInts
import Derived.Maps.OwnSet
import Derived.Maps.OwnOps
import Derived.Maps.Ext
import Derived.Maps.RangeWalk
import Derived.WalkKit
import Derived.WalkSpells
import Derived.Below
import Derived.Handy
namespace Go.Proofs.Ythomonidconmcaa.walks
open Go.RowKit Go.Proofs.Ythomonidconmcaa.ints
set_option linter.unusedVariables false

theorem keyedZ : Go.Maps.Keyed Try.prog 3 := Go.Maps.int_keyed Try.underlying3
/-- A box's pointer, or none. -/
def ptrV : Option Nat → Value
  | none => .pointer none
  | some g => .pointer (some ⟨g, 0, none⟩)
def ptrL : Option Nat → Lit
  | none => .int .i64 (-1)
  | some g => .int .i64 (g : Int)
theorem ptrV_inj {a b : Option Nat} (h : ptrV a = ptrV b) : a = b := by
  cases a <;> cases b <;> simp [ptrV] at h
  · rfl
  · rw [h]
open Classical in
/-- How an element that is a box's pointer reads. -/
noncomputable def ptrElem (v : Value) : Option (DataW Unit × List MemPlace) := if h : ∃ o, v = ptrV o then some (.lit (ptrL h.choose), []) else none
theorem ptrElem_mk (o : Option Nat) : ptrElem (ptrV o) = some (.lit (ptrL o), []) := by
  have h : ∃ o', ptrV o = ptrV o' := ⟨o, rfl⟩
  unfold ptrElem
  rw [dif_pos h]
  have e := ptrV_inj h.choose_spec
  rw [← e]
theorem ptrElem_inv {v : Value} {z : DataW Unit × List MemPlace} (h : ptrElem v = some z) : ∃ o, v = ptrV o ∧ z = (.lit (ptrL o), []) := by
  unfold ptrElem at h
  split at h
  · rename_i q
    cases h
    exact ⟨_, q.choose_spec, rfl⟩
  · cases h
theorem ptrL_inj {a b : Option Nat} (h : (DataW.lit (ptrL a) : DataW Unit) = .lit (ptrL b)) : a = b := by
  have e := DataW.lit.inj h
  match a, b, e with
  | none, none, _ => rfl
  | none, some g, e => have := (Lit.int.inj e).2; omega
  | some g, none, e => have := (Lit.int.inj e).2; omega
  | some g, some g', e => have := (Lit.int.inj e).2; rw [show g = g' by omega]
/-- A number that int holds. -/
def okZ (x : Int) : Prop := (Lit.int .i64 x).wf = true
theorem okZ_of {x : Int} (h0 : -9223372036854775808 ≤ x) (h1 : x ≤ 9223372036854775807) : okZ x := WalkArith.wf_i64 (by omega)
theorem keyZ {x : Int} (h : okZ x) : keyOf Try.prog 3 (.int .i64 x) = some (.int .i64 x) := Go.Maps.keyOf_int_mk Try.underlying3 h
theorem klZ {x : Int} (h : okZ x) : WideAt.IsKeyLit (.int .i64 x) := @Go.Maps.Keyed.key _ _ keyedZ (.int .i64 x) (.int .i64 x) (keyZ h)
/-- Block mb is a map of at most n boxes: the number x leads to the box f x. -/
structure PtrRep (D : DataW Unit) (f : Int → Option Nat) : Prop where
  has : ∀ x, okZ x → Maps.has D (.int .i64 x) = (f x).isSome
  get : ∀ x, okZ x → ∀ g, f x = some g → ∀ z, D.atKey (.int .i64 x) z = .lit (ptrL (some g))
def PtrIs (w : World) (mb n : Nat) (f : Int → Option Nat) : Prop := ∃ D : DataW Unit, w.ownsMap Try.prog 3 ptrElem mb n D ∧ PtrRep D f
theorem PtrIs.lt {w : World} {mb n : Nat} {f : Int → Option Nat} (h : PtrIs w mb n f) : mb < w.heap.size := let ⟨D, h, _⟩ := h; h.lt
theorem PtrIs.of_block {w w' : World} {mb n : Nat} {f : Int → Option Nat} (h : PtrIs w mb n f) (hb : w'.heap[mb]? = w.heap[mb]?) : PtrIs w' mb n f := by
  obtain ⟨D, ⟨es, clock, h0, h1⟩, hR⟩ := h
  exact ⟨D, ⟨es, clock, hb.trans h0, h1⟩, hR⟩
theorem PtrIs.isMap {w : World} {mb n : Nat} {f : Int → Option Nat} (h : PtrIs w mb n f) : ∃ es clock, w.heap[mb]? = some (.map es clock) := by
  obtain ⟨D, ⟨es, clock, h0, _⟩, _⟩ := h
  exact ⟨es, clock, h0⟩
theorem ptr_made (w : World) : PtrIs (w.alloc (.map #[] 0)) w.heap.size 0 (fun _ => none) := ⟨.map [], World.ownsMap_made _ _ _ _, ⟨fun x _ => rfl, fun x _ g h => by cases h⟩⟩
theorem PtrRep.put {D : DataW Unit} {f : Int → Option Nat} (h : PtrRep D f) (hM : Maps.IsMap D) {x : Int} (hx : okZ x) (g : Nat) : PtrRep (D.put (.int .i64 x) (.lit (ptrL (some g)))) (fun y => if y = x then some g else f y) := by
  have hk := klZ hx
  refine ⟨fun y hy => ?_, fun y hy g' e z => ?_⟩
  · by_cases q : y = x
    · subst q
      rw [Maps.has_put_same hM hk, if_pos rfl]; rfl
    · rw [Maps.has_put_other (fun e => q (by cases e; rfl)), h.has y hy, if_neg q]
  · by_cases q : y = x
    · subst q
      rw [if_pos rfl] at e
      cases e
      exact Maps.atKey_put_same hM hk _ _
    · rw [if_neg q] at e
      rw [Maps.atKey_put_other (fun e => q (by cases e; rfl))]
      exact h.get y hy g' e z
theorem zeroP (w : World) : (zeroValue 72).run Try.prog w = .ok (ptrV none) w := by kernel_rfl
/-- 'm[x]' with 'ok', and without. -/
theorem PtrIs.look_ok {w : World} {mb n : Nat} {f : Int → Option Nat} (h : PtrIs w mb n f) {x : Int} (hx : okZ x) : (Instr.lookup 66 (.map (some mb)) (.int .i64 x) true).run Try.prog w = .ok (.tuple #[ptrV (f x), .bool (f x).isSome]) w := by
  obtain ⟨D, hO, hR⟩ := h
  obtain ⟨v, ps, hrun, hv⟩ := hO.look_ok keyedZ Try.underlying66 (zeroP w) (ptrElem_mk none) (keyZ hx)
  obtain ⟨o, rfl, e⟩ := ptrElem_inv hv
  rw [hR.has x hx] at hrun
  cases q : f x with
  | none =>
    rw [Maps.atKey_of_not_has (by rw [hR.has x hx, q]; rfl)] at e
    rw [show o = none from (ptrL_inj (Prod.mk.inj e).1).symm, q] at hrun
    exact hrun
  | some g =>
    rw [hR.get x hx g q] at e
    rw [show o = some g from (ptrL_inj (Prod.mk.inj e).1).symm, q] at hrun
    exact hrun
theorem PtrIs.look {w : World} {mb n : Nat} {f : Int → Option Nat} (h : PtrIs w mb n f) {x : Int} (hx : okZ x) : (Instr.lookup 66 (.map (some mb)) (.int .i64 x) false).run Try.prog w = .ok (ptrV (f x)) w := by
  obtain ⟨D, hO, hR⟩ := h
  obtain ⟨v, ps, hrun, hv⟩ := hO.lookup keyedZ Try.underlying66 (zeroP w) (ptrElem_mk none) (keyZ hx)
  obtain ⟨o, rfl, e⟩ := ptrElem_inv hv
  cases q : f x with
  | none =>
    rw [Maps.atKey_of_not_has (by rw [hR.has x hx, q]; rfl)] at e
    rw [show o = none from (ptrL_inj (Prod.mk.inj e).1).symm] at hrun
    exact hrun
  | some g =>
    rw [hR.get x hx g q] at e
    rw [show o = some g from (ptrL_inj (Prod.mk.inj e).1).symm] at hrun
    exact hrun
/-- 'm[x] = p'. -/
theorem PtrIs.store {w : World} {mb n : Nat} {f : Int → Option Nat} (h : PtrIs w mb n f) {x : Int} (hx : okZ x) (hn : n ≤ 1000000000) (g : Nat) : ∃ w', (Instr.mapUpdate 66 (.map (some mb)) (.int .i64 x) (.pointer (some ⟨g, 0, none⟩))).run Try.prog w = .ok () w' ∧ PtrIs w' mb (n + 1) (fun y => if y = x then some g else f y) ∧ w.mapTurned w' mb := by
  obtain ⟨D, hO, hR⟩ := h
  obtain ⟨w', hrun, hO', hT⟩ := hO.store keyedZ Try.underlying66 (by unfold maxLen; omega) (keyZ hx) (ptrElem_mk (some g))
  have hM := hO.isMap
  refine ⟨w', hrun, ⟨_, ?_, hR.put hM hx g⟩, hT⟩
  first | exact hO' | (refine World.ownsMap.mono hO' ?_; split <;> omega)
/-- Block mb is a set of at most n numbers: those of f. -/
def SetZ (w : World) (mb n : Nat) (f : Int → Bool) : Prop := ∃ D : DataW Unit, w.ownsMap Try.prog 3 (unitElem (H := Unit)) mb n D ∧ ∀ x, okZ x → Maps.has D (.int .i64 x) = f x
theorem SetZ.lt {w : World} {mb n : Nat} {f : Int → Bool} (h : SetZ w mb n f) : mb < w.heap.size := let ⟨D, h, _⟩ := h; h.lt
theorem SetZ.of_block {w w' : World} {mb n : Nat} {f : Int → Bool} (h : SetZ w mb n f) (hb : w'.heap[mb]? = w.heap[mb]?) : SetZ w' mb n f := by
  obtain ⟨D, ⟨es, clock, h0, h1⟩, hR⟩ := h
  exact ⟨D, ⟨es, clock, hb.trans h0, h1⟩, hR⟩
theorem SetZ.isMap {w : World} {mb n : Nat} {f : Int → Bool} (h : SetZ w mb n f) : ∃ es clock, w.heap[mb]? = some (.map es clock) := by
  obtain ⟨D, ⟨es, clock, h0, _⟩, _⟩ := h
  exact ⟨es, clock, h0⟩
theorem setZ_made (w : World) : SetZ (w.alloc (.map #[] 0)) w.heap.size 0 (fun _ => false) := ⟨.map [], World.ownsMap_made _ _ _ _, fun x _ => rfl⟩
theorem setZ_put {D : DataW Unit} {f : Int → Bool} (h : ∀ x, okZ x → Maps.has D (.int .i64 x) = f x) (hM : Maps.IsMap D) {x : Int} (hx : okZ x) (d : DataW Unit) : ∀ y, okZ y → Maps.has (D.put (.int .i64 x) d) (.int .i64 y) = (f y || decide (y = x)) := fun y hy => by
  by_cases q : y = x
  · subst q
    rw [Maps.has_put_same hM (klZ hx)]; simp
  · rw [Maps.has_put_other (fun e => q (by cases e; rfl)), h y hy, decide_eq_false q, Bool.or_false]
end Go.Proofs.Ythomonidconmcaa.walks
