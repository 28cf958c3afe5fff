/-
  Arrays of ints by value, and in memory.
-/
import Derived.Test.YtgknofbkdgbokaaProg
import Derived.WalkKit
import Derived.WalkSpells
import Derived.Below
import Derived.Handy
import Derived.Deep.OwnRows
import Derived.Deep.WholeRow
import Derived.Laws.Rows
import Derived.Laws.Tables
import Derived.Laws.CopyOwn
import Derived.Laws.ResultCell
namespace Go.Proofs.Ytgknofbkdgbokaa.ints
open Go.RowKit
set_option linter.unusedVariables false

/-- The array c has n ints, f 0, f 1 and so on. -/
structure IsArr (c : Array Value) (n : Nat) (f : Nat → Int) : Prop where
  size : c.size = n
  get : ∀ i, i < n → c[i]? = some (.int .i64 (f i))
theorem IsArr.one {c : Array Value} {n : Nat} {f : Nat → Int} (h : IsArr c n f) : c.all (·.oneCell') = true := by
  rw [Array.all_eq_true]
  intro i hi
  have := h.get i (by have := h.size; omega)
  rw [Array.getElem?_eq_getElem hi] at this
  rw [Option.some.inj this]; rfl
theorem IsArr.congr {c : Array Value} {n : Nat} {f g : Nat → Int} (h : IsArr c n f) (e : ∀ i, i < n → f i = g i) : IsArr c n g := ⟨h.size, fun i hi => by rw [← e i hi]; exact h.get i hi⟩
theorem row_arr {w : World} {b n : Nat} {t : TypeId} {f : Nat → Int} (h : w.rowIs b t n (fun i => .int .i64 (f i))) : ∃ c, IsArr c n f ∧ w.heap[b]? = some (.cells c t (0, 0)) := by
  obtain ⟨c, h1, h2, h3⟩ := h
  exact ⟨c, ⟨h2, h3⟩, h1⟩
theorem arr_row {w : World} {b n : Nat} {t : TypeId} {c : Array Value} {f : Nat → Int} (h : IsArr c n f) (e : w.heap[b]? = some (.cells c t (0, 0))) : w.rowIs b t n (fun i => .int .i64 (f i)) := ⟨c, e, h.size, h.get⟩
theorem arr_new {w : World} {n : Nat} {t : TypeId} {c : Array Value} {f : Nat → Int} (h : IsArr c n f) : (w.alloc (.cells c t)).rowIs w.heap.size t n (fun i => .int .i64 (f i)) := arr_row h (heap_alloc_last w _)
theorem arr_zero (n : Nat) : IsArr (Array.replicate n (.int .i64 0)) n (fun _ => 0) := ⟨by simp, fun i hi => by simp [hi]⟩
theorem results_row2 {P : Program} {fn : Func} {p u : Tmp} {ty : TypeId} (h : fn.results = #[.cell p ty, .tmp u]) (tmps : Array Value) (w : World) (g : Nat) (t : TypeId) (cs : Array Value) (fr : Nat × Nat) (d : TypeDesc)
    (hp : tmps.getD p undef = .pointer (some ⟨g, 0, none⟩)) (hg : w.heap[g]? = some (.cells cs t fr))
    (hu : P.underlying ty = some d) (hd : (match d with | .struct _ | .array _ _ => true | _ => false) = true) (hi : (P.info? ty).map (·.size) = some cs.size) (b : Value) (hb : tmps.getD u undef = b) :
    (results fn tmps).run P w = .ok (.tuple #[.agg cs, b]) w := by
  rw [results_cell_tmp h, hp, hb]
  simp [asAddr, run_loadVar_row w g t ty cs fr d hg hu hd hi]
theorem zeros10 (W : World) (t : TypeId) : (W.alloc (.cells #[.int .i64 0, .int .i64 0, .int .i64 0, .int .i64 0, .int .i64 0, .int .i64 0, .int .i64 0, .int .i64 0, .int .i64 0, .int .i64 0] t)).rowIs W.heap.size t 10 (fun _ => .int .i64 0) := arr_new (arr_zero 10)
theorem zeros11 (W : World) (t : TypeId) : (W.alloc (.cells #[.int .i64 0, .int .i64 0, .int .i64 0, .int .i64 0, .int .i64 0, .int .i64 0, .int .i64 0, .int .i64 0, .int .i64 0, .int .i64 0, .int .i64 0] t)).rowIs W.heap.size t 11 (fun _ => .int .i64 0) := arr_new (arr_zero 11)
theorem falses10 (W : World) (t : TypeId) : (W.alloc (.cells #[.bool false, .bool false, .bool false, .bool false, .bool false, .bool false, .bool false, .bool false, .bool false, .bool false] t)).rowIs W.heap.size t 10 (fun _ => .bool false) := by
  refine World.rowIs_alloc W (Array.replicate 10 (.bool false)) t _ (fun i hi => ?_)
  simp at hi
  simp [hi]
theorem rowIs_setRow {w : World} {b : Nat} {t : TypeId} {n : Nat} {f : Nat → Value} (h : w.rowIs b t n f) {g : Nat} (hne : b ≠ g) (c : Array Value) : (w.setRow g c).rowIs b t n f := by
  exact h.of_block (setRow_other _ _ _ _ hne)
theorem index_arr {P : Program} {t e : TypeId} {n : Nat} {c : Array Value} {f : Nat → Int} (h : IsArr c n f) (hu : P.underlying t = some (.array n e)) (he : P.underlying e = some (.int .i64)) (hs : (P.info? e).map (·.size) = some 1) {i : Nat} (hi : i < n) (w : World) :
    (Instr.index t (.agg c) (.int .i64 (i : Int))).run P w = .ok (.int .i64 (f i)) w := by
  cases hq : P.info? e with
  | none => simp [hq] at hs
  | some j =>
    have hs' : j.size = 1 := by simpa [hq] using hs
    have hc := h.get i hi
    simp [Instr.index, asIntOf, Sem.run_bind, run_underlying hu, hi, sizeOf, typeInfo, hq, hs', part, isAgg, run_underlying he, hc]
end Go.Proofs.Ytgknofbkdgbokaa.ints
