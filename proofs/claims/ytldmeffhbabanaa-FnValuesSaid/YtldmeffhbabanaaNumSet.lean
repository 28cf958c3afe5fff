/-
  What the program's set does to a numbering.
-/
import Derived.Test.YtldmeffhbabanaaProg
import Derived.Test.YtldmeffhbabanaaNumMap
import Derived.WalkKit
import Derived.WalkSpells
import Derived.Below
import Derived.Handy
import Derived.Deep.OwnRows
import Derived.Deep.RegionWith
namespace Go.Proofs.Ytldmeffhbabanaa.nums
open Go.RowKit
set_option linter.unusedVariables false

def fldV (v : V) : Nat → Int
  | 0 => v.1
  | 1 => v.2.1
  | 2 => v.2.2.1
  | _ => v.2.2.2
def numCell (mb : Nat) (ns : List V) (i : Nat) : Value := if i = 0 then .map (some mb) else .int .i64 (fldV (ns.getD ((i - 1) / 4) zV) ((i - 1) % 4))
/-- The numbering in block nb: its map lies in block mb. -/
def Num (w : World) (nb mb : Nat) (vs ns : List V) : Prop := w.rowIs nb 89 33 (numCell mb ns) ∧ MapIs w mb vs
theorem num_cell {w : World} {nb mb : Nat} {vs ns : List V} (h : Num w nb mb vs ns) {j i : Nat} (hj : j < 8) (hi : i < 4) : w.cell? ⟨nb, 1 + j * 4 + i, none⟩ = some (.int .i64 (fldV (ns.getD j zV) i)) := by
  rw [h.1.cell (i := 1 + j * 4 + i) (by omega)]
  unfold numCell
  rw [if_neg (by omega), show (1 + j * 4 + i - 1) / 4 = j by omega, show (1 + j * 4 + i - 1) % 4 = i by omega]
theorem num_map {w : World} {nb mb : Nat} {vs ns : List V} (h : Num w nb mb vs ns) : w.cell? ⟨nb, 0, none⟩ = some (.map (some mb)) := by
  rw [h.1.cell (i := 0) (by omega)]
  rfl
theorem Num.ne {w : World} {nb mb : Nat} {vs ns : List V} (h : Num w nb mb vs ns) : nb ≠ mb := by
  intro e
  obtain ⟨es, clock, hb⟩ := h.2.isMap
  have := num_map h
  subst e
  simp [World.cell?, hb] at this
theorem MapIs.alloc {w : World} {mb : Nat} {vs : List V} (h : MapIs w mb vs) (o : Obj) : MapIs (w.alloc o) mb vs := h.of_block (MapKept.heap_alloc w o |>.2 mb h.lt)
theorem MapIs.setCell {w : World} {mb : Nat} {vs : List V} (h : MapIs w mb vs) {a : Addr} (ha : mb ≠ a.block) (u : Value) : MapIs (w.setCell a u) mb vs := h.of_block (RowKit.Below.heap_setCell _ _ _ _ ha)
theorem MapIs.drew {w : World} {mb : Nat} {vs : List V} (h : MapIs w mb vs) : MapIs w.drew mb vs := h
theorem Num.alloc {w : World} {nb mb : Nat} {vs ns : List V} (h : Num w nb mb vs ns) (o : Obj) : Num (w.alloc o) nb mb vs ns := ⟨h.1.alloc o, h.2.alloc o⟩
theorem Num.drew {w : World} {nb mb : Nat} {vs ns : List V} (h : Num w nb mb vs ns) : Num w.drew nb mb vs ns := h
theorem getD_set {ns : List V} {j k : Nat} {v : V} (hj : j < ns.length) : (ns.set j v).getD k zV = if k = j then v else ns.getD k zV := by
  by_cases e : k = j
  · subst e
    simp [List.getD, List.getElem?_set_self hj]
  · rw [if_neg e]
    simp [List.getD, List.getElem?_set_ne (Ne.symm e)]
theorem num_put {w : World} {nb mb : Nat} {vs ns : List V} (h : Num w nb mb vs ns) (hl : ns.length = 8) {j : Nat} (hj : j < 8) (x0 x1 x2 x3 : Int) :
    Num ((((w.setCell ⟨nb, 1 + j * 4, none⟩ (.int .i64 x0)).setCell ⟨nb, 1 + j * 4 + 1, none⟩ (.int .i64 x1)).setCell ⟨nb, 1 + j * 4 + 2, none⟩ (.int .i64 x2)).setCell ⟨nb, 1 + j * 4 + 3, none⟩ (.int .i64 x3)) nb mb vs (ns.set j (x0, x1, x2, x3)) := by
  have hne := h.ne
  refine ⟨?_, (((h.2.setCell (Ne.symm hne) _).setCell (Ne.symm hne) _).setCell (Ne.symm hne) _).setCell (Ne.symm hne) _⟩
  refine World.rowIs.congr ((((h.1.set (1 + j * 4) (.int .i64 x0)).set (1 + j * 4 + 1) (.int .i64 x1)).set (1 + j * 4 + 2) (.int .i64 x2)).set (1 + j * 4 + 3) (.int .i64 x3)) ?_
  intro i hi
  unfold numCell
  rw [getD_set (by rw [hl]; exact hj)]
  rcases (show i = 0 ∨ i = 1 + j * 4 ∨ i = 1 + j * 4 + 1 ∨ i = 1 + j * 4 + 2 ∨ i = 1 + j * 4 + 3 ∨ (i ≠ 0 ∧ (i - 1) / 4 ≠ j) by omega) with rfl | rfl | rfl | rfl | rfl | ⟨h0, h1⟩
  · rw [if_neg (by omega), if_neg (by omega), if_neg (by omega), if_neg (by omega), if_pos rfl, if_pos rfl]
  · rw [if_neg (by omega), if_neg (by omega), if_neg (by omega), if_pos rfl, if_neg (show ¬ 1 + j * 4 = 0 by omega), if_pos (by omega), show (1 + j * 4 - 1) % 4 = 0 by omega]; rfl
  · rw [if_neg (by omega), if_neg (by omega), if_pos rfl, if_neg (show ¬ 1 + j * 4 + 1 = 0 by omega), if_pos (by omega), show (1 + j * 4 + 1 - 1) % 4 = 1 by omega]; rfl
  · rw [if_neg (by omega), if_pos rfl, if_neg (show ¬ 1 + j * 4 + 2 = 0 by omega), if_pos (by omega), show (1 + j * 4 + 2 - 1) % 4 = 2 by omega]; rfl
  · rw [if_pos rfl, if_neg (show ¬ 1 + j * 4 + 3 = 0 by omega), if_pos (by omega), show (1 + j * 4 + 3 - 1) % 4 = 3 by omega]; rfl
  · rw [if_neg (by omega), if_neg (by omega), if_neg (by omega), if_neg (by omega), if_neg h0, if_neg h0, if_neg h1]
theorem put_frame (w : World) {nb g : Nat} (h : g ≠ nb) (i0 i1 i2 i3 : Nat) (u0 u1 u2 u3 : Value) : ((((w.setCell ⟨nb, i0, none⟩ u0).setCell ⟨nb, i1, none⟩ u1).setCell ⟨nb, i2, none⟩ u2).setCell ⟨nb, i3, none⟩ u3).heap[g]? = w.heap[g]? := by
  rw [RowKit.Below.heap_setCell _ _ _ _ h, RowKit.Below.heap_setCell _ _ _ _ h, RowKit.Below.heap_setCell _ _ _ _ h, RowKit.Below.heap_setCell _ _ _ _ h]
/-- What set leaves. -/
def SetAns (W : World) (nb mb : Nat) (vs ns : List V) (e : Ending) (W' : World) : Prop := e = .returned (.tuple #[]) ∧ Num W' nb mb vs ns ∧ (∀ B, B ≤ nb → B ≤ mb → B ≤ W.heap.size → Below B W W') ∧ ∀ g, g < W.heap.size → g ≠ nb → g ≠ mb → W'.heap[g]? = W.heap[g]?
set_option maxHeartbeats 800000 in
theorem set_old (j : Nat) (x0 x1 x2 x3 : Int) (nb mb : Nat) (vs ns : List V) (W : World) (hj : (j : Int) < 8) (hv : okV (x0, x1, x2, x3)) (h : Hid (Num W nb mb vs ns)) (hn : Hid (ns.length = 8)) (hm : (x0, x1, x2, x3) ∈ vs) :
    Calls Try.prog 50 #[.pointer (some ⟨nb, 0, none⟩), .int .i64 (j : Int), .agg #[.int .i64 x0, .int .i64 x1, .int .i64 x2, .int .i64 x3]] W fun e W' => SetAns W nb mb vs (ns.set j (x0, x1, x2, x3)) e W' := by
  have hnb := h.out.1.lt
  have hne : nb ≠ W.heap.size := by omega
  have e0 := num_map h.out
  have c0 := num_cell h.out (j := j) (i := 0) (by omega) (by omega)
  have c1 := num_cell h.out (j := j) (i := 1) (by omega) (by omega)
  have c2 := num_cell h.out (j := j) (i := 2) (by omega) (by omega)
  have c3 := num_cell h.out (j := j) (i := 3) (by omega) (by omega)
  have f0 := h.out.1.frozen (1 + j * 4)
  have f1 := h.out.1.frozen (1 + j * 4 + 1)
  have f2 := h.out.1.frozen (1 + j * 4 + 2)
  have f3 := h.out.1.frozen (1 + j * 4 + 3)
  simp only [Nat.add_zero] at c0
  obtain ⟨c, hl2⟩ := (h.out.2.alloc (.cells #[.int .i64 x0, .int .i64 x1, .int .i64 x2, .int .i64 x3] 49)).drew.look_ok hv
  rw [decide_eq_true hm] at hl2
  simp only [vV] at hl2
  go_enter Try.func50, Try.ntmps50
  go_wp2
  first | go_region | fail
  all_goals go_wp2
  first | go_region | fail
  all_goals go_wp2
  all_goals refine bodyPost_end (v := .tuple #[]) (by simp [results, Try.results50, go_sem]) rfl ⟨rfl, ?_, ?_, ?_⟩
  · exact (((num_put h.out hn.out (by omega) x0 x1 x2 x3).alloc _).drew).drew
  · intro B h1 h2 h3
    repeat (first | exact Below.refl _ _ | refine Below.drew ?_ | refine Below.setCell ?_ (by simp; try omega) _ | refine Below.alloc ?_ (by simp; try omega) _)
  · intro g h1 h2 h3
    exact ((MapKept.heap_alloc _ _).2 g (by simpa using h1)).trans (put_frame W h2 _ _ _ _ _ _ _ _)
theorem num_of_blocks {w w' : World} {nb mb : Nat} {vs vs' ns : List V} (h : Num w nb mb vs ns) (hb : w'.heap[nb]? = w.heap[nb]?) (hm : MapIs w' mb vs') : Num w' nb mb vs' ns := ⟨h.1.of_block hb, hm⟩
set_option maxHeartbeats 800000 in
theorem set_new (j : Nat) (x0 x1 x2 x3 : Int) (nb mb : Nat) (vs ns : List V) (W : World) (hj : (j : Int) < 8) (hv : okV (x0, x1, x2, x3)) (h : Hid (Num W nb mb vs ns)) (hn : Hid (ns.length = 8)) (ok : ∀ u ∈ vs, okV u) (hs : vs.length ≤ 65535) (hm : (x0, x1, x2, x3) ∉ vs) :
    Calls Try.prog 50 #[.pointer (some ⟨nb, 0, none⟩), .int .i64 (j : Int), .agg #[.int .i64 x0, .int .i64 x1, .int .i64 x2, .int .i64 x3]] W fun e W' => SetAns W nb mb (vs ++ [(x0, x1, x2, x3)]) (ns.set j (x0, x1, x2, x3)) e W' := by
  have hnb := h.out.1.lt
  have hmb := h.out.2.lt
  have hnm := h.out.ne
  have hne : nb ≠ W.heap.size := by omega
  have e0 := num_map h.out
  have H1 := (h.out.alloc (.cells #[.int .i64 x0, .int .i64 x1, .int .i64 x2, .int .i64 x3] 49)).drew
  have H2 := H1.drew
  obtain ⟨c, hl2⟩ := H1.2.look_ok hv
  rw [decide_eq_false hm] at hl2
  have hlen := fun ty => H2.2.len ty
  obtain ⟨w', hst, hM', hT⟩ := H2.2.store ok hv hm hs
  simp only [vV] at hl2 hst
  have hgr := hT.grown
  have hN' : Hid (Num w' nb mb (vs ++ [(x0, x1, x2, x3)]) ns) := num_of_blocks H2 (hgr.block nb (by simp; omega) (by simp; omega)) hM'
  have hblk : w'.heap[W.heap.size]? = ((W.alloc (.cells #[.int .i64 x0, .int .i64 x1, .int .i64 x2, .int .i64 x3] 49)).drew.drew).heap[W.heap.size]? := hgr.block W.heap.size (by simp) (by simp; omega)
  have HB : Hid (∀ B, B ≤ nb → B ≤ mb → B ≤ W.heap.size → Below B W w') := by
    show ∀ B, B ≤ nb → B ≤ mb → B ≤ W.heap.size → Below B W w'
    intro B h1 h2 h3
    refine Below.grown (w := (W.alloc (.cells #[.int .i64 x0, .int .i64 x1, .int .i64 x2, .int .i64 x3] 49)).drew.drew) ?_ hgr (by simp; omega) (fun j hj => by cases hj; exact h2)
    exact (((Below.refl B W).alloc h3 _).drew).drew
  have HG : Hid (∀ g, g < W.heap.size → g ≠ mb → w'.heap[g]? = W.heap[g]?) := fun g h1 h3 => (hgr.block g (by simp; omega) (by simp; omega)).trans ((MapKept.heap_alloc W _).2 g h1)
  clear hT hM'
  have d0 : w'.cell? ⟨W.heap.size, 0, none⟩ = some (.int .i64 x0) := (World.cell?_of_block (a := ⟨W.heap.size, 0, none⟩) hblk).trans (by simp)
  have d1 : w'.cell? ⟨W.heap.size, 1, none⟩ = some (.int .i64 x1) := (World.cell?_of_block (a := ⟨W.heap.size, 1, none⟩) hblk).trans (by simp)
  have d2 : w'.cell? ⟨W.heap.size, 2, none⟩ = some (.int .i64 x2) := (World.cell?_of_block (a := ⟨W.heap.size, 2, none⟩) hblk).trans (by simp)
  have d3 : w'.cell? ⟨W.heap.size, 3, none⟩ = some (.int .i64 x3) := (World.cell?_of_block (a := ⟨W.heap.size, 3, none⟩) hblk).trans (by simp)
  clear hblk hgr H1 H2
  have c0 := num_cell hN'.out (j := j) (i := 0) (by omega) (by omega)
  have c1 := num_cell hN'.out (j := j) (i := 1) (by omega) (by omega)
  have c2 := num_cell hN'.out (j := j) (i := 2) (by omega) (by omega)
  have c3 := num_cell hN'.out (j := j) (i := 3) (by omega) (by omega)
  have f0 := hN'.out.1.frozen (1 + j * 4)
  have f1 := hN'.out.1.frozen (1 + j * 4 + 1)
  have f2 := hN'.out.1.frozen (1 + j * 4 + 2)
  have f3 := hN'.out.1.frozen (1 + j * 4 + 3)
  simp only [Nat.add_zero] at c0
  go_enter Try.func50, Try.ntmps50
  go_wp2
  first | go_region | fail
  all_goals go_wp2
  first | go_region | fail
  all_goals go_wp2
  first | go_region | fail
  all_goals go_wp2
  all_goals refine bodyPost_end (v := .tuple #[]) (by simp [results, Try.results50, go_sem]) rfl ⟨rfl, ?_, ?_, ?_⟩
  · exact (num_put hN'.out hn.out (by omega) x0 x1 x2 x3).drew
  · intro B h1 h2 h3
    refine (HB.out B h1 h2 h3).trans ?_
    repeat (first | exact Below.refl _ _ | refine Below.drew ?_ | refine Below.setCell ?_ (by simp; try omega) _ | refine Below.alloc ?_ (by simp; try omega) _)
  · intro g h1 h2 h3
    exact (put_frame w' h2 _ _ _ _ _ _ _ _).trans (HG.out g h1 h3)
theorem impl_set1 (j : Nat) (v : V) (nb mb : Nat) (vs ns : List V) (W : World) (hj : j < 8) (hv : okV v) (h : Num W nb mb vs ns) (hn : ns.length = 8) (ok : ∀ u ∈ vs, okV u) (hs : vs.length ≤ 65535) :
    Calls Try.prog 50 #[.pointer (some ⟨nb, 0, none⟩), .int .i64 (j : Int), vV v] W fun e W' => SetAns W nb mb (addV vs v) (ns.set j v) e W' := by
  obtain ⟨x0, x1, x2, x3⟩ := v
  by_cases hm : (x0, x1, x2, x3) ∈ vs
  · rw [add_old hm]
    exact set_old j x0 x1 x2 x3 nb mb vs ns W (by omega) hv h hn hm
  · rw [add_new hm]
    exact set_new j x0 x1 x2 x3 nb mb vs ns W (by omega) hv h hn ok hs hm
end Go.Proofs.Ytldmeffhbabanaa.nums
