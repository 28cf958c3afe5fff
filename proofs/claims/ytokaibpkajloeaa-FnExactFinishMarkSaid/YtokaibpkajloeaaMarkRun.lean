/-
  A marker at work in memory; what isCell, isWhite, firstFree, shade, take do.
-/
import Derived.Test.YtokaibpkajloeaaProg
import Derived.Test.YtokaibpkajloeaaInts
import Derived.Test.YtokaibpkajloeaaDeep
import Derived.Test.YtokaibpkajloeaaDeepRow
import Derived.Test.YtokaibpkajloeaaMarkMath
import Derived.WalkKit
import Derived.WalkSpells
import Derived.Below
import Derived.Handy
import Derived.OwnWalk
import Derived.Deep.OwnRows
import Derived.Deep.DeepCutAuto
namespace Go.Proofs.Ytokaibpkajloeaa.walks
open Go.RowKit Go.Proofs.Ytokaibpkajloeaa.math Go.Proofs.Ytokaibpkajloeaa.ints Go.Proofs.Ytokaibpkajloeaa.deep
set_option linter.unusedVariables false
set_option maxRecDepth 100000

/-- The first m cells of a block, none of them barred. -/
def CellsAt (w : World) (g m : Nat) (f : Nat → Value) : Prop := g < w.heap.size ∧ ∀ i, i < m → w.cell? ⟨g, i, none⟩ = some (f i) ∧ w.frozen? ⟨g, i, none⟩ = false
theorem CellsAt.of_block {w w' : World} {g m : Nat} {f : Nat → Value} (h : CellsAt w g m f) (e : w'.heap[g]? = w.heap[g]?) : CellsAt w' g m f := by
  refine ⟨?_, fun i hi => ?_⟩
  · by_cases q : g < w'.heap.size
    · exact q
    · rw [Array.getElem?_eq_none (by omega), Array.getElem?_eq_getElem h.1] at e
      cases e
  · have := h.2 i hi
    unfold World.cell? World.frozen? at this ⊢
    rw [e]; exact this
theorem CellsAt.kept {w w' : World} {g m : Nat} {f : Nat → Value} (h : CellsAt w g m f) (hb : Below w.heap.size w w') : CellsAt w' g m f := h.of_block (hb.block _ h.1)
theorem CellsAt.of_row {w : World} {g m n : Nat} {T : TypeId} {f : Nat → Value} (h : w.rowIs g T n f) (hm : m ≤ n) : CellsAt w g m f := ⟨h.lt, fun i hi => ⟨by simpa using h.cell (i := i) (by omega), by simpa using h.frozen i⟩⟩
theorem CellsAt.congr {w : World} {g m : Nat} {f f' : Nat → Value} (h : CellsAt w g m f) (e : ∀ i, i < m → f i = f' i) : CellsAt w g m f' := ⟨h.1, fun i hi => by rw [← e i hi]; exact h.2 i hi⟩
theorem CellsAt.far {w : World} {g m b i : Nat} {f : Nat → Value} (h : CellsAt w g m f) (hne : g ≠ b) (u : Value) : CellsAt (w.setCell ⟨b, i, none⟩ u) g m f := h.of_block (Below.heap_setCell _ _ _ _ (by show g ≠ b; exact hne))
theorem CellsAt.put {w : World} {g m k : Nat} {f : Nat → Value} (h : CellsAt w g m f) (hk : k < m) (u : Value) : CellsAt (w.setCell ⟨g, k, none⟩ u) g m (upN f k u) := by
  refine ⟨by simpa [World.setCell] using h.1, fun i hi => ⟨?_, by simpa using (h.2 i hi).2⟩⟩
  by_cases e : i = k
  · subst e
    rw [upN_same]
    exact World.cell?_setCell_same' w _ u (by rw [(h.2 i hi).1]; rfl)
  · rw [upN_other _ _ e, World.cell?_setCell_other _ _ _ _ (by simp <;> omega)]
    exact (h.2 i hi).1
/-- A cell without its color: its links, whether it is free. -/
def cellV (s : Mst) (i : Nat) : Value := if i % 3 = 2 then .bool (s.fr (i / 3)) else .int .i64 (s.lk (i / 3) (i % 3))
structure RunM (w : World) (B rp cp op n c1 c2 : Nat) (s : Mst) : Prop where
  row : w.rowIs rp 74 5 (rowF [.slice (some ⟨cp, 0, none⟩) n c1, .slice (some ⟨op, 0, none⟩) n c2, .int .i64 (s.rt 0), .int .i64 (s.rt 1), .bool s.on])
  cells : CellsAt w cp (n * 3) (cellV s)
  cols : CellsAt w op n (fun i => .int .i64 (s.co i))
  low : B ≤ rp ∧ B ≤ cp ∧ B ≤ op
  dif : rp ≠ cp ∧ rp ≠ op ∧ cp ≠ op
theorem RunM.kept {w w' : World} {B rp cp op n c1 c2 : Nat} {s : Mst} (h : RunM w B rp cp op n c1 c2 s) (hb : Below w.heap.size w w') : RunM w' B rp cp op n c1 c2 s := ⟨h.row.of_block (hb.block _ h.row.lt), h.cells.kept hb, h.cols.kept hb, h.low, h.dif⟩
theorem RunM.lower {w : World} {B B' rp cp op n c1 c2 : Nat} {s : Mst} (h : RunM w B rp cp op n c1 c2 s) (hB : B' ≤ B) : RunM w B' rp cp op n c1 c2 s := ⟨h.row, h.cells, h.cols, ⟨Nat.le_trans hB h.low.1, Nat.le_trans hB h.low.2.1, Nat.le_trans hB h.low.2.2⟩, h.dif⟩
theorem RunM.setCo {w : World} {B rp cp op n c1 c2 : Nat} {s : Mst} (h : RunM w B rp cp op n c1 c2 s) {k : Nat} (hk : k < n) (v : Int) : RunM (w.setCell ⟨op, k, none⟩ (.int .i64 v)) B rp cp op n c1 c2 (s.setCo k v) := by
  refine ⟨h.row.of_block (Below.heap_setCell _ _ _ _ (by show rp ≠ op; exact h.dif.2.1)), h.cells.far h.dif.2.2 _, (h.cols.put hk _).congr (fun i hi => ?_), h.low, h.dif⟩
  unfold Mst.setCo upN
  by_cases e : i = k <;> simp [e]
theorem RunM.setFr {w : World} {B rp cp op n c1 c2 : Nat} {s : Mst} (h : RunM w B rp cp op n c1 c2 s) {k : Nat} (hk : k < n) (v : Bool) : RunM (w.setCell ⟨cp, k * 3 + 2, none⟩ (.bool v)) B rp cp op n c1 c2 (s.setFr k v) := by
  refine ⟨h.row.of_block (Below.heap_setCell _ _ _ _ (by show rp ≠ cp; exact h.dif.1)), (h.cells.put (k := k * 3 + 2) (by omega) _).congr (fun i hi => ?_), h.cols.far h.dif.2.2.symm _, h.low, h.dif⟩
  unfold cellV Mst.setFr upN
  dsimp only
  by_cases e : i = k * 3 + 2
  · rw [if_pos e, if_pos (by omega)]
    simp [show i / 3 = k by omega]
  · rw [if_neg e]
    by_cases q : i % 3 = 2
    · rw [if_pos q, if_pos q]
      simp [show ¬ i / 3 = k by omega]
    · rw [if_neg q, if_neg q]
theorem RunM.setLk {w : World} {B rp cp op n c1 c2 : Nat} {s : Mst} (h : RunM w B rp cp op n c1 c2 s) {k j : Nat} (hk : k < n) (hj : j < 2) (v : Int) : RunM (w.setCell ⟨cp, k * 3 + j, none⟩ (.int .i64 v)) B rp cp op n c1 c2 (s.setLk k j v) := by
  refine ⟨h.row.of_block (Below.heap_setCell _ _ _ _ (by show rp ≠ cp; exact h.dif.1)), (h.cells.put (k := k * 3 + j) (by omega) _).congr (fun i hi => ?_), h.cols.far h.dif.2.2.symm _, h.low, h.dif⟩
  unfold cellV Mst.setLk upN
  dsimp only
  by_cases e : i = k * 3 + j
  · rw [if_pos e, if_neg (by omega)]
    simp [show i / 3 = k by omega, show i % 3 = j by omega]
  · rw [if_neg e]
    by_cases q : i % 3 = 2
    · rw [if_pos q, if_pos q]
    · rw [if_neg q, if_neg q]
      by_cases r : i / 3 = k
      · simp [r, show ¬ i % 3 = j by omega]
      · simp [r]
theorem RunM.setRt {w : World} {B rp cp op n c1 c2 : Nat} {s : Mst} (h : RunM w B rp cp op n c1 c2 s) {j : Nat} (hj : j < 2) (v : Int) : RunM (w.setCell ⟨rp, 2 + j, none⟩ (.int .i64 v)) B rp cp op n c1 c2 (s.setRt j v) := by
  refine ⟨(h.row.set (2 + j) _).congr (fun i hi => ?_), h.cells.far h.dif.1.symm _, h.cols.far h.dif.2.1.symm _, h.low, h.dif⟩
  unfold Mst.setRt upN
  rcases (show j = 0 ∨ j = 1 by omega) with e | e <;> subst e
  · match i, hi with
    | 0, _ => rfl
    | 1, _ => rfl
    | 2, _ => rfl
    | 3, _ => rfl
    | 4, _ => rfl
  · match i, hi with
    | 0, _ => rfl
    | 1, _ => rfl
    | 2, _ => rfl
    | 3, _ => rfl
    | 4, _ => rfl
theorem RunM.setMk {w : World} {B rp cp op n c1 c2 : Nat} {s : Mst} (h : RunM w B rp cp op n c1 c2 s) (b : Bool) : RunM (w.setCell ⟨rp, 4, none⟩ (.bool b)) B rp cp op n c1 c2 (s.setMk b) := by
  refine ⟨(h.row.set 4 _).congr (fun i hi => ?_), h.cells.far h.dif.1.symm _, h.cols.far h.dif.2.1.symm _, h.low, h.dif⟩
  match i, hi with
  | 0, _ => rfl
  | 1, _ => rfl
  | 2, _ => rfl
  | 3, _ => rfl
  | 4, _ => rfl
theorem RunM.color {w : World} {B rp cp op n c1 c2 : Nat} {s : Mst} (h : RunM w B rp cp op n c1 c2 s) {k : Nat} (hk : k < n) : w.cell? ⟨op, k, none⟩ = some (.int .i64 (s.co k)) := (h.cols.2 k hk).1
theorem RunM.cell {w : World} {B rp cp op n c1 c2 : Nat} {s : Mst} (h : RunM w B rp cp op n c1 c2 s) {k : Nat} (hk : k < n) : w.cell? ⟨cp, k * 3, none⟩ = some (.int .i64 (s.lk k 0)) ∧ w.cell? ⟨cp, k * 3 + 1, none⟩ = some (.int .i64 (s.lk k 1)) ∧ w.cell? ⟨cp, k * 3 + 2, none⟩ = some (.bool (s.fr k)) := by
  refine ⟨?_, ?_, ?_⟩
  · rw [(h.cells.2 (k * 3) (by omega)).1]
    unfold cellV
    rw [if_neg (by omega), show k * 3 / 3 = k by omega, show k * 3 % 3 = 0 by omega]
  · rw [(h.cells.2 (k * 3 + 1) (by omega)).1]
    unfold cellV
    rw [if_neg (by omega), show (k * 3 + 1) / 3 = k by omega, show (k * 3 + 1) % 3 = 1 by omega]
  · rw [(h.cells.2 (k * 3 + 2) (by omega)).1]
    unfold cellV
    rw [if_pos (by omega), show (k * 3 + 2) / 3 = k by omega]
/-- The blocks of a marker at work. -/
def ofM (rp cp op : Nat) : Nat → Prop := fun x => x = rp ∨ x = cp ∨ x = op
theorem only_set {W w : World} {F : Nat → Prop} {b i : Nat} (h : OnlyF W w F) (hb : F b) (u : Value) : OnlyF W (w.setCell ⟨b, i, none⟩ u) F := ⟨h.os, h.tape, h.output, by simpa [World.setCell] using h.size, fun k hk hn => by
  rw [Below.heap_setCell _ _ _ _ (by show k ≠ b; rintro rfl; exact hn hb)]
  exact h.block k hk hn⟩
theorem only_later {W w w' : World} {F : Nat → Prop} (h : OnlyF W w F) (hb : Below w.heap.size w w') : OnlyF W w' F := h.trans (OnlyF.of_below hb)
def whiteB (s : Mst) (x : Int) : Bool := decide (x ≠ -1) && decide (s.co x.toNat = 0)
theorem impl_white (B rp cp op n c1 c2 : Nat) (s : Mst) (x : Int) (W : World) (hn : n ≤ 10) (h : Hid (RunM W B rp cp op n c1 c2 s)) (hx : x = -1 ∨ ∃ k : Nat, x = (k : Int) ∧ k < n) :
    Calls Try.prog 90 #[.pointer (some ⟨rp, 0, none⟩), .int .i64 x] W fun e W' => e = .returned (.bool (whiteB s x)) ∧ W' = W := by
  have r1 : W.cell? ⟨rp, 1, none⟩ = some (.slice (some ⟨op, 0, none⟩) n c2) := h.out.row.cell (i := 1) (by decide)
  have rl := h.out.row.lt
  rcases hx with e | ⟨k, e, hk⟩
  · subst e
    have HE : Hid (whiteB s (-1) = false) := by show _ = _; unfold whiteB; simp
    rw [HE.out]
    go_enter Try.func90, Try.ntmps90
    go_wp2
    go_ret
    exact ⟨rfl, rfl⟩
  · subst e
    have c0 := h.out.color hk
    have HE : Hid (whiteB s (k : Int) = decide (s.co k = 0)) := by
      show _ = _
      unfold whiteB
      rw [decide_eq_true (show (k : Int) ≠ -1 by omega), Bool.true_and, Int.toNat_natCast]
    rw [HE.out]
    generalize s.co k = y at c0 ⊢
    have k0 : (0 : Int) ≤ (k : Int) := by omega
    have k1 : (k : Int) < (n : Int) := by omega
    have k2 : ((k : Int) == -1) = false := by
      simp
    have k3 : ((k : Int) != -1) = true := by
      simp
    clear HE
    by_cases hy : y = 0
    · subst hy
      go_enter Try.func90, Try.ntmps90
      go_wp2
      go_ret
      exact ⟨rfl, rfl⟩
    · have d0 : (y == 0) = false := by simpa using hy
      have d1 : decide (y = 0) = false := decide_eq_false hy
      rw [d1]
      go_enter Try.func90, Try.ntmps90
      go_wp2
      go_ret
      exact ⟨by simp, rfl⟩
def FreeTo (s : Mst) (n : Nat) (W : World) (e : Ending) (W' : World) : Prop := (match freeT s.fr n with
  | none => e = .returned (.tuple #[.int .i64 (-1), .bool false])
  | some k => e = .returned (.tuple #[.int .i64 (k : Int), .bool true])) ∧ Below W.heap.size W W'
theorem impl_first (B rp cp op n c1 c2 : Nat) (s : Mst) (W : World) (hn : n ≤ 10) (h : Hid (RunM W B rp cp op n c1 c2 s)) :
    Calls Try.prog 80 #[.pointer (some ⟨rp, 0, none⟩)] W fun e W' => FreeTo s n W e W' := by
  have r0 : W.cell? ⟨rp, 0, none⟩ = some (.slice (some ⟨cp, 0, none⟩) n c1) := h.out.row.cell (i := 0) (by decide)
  have rl := h.out.row.lt
  go_enter Try.func80, Try.ntmps80
  go_wp2
  clear r0
  go_loopw [11] (fun vi wr => ∃ k : Nat, k ≤ n ∧ vi = .int .i64 k ∧ Hid (∀ j, j < k → s.fr j = false) ∧ Hid (Below W.heap.size W wr)) (fun vi _ => n - (intOf vi).toNat)
  case atStart => exact ⟨0, Nat.zero_le _, rfl, fun j hj => by omega, Below.refl _ _⟩
  case round =>
    obtain ⟨k, hk, rfl, HG, HB⟩ := hrel
    by_cases hlt : k < n
    rotate_left
    · have HA : Hid (FreeTo s n W (.returned (.tuple #[.int .i64 (-1), .bool false])) wr) := by
        refine ⟨?_, HB.out⟩
        rw [free_none (fun j hj => HG.out j (by omega))]
      go_wp2
      go_ret2
      exact HA.out
    have hltI : (k : Int) < (n : Int) := by omega
    have HR := h.out.kept HB.out
    obtain ⟨c0, c1', c2'⟩ := HR.cell hlt
    have hcl := HR.cells.1
    have HYES : Hid (∀ w', Below W.heap.size W w' → s.fr k = true → FreeTo s n W (.returned (.tuple #[.int .i64 (k : Int), .bool true])) w') := fun w' hb q => by
      refine ⟨?_, hb⟩
      rw [free_some hlt q HG.out]
    have HNO : Hid (s.fr k = false → ∀ j, j < k + 1 → s.fr j = false) := fun q j hj => by
      by_cases e : j = k
      · rw [e]; exact q
      · exact HG.out j (by omega)
    generalize s.lk k 0 = y0 at c0
    generalize s.lk k 1 = y1 at c1'
    generalize s.fr k = z at c2' HYES HNO
    obtain ⟨X, hX⟩ : ∃ X, Hid (wr.alloc (.cells #[.int .i64 y0, .int .i64 y1, .bool z] 78) = X) := ⟨_, rfl⟩
    have HX : Hid (Below W.heap.size W X) := by show Below _ _ _; rw [← hX.out]; exact HB.out.alloc HB.out.size _
    clear HR
    cases z
    · have HN := HNO.out rfl
      have HN2 : Hid (∀ j, j < k + 1 → s.fr j = false) := HN
      clear HN HNO HYES
      go_wp2
      rw [hX.out]
      go_roundw
      case rel => exact ⟨k + 1, by omega, by go_num, HN2, HX⟩
      case measure => simp [intOf]; omega
    · have HA := HYES.out X HX.out rfl
      have HA2 : Hid (FreeTo s n W (.returned (.tuple #[.int .i64 (k : Int), .bool true])) X) := HA
      clear HA HNO HYES
      go_wp2
      go_ret2
      rw [hX.out]
      exact HA2.out
def ShadeTo (B rp cp op n c1 c2 : Nat) (s : Mst) (W : World) (e : Ending) (W' : World) : Prop := e = .returned (.tuple #[]) ∧ RunM W' B rp cp op n c1 c2 s ∧ OnlyF W W' (ofM rp cp op)
theorem impl_shade (B rp cp op n c1 c2 : Nat) (s : Mst) (x : Int) (W : World) (hn : n ≤ 10) (h : Hid (RunM W B rp cp op n c1 c2 s)) (hx : x = -1 ∨ ∃ k : Nat, x = (k : Int) ∧ k < n) :
    Calls Try.prog 81 #[.pointer (some ⟨rp, 0, none⟩), .int .i64 x] W fun e W' => ShadeTo B rp cp op n c1 c2 (shadeS s x) W e W' := by
  have r1 : W.cell? ⟨rp, 1, none⟩ = some (.slice (some ⟨op, 0, none⟩) n c2) := h.out.row.cell (i := 1) (by decide)
  have r4 : W.cell? ⟨rp, 4, none⟩ = some (.bool s.on) := h.out.row.cell (i := 4) (by decide)
  have rl := h.out.row.lt
  have hw := impl_white B rp cp op n c1 c2 s x W hn h hx
  cases hm : s.on
  · have HA : Hid (ShadeTo B rp cp op n c1 c2 (shadeS s x) W (.returned (.tuple #[])) W) := by
      refine ⟨rfl, ?_, OnlyF.refl _ _⟩
      unfold shadeS
      rw [if_neg (fun q => by rw [hm] at q; cases q.1)]
      exact h.out
    rw [hm] at r4
    clear hm hw
    go_enter Try.func81, Try.ntmps81
    go_wp2
    exact bodyPost_end (v := .tuple #[]) (by simp [results, Try.results81, go_sem]) rfl HA.out
  rw [hm] at r4
  cases hq : whiteB s x
  · have HA : Hid (ShadeTo B rp cp op n c1 c2 (shadeS s x) W (.returned (.tuple #[])) W) := by
      refine ⟨rfl, ?_, OnlyF.refl _ _⟩
      unfold shadeS
      rw [if_neg (fun q => by
        unfold whiteB at hq
        rw [decide_eq_true q.2.1, decide_eq_true q.2.2] at hq
        cases hq)]
      exact h.out
    rw [hq] at hw
    clear hm hq
    go_enter Try.func81, Try.ntmps81
    go_wp2_with (go_at_call 90; refine hw.mono ?_; rintro e w' ⟨rfl, hww⟩; rw [hww]; clear hww w')
    exact bodyPost_end (v := .tuple #[]) (by simp [results, Try.results81, go_sem]) rfl HA.out
  · have hxx : x ≠ -1 ∧ s.co x.toNat = 0 := by
      unfold whiteB at hq
      rw [Bool.and_eq_true, decide_eq_true_eq, decide_eq_true_eq] at hq
      exact hq
    obtain ⟨k, rfl, hk⟩ : ∃ k : Nat, x = (k : Int) ∧ k < n := hx.resolve_left hxx.1
    have HA : Hid (ShadeTo B rp cp op n c1 c2 (shadeS s (k : Int)) W (.returned (.tuple #[])) (W.setCell ⟨op, k, none⟩ (.int .i64 1))) := by
      refine ⟨rfl, ?_, only_set (OnlyF.refl _ _) (Or.inr (Or.inr rfl)) _⟩
      unfold shadeS
      rw [if_pos ⟨hm, hxx⟩, Int.toNat_natCast]
      exact h.out.setCo hk 1
    have c0 := h.out.color hk
    have f0 := (h.out.cols.2 k hk).2
    generalize s.co k = y at c0
    have k0 : (0 : Int) ≤ (k : Int) := by omega
    have k1 : (k : Int) < (n : Int) := by omega
    have ol := h.out.cols.1
    rw [hq] at hw
    clear hm hq hxx
    go_enter Try.func81, Try.ntmps81
    go_wp2_with (go_at_call 90; refine hw.mono ?_; rintro e w' ⟨rfl, hww⟩; rw [hww]; clear hww w')
    exact bodyPost_end (v := .tuple #[]) (by simp [results, Try.results81, go_sem]) rfl HA.out
def TakeTo (B rp cp op n c1 c2 : Nat) (s : Mst) (o : Option Mst) (W : World) (e : Ending) (W' : World) : Prop := (match o with
  | none => e = .returned (.bool false) ∧ RunM W' B rp cp op n c1 c2 s
  | some t => e = .returned (.bool true) ∧ RunM W' B rp cp op n c1 c2 t) ∧ OnlyF W W' (ofM rp cp op)
theorem impl_take (B rp cp op n c1 c2 : Nat) (s : Mst) (j : Nat) (W : World) (hn : n ≤ 10) (h : Hid (RunM W B rp cp op n c1 c2 s)) (hj : j < 2) :
    Calls Try.prog 57 #[.pointer (some ⟨rp, 0, none⟩), .int .i64 (j : Int)] W fun e W' => TakeTo B rp cp op n c1 c2 s (takeS s j n) W e W' := by
  have hff := impl_first B rp cp op n c1 c2 s W hn h
  rcases free_is s.fr n with ⟨e, _⟩ | ⟨k, e, hk, _⟩
  · have HT : Hid (takeS s j n = none) := by show _ = _; unfold takeS; rw [e]
    rw [HT.out]
    unfold FreeTo at hff
    rw [e] at hff
    go_enter Try.func57, Try.ntmps57
    go_wp2_with fail
    refine hff.mono ?_
    rintro e w1 ⟨rfl, hB⟩
    have HA : Hid (TakeTo B rp cp op n c1 c2 s none W (.returned (.bool false)) w1) := ⟨⟨rfl, h.out.kept hB⟩, OnlyF.of_below hB⟩
    clear hB hff
    go_wp2
    go_ret
    exact HA.out
  · have HT : Hid (takeS s j n = some (shadeS ((s.setFr k false).setRt j k) k)) := by show _ = _; unfold takeS; rw [e]
    rw [HT.out]
    unfold FreeTo at hff
    rw [e] at hff
    go_enter Try.func57, Try.ntmps57
    go_wp2_with fail
    refine hff.mono ?_
    rintro e w1 ⟨rfl, hB⟩
    have H1 : Hid (RunM w1 B rp cp op n c1 c2 s) := h.out.kept hB
    have O1 : Hid (OnlyF W w1 (ofM rp cp op)) := OnlyF.of_below hB
    clear hB hff HT e
    obtain ⟨w2, hw2⟩ : ∃ w2, Hid (w1.setCell ⟨cp, k * 3 + 2, none⟩ (.bool false) = w2) := ⟨_, rfl⟩
    have H2 : Hid (RunM w2 B rp cp op n c1 c2 (s.setFr k false)) := by show RunM _ _ _ _ _ _ _ _ _; rw [← hw2.out]; exact H1.out.setFr hk false
    have O2 : Hid (OnlyF W w2 (ofM rp cp op)) := by show OnlyF _ _ _; rw [← hw2.out]; exact only_set O1.out (Or.inr (Or.inl rfl)) _
    obtain ⟨w3, hw3⟩ : ∃ w3, Hid (w2.setCell ⟨rp, 2 + j, none⟩ (.int .i64 (k : Int)) = w3) := ⟨_, rfl⟩
    have H3 : Hid (RunM w3 B rp cp op n c1 c2 ((s.setFr k false).setRt j k)) := by show RunM _ _ _ _ _ _ _ _ _; rw [← hw3.out]; exact H2.out.setRt hj _
    have O3 : Hid (OnlyF W w3 (ofM rp cp op)) := by show OnlyF _ _ _; rw [← hw3.out]; exact only_set O2.out (Or.inl rfl) _
    have hsh := impl_shade B rp cp op n c1 c2 ((s.setFr k false).setRt j k) (k : Int) w3 hn H3 (Or.inr ⟨k, rfl, hk⟩)
    have r0 : w1.cell? ⟨rp, 0, none⟩ = some (.slice (some ⟨cp, 0, none⟩) n c1) := H1.out.row.cell (i := 0) (by decide)
    have rl := H1.out.row.lt
    obtain ⟨c0, c1', c2'⟩ := H1.out.cell hk
    have f2 := (H1.out.cells.2 (k * 3 + 2) (by omega)).2
    have cl := H1.out.cells.1
    generalize s.fr k = z at c2'
    have k0 : (0 : Int) ≤ (k : Int) := by omega
    have k1 : (k : Int) < (n : Int) := by omega
    have j0 : (0 : Int) ≤ (j : Int) := by omega
    have j1 : (j : Int) < 2 := by omega
    go_upto_region 5 with fail
    rw [hw2.out]
    have s2 : ∃ v, w2.cell? ⟨rp, 2 + j, none⟩ = some v := ⟨_, H2.out.row.cell (i := 2 + j) (by omega)⟩
    obtain ⟨u2, s2⟩ := s2
    have f3 := H2.out.row.frozen (2 + j)
    have rl2 := H2.out.row.lt
    clear r0 rl c0 c1' c2' f2 cl
    go_wp2_with fail
    rw [hw3.out]
    refine hsh.mono ?_
    rintro e w4 ⟨rfl, HR4, HO4⟩
    have HA : Hid (TakeTo B rp cp op n c1 c2 s (some (shadeS ((s.setFr k false).setRt j k) k)) W (.returned (.bool true)) w4) := ⟨⟨rfl, HR4⟩, O3.out.trans HO4⟩
    clear HR4 HO4 hsh s2 f3 rl2
    go_wp2
    go_ret
    exact HA.out
end Go.Proofs.Ytokaibpkajloeaa.walks
