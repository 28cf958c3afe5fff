/-
  What the program's waits, isAwaited, firstFree and rowsOf answer; they make new memory alone.
-/
import Derived.Test.YthjcgnldlhjjmabProg
import Derived.Test.YthjcgnldlhjjmabMoveMath
import Derived.Test.YthjcgnldlhjjmabRowMath
import Derived.Test.YthjcgnldlhjjmabMoveBase
import Derived.Test.YthjcgnldlhjjmabInts
import Derived.Test.YthjcgnldlhjjmabArrs
import Derived.Test.YthjcgnldlhjjmabOwnMoves
import Derived.Test.YthjcgnldlhjjmabRecsMove
import Derived.Test.YthjcgnldlhjjmabGoodSpec
import Derived.Test.YthjcgnldlhjjmabSources
import Derived.WalkKit
import Derived.WalkSpells
import Derived.Below
import Derived.Handy
import Derived.Deep.LoopGhost
import Derived.Deep.RegionWith
import Derived.Deep.RegionHeld3
import Derived.Deep.MidRow
import Derived.Deep.DeepCutAuto
namespace Go.Proofs.Ythjcgnldlhjjmab.walks
open Go.RowKit Go.Proofs.Ythjcgnldlhjjmab.math Go.Proofs.Ythjcgnldlhjjmab.ints
set_option linter.unusedVariables false
set_option maxRecDepth 100000

theorem park9 {P : Prop} (h : Hid P) : P := h
theorem zeros2 (W : World) (t : TypeId) : (W.alloc (.cells #[.int .i64 0, .int .i64 0] t)).rowIs W.heap.size t 2 (fun _ => .int .i64 0) := arr_new (f := fun _ => 0) (arr_zero 2)
theorem impl_waits (g m : Nat) (s : Int → Int) (W : World) (hm : m < 10) (h : Hid (W.rowIs g 45 10 (fun i => .int .i64 (s (i : Int))))) :
    Calls Try.prog 24 #[.pointer (some ⟨g, 0, none⟩), .int .i64 (m : Int)] W fun e W' => e = .returned (.bool (decide (s (m : Int) ≠ (m : Int)))) ∧ W' = W := by
  have c0 := h.out.cell hm
  have hmI : (m : Int) < 10 := by omega
  obtain ⟨x, hx⟩ : ∃ x, Hid (s (m : Int) = x) := ⟨_, rfl⟩
  rw [hx.out] at c0 ⊢
  by_cases e : x = (m : Int)
  · subst e
    go_enter Try.func24, Try.ntmps24
    go_wp2
    go_ret
    exact ⟨by simp, rfl⟩
  · have e1 : (x == (m : Int)) = false := by simpa using e
    have e2 : decide (x = (m : Int)) = false := decide_eq_false e
    have e3 : decide (x ≠ (m : Int)) = true := decide_eq_true e
    have e4 : (x != (m : Int)) = true := by simpa using e
    rw [e3]
    go_enter Try.func24, Try.ntmps24
    go_wp2
    go_ret
    exact ⟨rfl, rfl⟩
set_option maxHeartbeats 1000000 in
theorem impl_awaited (g m : Nat) (s : Int → Int) (W : World) (hm : m < 10) (h : Hid (W.rowIs g 45 10 (fun i => .int .i64 (s (i : Int))))) :
    Calls Try.prog 30 #[.pointer (some ⟨g, 0, none⟩), .int .i64 (m : Int)] W fun e W' => e = .returned (.bool (awB s (m : Int))) ∧ Below W.heap.size W W' := by
  go_enter Try.func30, Try.ntmps30
  go_wp2
  go_loopw [8] (fun vi wr => ∃ k : Nat, k ≤ 10 ∧ vi = .int .i64 k ∧ Hid (∀ q : Nat, q < k → s (q : Int) = (m : Int) → (q : Int) = (m : Int)) ∧ Hid (wr.rowIs g 45 10 (fun i => .int .i64 (s (i : Int)))) ∧ Hid (Below W.heap.size W wr)) (fun vi _ => 20 - (intOf vi).toNat)
  case atStart => exact ⟨0, by omega, rfl, fun q hq => by omega, h, Below.refl _ _⟩
  case round =>
    obtain ⟨k, hk, rfl, HN, HR, HB⟩ := hrel
    by_cases hlt : k < 10
    · have c0 := HR.out.cell hlt
      have hkI : (k : Int) < 10 := by omega
      obtain ⟨x, hx⟩ : ∃ x, Hid (s (k : Int) = x) := ⟨_, rfl⟩
      rw [hx.out] at c0
      have HB' : Hid (Below W.heap.size W wr.drew) := HB.out.drew
      have HR' : Hid (wr.drew.rowIs g 45 10 (fun i => .int .i64 (s (i : Int)))) := HR.out
      have go : Hid ((s (k : Int) = (m : Int) → (k : Int) = (m : Int)) → ∀ q : Nat, q < k + 1 → s (q : Int) = (m : Int) → (q : Int) = (m : Int)) := by
        show (s (k : Int) = (m : Int) → (k : Int) = (m : Int)) → ∀ q : Nat, q < k + 1 → _
        intro hq q q1 q2
        by_cases e : q = k
        · subst e; exact hq q2
        · exact HN.out q (by omega) q2
      by_cases e : x = (m : Int)
      · by_cases e' : (k : Int) = (m : Int)
        · have d1 : ((k : Int) == (m : Int)) = true := by simpa using e'
          have d2 : decide ((k : Int) = (m : Int)) = true := decide_eq_true e'
          have HE' : Hid ((k : Int) = (m : Int)) := e'
          subst e
          clear e'
          go_wp2
          go_region
          all_goals
            go_wp2
            go_roundw
            case rel => exact ⟨k + 1, by omega, by go_num, go.out (fun _ => HE'.out), HR', HB'⟩
            case measure => simp [intOf]; omega
        · have HE : Hid (awB s (m : Int) = true) := aw_yes hlt (hx.out.trans e) e'
          have d1 : ((k : Int) == (m : Int)) = false := by simpa using e'
          have d2 : decide ((k : Int) = (m : Int)) = false := decide_eq_false e'
          subst e
          clear e'
          go_wp2
          go_region
          all_goals
            go_wp2
            go_ret
            exact ⟨by rw [HE.out]; rfl, HB'.out⟩
      · have d1 : (x == (m : Int)) = false := by simpa using e
        have d2 : decide (x = (m : Int)) = false := decide_eq_false e
        have HE : Hid (x ≠ (m : Int)) := e
        clear e
        go_wp2
        go_region
        all_goals
          go_wp2
          go_roundw
          case rel => exact ⟨k + 1, by omega, by go_num, go.out (fun r => absurd (hx.out.symm.trans r) HE.out), HR', HB'⟩
          case measure => simp [intOf]; omega
    · have HE : Hid (awB s (m : Int) = false) := aw_no (fun q hq => HN.out q (by omega))
      go_wp2
      go_ret
      exact ⟨by rw [HE.out]; rfl, HB.out⟩
/-- What firstFree answers. -/
def FreeAns (zs : List Int) (s : Int → Int) (len : Nat) (W : World) (e : Ending) (W' : World) : Prop :=
  Below W.heap.size W W' ∧ ((firstF zs s len < len ∧ e = .returned (.tuple #[.agg #[.int .i64 (frM zs (firstF zs s len)), .int .i64 (toM zs (firstF zs s len))], .bool true])) ∨ (¬ firstF zs s len < len ∧ e = .returned (.tuple #[.agg #[.int .i64 0, .int .i64 0], .bool false])))
set_option maxHeartbeats 4000000 in
theorem impl_free (g : Nat) (a : Option Addr) (len cap : Nat) (zs : List Int) (s : Int → Int) (W : World) (hz : Hid (zs.length = len * 2)) (hlen : len ≤ 1048576) (hG : Hid (GoodM zs len)) (h : Hid (Ints W a zs)) (hr : Hid (W.rowIs g 45 10 (fun i => .int .i64 (s (i : Int))))) :
    Calls Try.prog 23 #[.pointer (some ⟨g, 0, none⟩), .slice a len cap] W (FreeAns zs s len W) := by
  have hgW := hr.out.lt
  go_enter Try.func23, Try.ntmps23
  go_wp2
  go_loopw [10] (fun vi wr => ∃ k : Nat, k ≤ len ∧ vi = .int .i64 k ∧ Hid (∀ j, j < k → freeB s (toM zs j) = false) ∧ Hid (wr.rowIs W.heap.size 33 2 (fun _ => .int .i64 0)) ∧ Hid (Below W.heap.size W wr)) (fun vi _ => len - (intOf vi).toNat)
  case atStart => exact ⟨0, Nat.zero_le _, rfl, fun j hj => by omega, zeros2 W _, by show Below _ _ _; go_grown⟩
  case round =>
    obtain ⟨k, hk, rfl, HN, HZ, HB⟩ := hrel
    have hWl := HZ.out.lt
    have z0 := HZ.out.cell (i := 0) (by omega)
    have z1 := HZ.out.cell (i := 1) (by omega)
    have y0 := HZ.out.frozen 0
    have y1 := HZ.out.frozen 1
    by_cases hlt : k < len
    · obtain ⟨b, off, x, y, ha, hb, m0, m1, HX, HY⟩ := move_at h.out hz.out HB.out hlt
      subst ha
      have hbw : b < wr.heap.size := by omega
      obtain ⟨p0, p1⟩ := inR_out (hG.out k hlt).2.1
      rw [HY.out] at p0 p1
      obtain ⟨j, rfl⟩ : ∃ j : Nat, y = (j : Int) := ⟨y.toNat, by omega⟩
      have hj : j < 10 := by omega
      have HB1 : Hid (Below W.heap.size W (wr.alloc (.cells #[.int .i64 x, .int .i64 (j : Int)] 33))) := HB.out.alloc HB.out.size _
      have HR1 : Hid ((wr.alloc (.cells #[.int .i64 x, .int .i64 (j : Int)] 33)).rowIs g 45 10 (fun i => .int .i64 (s (i : Int)))) := hr.out.of_block (HB1.out.block g hgW)
      cases hw : decide (s (j : Int) ≠ (j : Int))
      · have HF : Hid (freeB s (toM zs k) = false) := by
          show freeB s (toM zs k) = false
          rw [HY.out]
          exact free_still (Classical.byContradiction fun r => of_decide_eq_false hw r)
        have HN' : Hid (∀ i, i < k + 1 → freeB s (toM zs i) = false) := by
          show ∀ i, i < k + 1 → _
          intro i hi
          by_cases e : i = k
          · rw [e]; exact HF.out
          · exact HN.out i (by omega)
        have HZ1 : Hid ((wr.alloc (.cells #[.int .i64 x, .int .i64 (j : Int)] 33)).rowIs W.heap.size 33 2 (fun _ => .int .i64 0)) := HZ.out.alloc _
        have HW : Hid (decide (s (j : Int) ≠ (j : Int)) = false) := hw
        clear hw z0 z1 y0 y1
        go_wp2_with (go_at_call 24; refine (impl_waits g j s _ hj HR1).mono ?_; rw [HW.out]; rintro e w' ⟨rfl, hw'⟩; rw [hw']; clear hw' w')
        go_roundw
        case rel => exact ⟨k + 1, by omega, by go_num, HN', HZ1, HB1⟩
        case measure => simp [intOf]; omega
      · have HW : Hid (decide (s (j : Int) ≠ (j : Int)) = true) := hw
        have hwt := of_decide_eq_true hw
        cases haw : awB s (j : Int)
        · have HA : Hid (awB s (j : Int) = false) := haw
          have HF : Hid (firstF zs s len = k) := ff_is (by rw [HY.out]; exact free_mk hwt haw) HN.out hlt
          clear hw hwt haw
          go_wp2_with (first
            | (go_at_call 24; refine (impl_waits g j s _ hj HR1).mono ?_; rw [HW.out]; rintro e w' ⟨rfl, hw'⟩; rw [hw']; clear hw' w')
            | (go_at_call 30; refine park9 ?_))
          unfold Hid
          refine (impl_awaited g j s _ hj HR1).mono ?_
          rw [HA.out]
          rintro e w2 ⟨rfl, hB⟩
          obtain ⟨q0, q1⟩ := bcell hB
          have t0 : w2.cell? ⟨wr.heap.size, 0, none⟩ = some (.int .i64 x) := (q0 _ _ (by simp)).trans (by simp)
          have t1 : w2.cell? ⟨wr.heap.size, 1, none⟩ = some (.int .i64 (j : Int)) := (q0 _ _ (by simp)).trans (by simp)
          have r0 : w2.cell? ⟨W.heap.size, 0, none⟩ = some (.int .i64 0) := (q0 _ _ (by simp; omega)).trans ((World.cell?_alloc_past _ _ _ hWl).trans z0)
          have r1 : w2.cell? ⟨W.heap.size, 1, none⟩ = some (.int .i64 0) := (q0 _ _ (by simp; omega)).trans ((World.cell?_alloc_past _ _ _ hWl).trans z1)
          have r2 : w2.frozen? ⟨W.heap.size, 0, none⟩ = false := (q1 _ _ (by simp; omega)).trans ((World.frozen?_alloc_past _ _ _ hWl).trans y0)
          have r3 : w2.frozen? ⟨W.heap.size, 1, none⟩ = false := (q1 _ _ (by simp; omega)).trans ((World.frozen?_alloc_past _ _ _ hWl).trans y1)
          have HB2 : Hid (Below W.heap.size W w2) := HB1.out.trans (hB.mono HB1.out.size)
          clear hB q0 q1 z0 z1 y0 y1
          go_wp2
          refine bodyPost_ret (v := .tuple #[.agg #[.int .i64 x, .int .i64 (j : Int)], .bool true]) (by simp [results, Try.results23, go_sem, r0, r1]) rfl ⟨(HB2.out.setCell (by simp) _).setCell (by simp) _, Or.inl ⟨by rw [HF.out]; exact hlt, by rw [HF.out, HX.out, HY.out]⟩⟩
        · have HA : Hid (awB s (j : Int) = true) := haw
          have HF : Hid (freeB s (toM zs k) = false) := by
            show freeB s (toM zs k) = false
            rw [HY.out]; exact free_aw haw
          have HN' : Hid (∀ i, i < k + 1 → freeB s (toM zs i) = false) := by
            show ∀ i, i < k + 1 → _
            intro i hi
            by_cases e : i = k
            · rw [e]; exact HF.out
            · exact HN.out i (by omega)
          have HZ1 : Hid ((wr.alloc (.cells #[.int .i64 x, .int .i64 (j : Int)] 33)).rowIs W.heap.size 33 2 (fun _ => .int .i64 0)) := HZ.out.alloc _
          clear hw hwt haw z0 z1 y0 y1
          go_wp2_with (first
            | (go_at_call 24; refine (impl_waits g j s _ hj HR1).mono ?_; rw [HW.out]; rintro e w' ⟨rfl, hw'⟩; rw [hw']; clear hw' w')
            | (go_at_call 30; refine park9 ?_))
          unfold Hid
          refine (impl_awaited g j s _ hj HR1).mono ?_
          rw [HA.out]
          rintro e w2 ⟨rfl, hB⟩
          have HB2 : Hid (Below W.heap.size W w2) := HB1.out.trans (hB.mono HB1.out.size)
          have HZ2 : Hid (w2.rowIs W.heap.size 33 2 (fun _ => .int .i64 0)) := HZ1.out.of_block (hB.block _ (by simp; omega))
          clear hB
          go_wp2
          go_roundw
          case rel => exact ⟨k + 1, by omega, by go_num, HN', HZ2, HB2⟩
          case measure => simp [intOf]; omega
    · have HF : Hid (¬ firstF zs s len < len) := by
        show ¬ _
        rw [ff_all (fun j hj => HN.out j (by omega))]; omega
      go_wp2
      refine bodyPost_ret (v := .tuple #[.agg #[.int .i64 0, .int .i64 0], .bool false]) (by simp [results, Try.results23, go_sem, z0, z1]) rfl ⟨(HB.out.setCell (by simp) _).setCell (by simp) _, Or.inr ⟨HF.out, rfl⟩⟩

theorem grow_cells (b : Nat) : ∀ (vs : List Value) (o : Nat) (w : World), w.grownBy (w.setCells b o vs) (some b)
  | [], _, w => ⟨rfl, rfl, rfl, Nat.le_refl _, fun _ _ _ => rfl⟩
  | v :: r, o, w => by
    rw [World.setCells]
    have h := grow_cells b r (o + 1) (w.setCell ⟨b, o, none⟩ v)
    exact ⟨h.os, h.tape, h.output, by have := h.size; simpa [World.setCell] using this, fun k hk hne => (h.block k (by simpa [World.setCell] using hk) hne).trans (Below.heap_setCell _ _ _ _ (by simpa using hne))⟩
theorem size_cells (b : Nat) : ∀ (vs : List Value) (o : Nat) (w : World), (w.setCells b o vs).heap.size = w.heap.size
  | [], _, w => rfl
  | v :: r, o, w => by
    rw [World.setCells, size_cells b r (o + 1)]
    simp [World.setCell]
theorem below_setCells {B b : Nat} {w0 w : World} (hb : Below B w0 w) (hB : B ≤ b) (o : Nat) (vs : List Value) : Below B w0 (w.setCells b o vs) := by
  have h := grow_cells b vs o w
  exact hb.trans ⟨h.os, h.tape, h.output, h.size, fun k hk => by
    by_cases q : k < w.heap.size
    · exact h.block k q (by simp; omega)
    · have hs := size_cells b vs o w
      rw [Array.getElem?_eq_none (by omega), Array.getElem?_eq_none (by omega)]⟩
theorem ownM_cells {w : World} {B : Nat} {v : Value} {m : Nat} {zs : List Int} (h : OwnM w B v m zs) {b : Nat} (hb : b < B) (o : Nat) (vs : List Value) : OwnM (w.setCells b o vs) B v m zs :=
  World.ownsRow.kept h (grow_cells b vs o w) (by
    cases q : v.ownBlock with
    | none => exact Or.inl rfl
    | some g => exact Or.inr (by have := (World.ownsRow.lt h g q).1; simp; omega))
theorem range_arr {w : World} {g n : Nat} {t : TypeId} {c : Array Value} {f : Nat → Int} (h : IsArr c n f) (e : w.heap[g]? = some (.cells c t (0, 0))) : w.rangeAt g 0 c.toList := fun j v hv => by
  rw [cell_of_row w g (0 + j) c t (0, 0) e]
  simpa using hv
theorem there_arr {w : World} {g n : Nat} {t : TypeId} {c : Array Value} {f : Nat → Int} (h : IsArr c n f) (e : w.heap[g]? = some (.cells c t (0, 0))) : w.there g 0 n := fun j hj => by
  have hr := arr_row h e
  exact ⟨by rw [Nat.zero_add, hr.cell hj]; rfl, by rw [Nat.zero_add]; exact hr.frozen j⟩
theorem arr_ones {n : Nat} {c : Array Value} {f : Nat → Int} (h : IsArr c n f) : ∀ v ∈ c.toList, v.oneCell' = true := by
  have := h.one
  rw [Array.all_eq_true_iff_forall_mem] at this
  intro v hv
  exact this v (by simpa using hv)
theorem ownM_set {w : World} {B : Nat} {v : Value} {m : Nat} {zs : List Int} (h : OwnM w B v m zs) {a : Addr} (ha : a.block < B) (u : Value) : OwnM (w.setCell a u) B v m zs := ownsRow_setCell_below h ha u
/-- What rowsOf answers: the moves that are on no ring, laid, and the sources behind them. -/
def RowsAns (zs : List Int) (len : Nat) (W : World) (e : Ending) (W' : World) : Prop :=
  Below W.heap.size W W' ∧ ((movesB zs len = true ∧ ∃ c v m, IsArr c 10 (fun i => rowS zs len 10 (i : Int)) ∧ OwnM W' W.heap.size v m (rowL zs len 10) ∧ e = .returned (.tuple #[v, .agg c, .bool true])) ∨ (movesB zs len = false ∧ ∃ c, IsArr c 10 (fun _ => 0) ∧ e = .returned (.tuple #[.slice none 0 0, .agg c, .bool false])))
theorem results_range3 {P : Program} {fn : Func} {q p u : Tmp} {ty : TypeId} (h : fn.results = #[.tmp q, .cell p ty, .tmp u]) (tmps : Array Value) (w : World) (g : Nat) (cs : List Value) (d : TypeDesc)
    (hp : tmps.getD p undef = .pointer (some ⟨g, 0, none⟩)) (hg : w.rangeAt g 0 cs)
    (hu : P.underlying ty = some d) (hd : d.isRow = true) (hi : (P.info? ty).map (·.size) = some cs.length) (x b : Value) (hx : tmps.getD q undef = x) (hb : tmps.getD u undef = b) :
    (results fn tmps).run P w = .ok (.tuple #[x, .agg cs.toArray, b]) w := by
  have hp' : tmps[p]?.getD undef = .pointer (some ⟨g, 0, none⟩) := by simpa using hp
  have hx' : tmps[q]?.getD undef = x := by simpa using hx
  have hb' : tmps[u]?.getD undef = b := by simpa using hb
  simp [results, h, hp', hx', hb', asAddr, run_loadVar_mid w g 0 ty cs d hg hu hd hi]
theorem results_row3 {P : Program} {fn : Func} {q p u : Tmp} {ty : TypeId} (h : fn.results = #[.tmp q, .cell p ty, .tmp u]) (tmps : Array Value) (w : World) (g : Nat) (t : TypeId) (cs : Array Value) (fr : Nat × Nat) (d : TypeDesc)
    (hp : tmps.getD p undef = .pointer (some ⟨g, 0, none⟩)) (hg : w.heap[g]? = some (.cells cs t fr))
    (hu : P.underlying ty = some d) (hd : (match d with | .struct _ | .array _ _ => true | _ => false) = true) (hi : (P.info? ty).map (·.size) = some cs.size) (x b : Value) (hx : tmps.getD q undef = x) (hb : tmps.getD u undef = b) :
    (results fn tmps).run P w = .ok (.tuple #[x, .agg cs, b]) w := by
  have hp' : tmps[p]?.getD undef = .pointer (some ⟨g, 0, none⟩) := by simpa using hp
  have hx' : tmps[q]?.getD undef = x := by simpa using hx
  have hb' : tmps[u]?.getD undef = b := by simpa using hb
  simp [results, h, hp', hx', hb', asAddr, run_loadVar_row w g t ty cs fr d hg hu hd hi]
set_option maxHeartbeats 4000000 in
theorem impl_rows (a : Option Addr) (len cap : Nat) (zs : List Int) (W : World) (hz : Hid (zs.length = len * 2)) (hlen : len ≤ 1048576) (h : Hid (Ints W a zs)) :
    Calls Try.prog 17 #[.slice a len cap] W (RowsAns zs len W) := by
  obtain ⟨i0, hi, hz0, hz1, hz2⟩ := move_parts
  have hzr : Hid (IsArr (Array.replicate 10 (.int .i64 0)) 10 (fun _ => 0)) := arr_zero 10
  have hz1r : Hid ((W.alloc (.cells #[.int .i64 0, .int .i64 0, .int .i64 0, .int .i64 0, .int .i64 0, .int .i64 0, .int .i64 0, .int .i64 0, .int .i64 0, .int .i64 0] 45)).rowIs W.heap.size 45 10 (fun i => .int .i64 0)) := zeros10 W _
  have HB0 : Hid (Below W.heap.size W (W.alloc (.cells #[.int .i64 0, .int .i64 0, .int .i64 0, .int .i64 0, .int .i64 0, .int .i64 0, .int .i64 0, .int .i64 0, .int .i64 0, .int .i64 0] 45))) := (Below.refl _ _).alloc (Nat.le_refl _) _
  go_enter Try.func17, Try.ntmps17
  go_wp2_with fail
  refine (impl_sources _ _ _ zs _ hz hlen (h.out.kept HB0.out)).mono ?_
  rintro e w1 ⟨hB, hm⟩
  have HB1 : Hid (Below W.heap.size W w1) := HB0.out.trans (hB.mono (by simp))
  have HZ1 : Hid (w1.rowIs W.heap.size 45 10 (fun i => .int .i64 0)) := hz1r.out.of_block (hB.block _ (by simp))
  have hs1 : W.heap.size < w1.heap.size := HZ1.out.lt
  clear hB hz1r HB0
  rcases hm with ⟨hm, c1, hc1, rfl⟩ | ⟨hm, c1, hc1, rfl⟩
  rotate_left
  · have HM : Hid (movesB zs len = false) := hm
    have HC1 : Hid (IsArr c1 10 (fun _ => 0)) := hc1
    obtain ⟨c0, hc0, hg0⟩ := row_arr (f := fun _ => 0) (HZ1.out.alloc (.cells c1 45))
    have HC0 : Hid (IsArr c0 10 (fun _ => 0)) := hc0
    have HG0 : Hid ((w1.alloc (.cells c1 45)).heap[W.heap.size]? = some (.cells c0 45 (0, 0))) := hg0
    have HB2 : Hid (Below W.heap.size W (w1.alloc (.cells c1 45))) := HB1.out.alloc HB1.out.size _
    clear hm hc1 hc0 hg0
    go_wp2_with (first
      | (refine wpList_store_row rfl 45 _ _ rfl w1.heap.size c1 rfl rfl 45 #[.int .i64 0, .int .i64 0, .int .i64 0, .int .i64 0, .int .i64 0, .int .i64 0, .int .i64 0, .int .i64 0, .int .i64 0, .int .i64 0] (heap_alloc_last w1 _) (src_info HC1.out) HC1.out.size.symm HC1.out.one ?_; rw [World.setRow_alloc_new])
      | (refine wpList_store_row rfl 45 _ _ rfl W.heap.size (Array.replicate 10 (.int .i64 0)) rfl rfl 45 c0 HG0.out (src_info hzr.out) (HC0.out.size.trans hzr.out.size.symm) hzr.out.one ?_)
      | go_in)
    refine bodyPost_ret (v := .tuple #[.slice none 0 0, .agg (Array.replicate 10 (.int .i64 0)), .bool false]) ?_ rfl ⟨below_setRow HB2.out (Nat.le_refl _) _, Or.inr ⟨HM.out, _, hzr.out, rfl⟩⟩
    exact results_row3 rfl _ _ W.heap.size 45 _ (0, 0) _ rfl (setRow_heap _ _ _ _ _ _ HG0.out) Try.underlying45 rfl (src_info hzr.out) _ _ rfl rfl
  have HM : Hid (movesB zs len = true) := hm
  obtain ⟨h10, hg⟩ := moves_out hm
  have HG : Hid (GoodM zs len) := hg
  have HC1 : Hid (IsArr c1 10 (fun i => srcTo zs len (i : Int))) := hc1
  clear hm hc1 hg
  go_wp2_with (first
    | (refine wpList_store_row rfl 45 _ _ rfl w1.heap.size c1 rfl rfl 45 #[.int .i64 0, .int .i64 0, .int .i64 0, .int .i64 0, .int .i64 0, .int .i64 0, .int .i64 0, .int .i64 0, .int .i64 0, .int .i64 0] (heap_alloc_last w1 _) (src_info HC1.out) HC1.out.size.symm HC1.out.one ?_; rw [World.setRow_alloc_new])
    | go_in)
  go_loopg [7] 12 (fun gk vl wr => ∃ (c m : Nat) (v : Value), c + gk = 12 ∧ wcTo (rowS zs len c) 10 + c ≤ 10 ∧ v = vl ∧ m ≤ c ∧ Hid (OwnM wr (w1.heap.size + 1) v m (rowL zs len c)) ∧ Hid (wr.rowIs w1.heap.size 45 10 (fun i => .int .i64 (rowS zs len c (i : Int)))) ∧ Hid (wr.rowIs W.heap.size 45 10 (fun i => .int .i64 0)) ∧ Hid (Below W.heap.size W wr))
  case atStart => exact ⟨0, 0, _, by omega, by have := wc_le (rowS zs len 0) 10; omega, rfl, by omega, ownM_nil _ _, arr_new HC1.out, HZ1.out.alloc _, HB1.out.alloc HB1.out.size _⟩
  case round =>
    obtain ⟨c, m, v, hc, hwc, rfl, hmc, HO, HF, HZ, HB⟩ := hrel
    clear HC1 HZ1 HB1
    have hF := HF.out.lt
    go_wp2_with fail
    refine (impl_free w1.heap.size _ _ _ zs (rowS zs len c) _ hz hlen HG (h.out.kept HB.out) HF).mono ?_
    rintro e w2 ⟨hB, hf⟩
    have HB2 : Hid (Below W.heap.size W w2) := HB.out.trans (hB.mono HB.out.size)
    have HF2 : Hid (w2.rowIs w1.heap.size 45 10 (fun i => .int .i64 (rowS zs len c (i : Int)))) := HF.out.of_block (hB.block _ hF)
    have HZ2 : Hid (w2.rowIs W.heap.size 45 10 (fun i => .int .i64 0)) := HZ.out.of_block (hB.block _ HZ.out.lt)
    have HO2 : Hid (OwnM w2 (w1.heap.size + 1) v m (rowL zs len c)) := HO.out.kept hB
    have hF2 := HF2.out.lt
    clear hB HO HF HZ HB
    rcases hf with ⟨hf, rfl⟩ | ⟨hf, rfl⟩
    · obtain ⟨k, hk⟩ : ∃ k, Hid (firstF zs (rowS zs len c) len = k) := ⟨_, rfl⟩
      rw [hk.out] at hf ⊢
      have HS' : Hid (rowS zs len (c + 1) = updS (rowS zs len c) (toM zs k)) := rowS_go hk.out hf
      have HL' : Hid (rowL zs len (c + 1) = rowL zs len c ++ [frM zs k, toM zs k]) := rowL_go hk.out hf
      have hwc' : wcTo (rowS zs len (c + 1)) 10 + (c + 1) ≤ 10 := by
        have := row_wc HG.out (c := c) (by rw [hk.out]; exact hf)
        omega
      obtain ⟨p0, p1⟩ := inR_out (HG.out k hf).2.1
      obtain ⟨x, hx⟩ : ∃ x, Hid (frM zs k = x) := ⟨_, rfl⟩
      obtain ⟨y, hy⟩ : ∃ y, Hid (toM zs k = y) := ⟨_, rfl⟩
      rw [hx.out] at HL' ⊢
      rw [hy.out] at HL' HS' p0 p1 ⊢
      obtain ⟨j, rfl⟩ : ∃ j : Nat, y = (j : Int) := ⟨y.toNat, by omega⟩
      have hj : j < 10 := by omega
      have hjI : (j : Int) < 10 := by omega
      have hrl : Hid ((rowL zs len c).length = m * 2) := HO2.out.len
      obtain ⟨R, hR⟩ : ∃ R, Hid (rowL zs len c = R) := ⟨_, rfl⟩
      rw [hR.out] at HO2 HL'
      have HO3 : Hid (OwnM (w2.alloc (.cells #[.int .i64 x, .int .i64 (j : Int)] 33)) (w1.heap.size + 1) v m R) := World.ownsRow.alloc HO2.out _
      have HF3 : Hid ((w2.alloc (.cells #[.int .i64 x, .int .i64 (j : Int)] 33)).rowIs w1.heap.size 45 10 (fun i => .int .i64 (rowS zs len c (i : Int)))) := HF2.out.alloc _
      have HZ3 : Hid ((w2.alloc (.cells #[.int .i64 x, .int .i64 (j : Int)] 33)).rowIs W.heap.size 45 10 (fun i => .int .i64 0)) := HZ2.out.alloc _
      have HB3 : Hid (Below W.heap.size W (w2.alloc (.cells #[.int .i64 x, .int .i64 (j : Int)] 33))) := HB2.out.alloc HB2.out.size _
      go_wp2_with (first
        | (at_builtin; refine wpList_append_own _ rfl _ _ 26 rfl (w1.heap.size + 1) 33 i0 (.agg #[.int .i64 0, .int .i64 0]) 2 16 Try.underlying26 hi hz0 hz1 hz2 rfl (by decide) _ m (R.map (Value.int .i64)) rfl (World.ownsRow.alloc HO3.out _) ⟨w2.heap.size + 1, 0, none⟩ 1 1 [.int .i64 x, .int .i64 (j : Int)] rfl rfl ?c1 (two_of _ _) ?c3 ?c4 ?c5 ?_)
        | go_in)
      case c1 => simpa using new_two (w2.alloc (.cells #[.int .i64 x, .int .i64 (j : Int)] 33)) x (j : Int) 33
      case c3 => unfold maxLen; omega
      case c4 => omega
      case c5 => simp; omega
      intro v2 w3 hown' hgrow _
      obtain ⟨o1, o2, o3⟩ := OwnM.snoc HO3.out (B' := W.heap.size) (by omega) (by simp; omega) HB3.out hown' hgrow
      have HO4 : Hid (OwnM w3 (w1.heap.size + 1) v2 (m + 1) (R ++ [x, (j : Int)])) := o1
      have HB4 : Hid (Below W.heap.size W w3) := o2
      have HF4 : Hid (w3.rowIs w1.heap.size 45 10 (fun i => .int .i64 (rowS zs len c (i : Int)))) := row_stays HO3.out HF3.out (by omega) hgrow
      have HZ4 : Hid (w3.rowIs W.heap.size 45 10 (fun i => .int .i64 0)) := row_stays HO3.out HZ3.out (by omega) hgrow
      have hne : some w2.heap.size ≠ v.ownBlock := by
        intro e
        have := (World.ownsRow.lt HO2.out _ e.symm).2
        omega
      have t1 : w3.cell? ⟨w2.heap.size, 1, none⟩ = some (.int .i64 (j : Int)) := (World.cell?_of_block (hgrow.block w2.heap.size (by simp; omega) hne)).trans ((World.cell?_alloc_past _ _ _ (by simp)).trans (by simp))
      have s0 := HF4.out.cell hj
      have s1 := HF4.out.frozen j
      have HU : Hid (∀ i : Nat, i < 10 → (if i = j then Value.int .i64 (j : Int) else Value.int .i64 (rowS zs len c (i : Int))) = Value.int .i64 (rowS zs len (c + 1) (i : Int))) := by
        show ∀ i : Nat, i < 10 → _
        intro i hi
        rw [HS'.out]
        show _ = Value.int .i64 (if (i : Int) = (j : Int) then (j : Int) else rowS zs len c (i : Int))
        by_cases e : i = j
        · rw [if_pos e, if_pos (by omega)]
        · rw [if_neg e, if_neg (by omega)]
      obtain ⟨s, hs⟩ : ∃ s, Hid (rowS zs len c (j : Int) = s) := ⟨_, rfl⟩
      rw [hs.out] at s0
      have hW1 : w1.heap.size < w3.heap.size := by omega
      clear hown' hgrow o1 o2 HO3 HF3 HZ3 HB3 HO2 HF2 HZ2 HB2 hne
      go_wp2
      go_roundg (gk - 1)
      case rel =>
        refine ⟨c + 1, m + 1, _, by omega, hwc', rfl, by omega, ?_, ?_, ?_, ?_⟩
        · rw [HL'.out]
          exact ownM_set HO4.out (by show w1.heap.size < w1.heap.size + 1; omega) _
        · exact World.rowIs.congr (HF4.out.set j (.int .i64 (j : Int))) HU.out
        · exact HZ4.out.setOther (by show W.heap.size ≠ w1.heap.size; omega) _
        · exact HB4.out.setCell (by show W.heap.size ≤ w1.heap.size; omega) _
      case measure => omega
    · obtain ⟨e1, e2⟩ := row_fin (show c ≤ 10 by omega) hf
      have HE1 : Hid (rowS zs len 10 = rowS zs len c) := e1
      have HE2 : Hid (rowL zs len 10 = rowL zs len c) := e2
      clear e1 e2 hf
      have HO3 : Hid (OwnM (w2.alloc (.cells #[.int .i64 0, .int .i64 0] 33)) (w1.heap.size + 1) v m (rowL zs len c)) := World.ownsRow.alloc HO2.out _
      have HB3 : Hid (Below W.heap.size W (w2.alloc (.cells #[.int .i64 0, .int .i64 0] 33))) := HB2.out.alloc HB2.out.size _
      obtain ⟨c2, hc2, hg2⟩ := row_arr (HF2.out.alloc (.cells #[.int .i64 0, .int .i64 0] 33))
      obtain ⟨c0, hc0, hg0⟩ := row_arr (f := fun _ => 0) (HZ2.out.alloc (.cells #[.int .i64 0, .int .i64 0] 33))
      have HC2 : Hid (IsArr c2 10 (fun i => rowS zs len c (i : Int))) := hc2
      have HC0 : Hid (IsArr c0 10 (fun _ => 0)) := hc0
      have HG2 : Hid ((w2.alloc (.cells #[.int .i64 0, .int .i64 0] 33)).heap[w1.heap.size]? = some (.cells c2 45 (0, 0))) := hg2
      have HG0 : Hid ((w2.alloc (.cells #[.int .i64 0, .int .i64 0] 33)).heap[W.heap.size]? = some (.cells c0 45 (0, 0))) := hg0
      clear hc2 hc0 hg2 hg0 HO2 HF2 HZ2 HB2
      obtain ⟨W3, hW3⟩ : ∃ W3, Hid (w2.alloc (.cells #[.int .i64 0, .int .i64 0] 33) = W3) := ⟨_, rfl⟩
      rw [hW3.out] at HO3 HB3 HG2 HG0
      have q1 : W3.rangeAt w1.heap.size 0 c2.toList := range_arr HC2.out HG2.out
      have q2 : W3.there W.heap.size 0 10 := there_arr HC0.out HG0.out
      have hu := Try.underlying45
      have hcl : c2.toList.length = 10 := by simpa using HC2.out.size
      have hi2 : (Try.prog.info? 45).map (·.size) = some c2.toList.length := by rw [hcl]; kernel_rfl
      have h1c : ∀ v ∈ c2.toList, v.oneCell' = true := arr_ones HC2.out
      obtain ⟨cs, hcs⟩ : ∃ cs, Hid (c2.toList = cs) := ⟨_, rfl⟩
      rw [hcs.out] at q1 hcl hi2 h1c
      go_upto_region 7 with fail
      rw [hW3.out]
      go_region_held3 (fun w' => w'.rangeAt w1.heap.size 0 cs ∧ w'.there W.heap.size 0 10) (go_keep_ranges) (fail)
      all_goals
        go_wp2
        refine bodyPost_ret (v := .tuple #[v, .agg cs.toArray, .bool true]) ?_ rfl ⟨below_setCells HB3.out.drew (Nat.le_refl _) _ _, Or.inl ⟨HM.out, cs.toArray, v, m, ?_, ?_, rfl⟩⟩
        · exact results_range3 rfl _ _ W.heap.size cs _ rfl (World.rangeAt_setCells_same _ _ _ _ (by rw [hcl]; simpa using q2)) Try.underlying45 rfl hi2 _ _ rfl rfl
        · rw [HE1.out, ← hcs.out]; simpa using HC2.out
        · rw [HE2.out]
          exact OwnM.low (ownM_cells (show OwnM W3.drew (w1.heap.size + 1) v m (rowL zs len c) from HO3.out) (by omega) _ _) (by omega)
end Go.Proofs.Ythjcgnldlhjjmab.walks
