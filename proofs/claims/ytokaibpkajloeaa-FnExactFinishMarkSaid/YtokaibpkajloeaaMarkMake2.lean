/-
  What the program's markRunOf makes of a marker, and GoodMarker.
-/
import Derived.Test.YtokaibpkajloeaaProg
import Derived.Test.YtokaibpkajloeaaInts
import Derived.Test.YtokaibpkajloeaaOwnInts
import Derived.Test.YtokaibpkajloeaaDeep
import Derived.Test.YtokaibpkajloeaaDeepRow
import Derived.Test.YtokaibpkajloeaaDeepM
import Derived.Test.YtokaibpkajloeaaDeepGrow
import Derived.Test.YtokaibpkajloeaaOwnMath
import Derived.Test.YtokaibpkajloeaaMarkMath
import Derived.Test.YtokaibpkajloeaaMarkWell
import Derived.Test.YtokaibpkajloeaaMarkSpec
import Derived.Test.YtokaibpkajloeaaMarkRun
import Derived.Test.YtokaibpkajloeaaMarkOut
import Derived.Test.YtokaibpkajloeaaNewRun
import Derived.Test.YtokaibpkajloeaaMarkAsk
import Derived.Test.YtokaibpkajloeaaMarkAsk2
import Derived.Test.YtokaibpkajloeaaMarkMake
import Derived.WalkKit
import Derived.WalkSpells
import Derived.Below
import Derived.Handy
import Derived.OwnWalk
import Derived.Maps.AppendAt
import Derived.Deep.OwnRows
import Derived.Deep.RegionLaw
import Derived.Deep.DeepFit
import Derived.Deep.DeepCutAuto
namespace Go.Proofs.Ytokaibpkajloeaa.walks
open Go.RowKit Go.Proofs.Ytokaibpkajloeaa.math Go.Proofs.Ytokaibpkajloeaa.ints Go.Proofs.Ytokaibpkajloeaa.deep
set_option linter.unusedVariables false
set_option linter.unusedSimpArgs false
set_option maxRecDepth 100000

theorem row_set {w : World} {B : Nat} {T : TypeId} {sz n : Nat} {v : Value} {xs : List Value} (h : w.ownsRow B T sz v n xs) {b i : Nat} (hb : b < B) (u : Value) : (w.setCell ⟨b, i, none⟩ u).ownsRow B T sz v n xs := by
  refine ⟨h.1, ?_⟩
  rcases h.2 with q | ⟨g, cap, cur, e, hg, hw, r⟩
  · exact Or.inl q
  · exact Or.inr ⟨g, cap, cur, e, hg, (Below.heap_setCell _ _ _ _ (by show g ≠ b; omega)).trans hw, r⟩
/-- A marker at work that is being made: k1 of its cells, k2 of its colors. -/
structure MakeAt (W w : World) (B rp k1 k2 : Nat) (vc vr v1 v2 : Value) (s : Mst) : Prop where
  box : w.rowIs W.heap.size 25 3 (rowF [vc, vr, .bool s.on])
  row : w.rowIs rp 74 5 (rowF [v1, v2, .int .i64 (s.rt 0), .int .i64 (s.rt 1), .bool s.on])
  cells : w.ownsRow B 78 3 v1 k1 ((List.range (k1 * 3)).map (cellV s))
  cols : w.ownsRow B 3 1 v2 k2 ((List.range k2).map (fun i => .int .i64 (s.co i)))
  dif : ∀ g, v1.ownBlock = some g → v2.ownBlock ≠ some g
  ord : W.heap.size < rp ∧ rp < B ∧ B ≤ w.heap.size
  bel : Below W.heap.size W w
theorem MakeAt.kept {W w w' : World} {B rp k1 k2 : Nat} {vc vr v1 v2 : Value} {s : Mst} (h : MakeAt W w B rp k1 k2 vc vr v1 v2 s) (hb : Below w.heap.size w w') : MakeAt W w' B rp k1 k2 vc vr v1 v2 s :=
  ⟨h.box.of_block (hb.block _ h.box.lt), h.row.of_block (hb.block _ h.row.lt), row_keep h.cells hb, row_keep h.cols hb, h.dif, ⟨h.ord.1, h.ord.2.1, Nat.le_trans h.ord.2.2 hb.size⟩, h.bel.trans (hb.mono h.bel.size)⟩
theorem range3 (f : Nat → Value) (k : Nat) : (List.range ((k + 1) * 3)).map f = (List.range (k * 3)).map f ++ [f (k * 3), f (k * 3 + 1), f (k * 3 + 2)] := by
  rw [show (k + 1) * 3 = k * 3 + 1 + 1 + 1 by omega, List.range_succ, List.range_succ, List.range_succ]
  simp
theorem cellV_three (s : Mst) (k : Nat) : cellV s (k * 3) = .int .i64 (s.lk k 0) ∧ cellV s (k * 3 + 1) = .int .i64 (s.lk k 1) ∧ cellV s (k * 3 + 2) = .bool (s.fr k) := by
  unfold cellV
  refine ⟨?_, ?_, ?_⟩
  · rw [if_neg (by omega), show k * 3 / 3 = k by omega, show k * 3 % 3 = 0 by omega]
  · rw [if_neg (by omega), show (k * 3 + 1) / 3 = k by omega, show (k * 3 + 1) % 3 = 1 by omega]
  · rw [if_pos (by omega), show (k * 3 + 2) / 3 = k by omega]
theorem MakeAt.cell {W Y X w3 : World} {B rp k k2 : Nat} {vc vr v1 v2 v' : Value} {s : Mst} (h : MakeAt W Y B rp k k2 vc vr v1 v2 s) (hb : Below Y.heap.size Y X) (h2 : w3.ownsRow B 78 3 v' (k + 1) ((List.range (k * 3)).map (cellV s) ++ [.int .i64 (s.lk k 0), .int .i64 (s.lk k 1), .bool (s.fr k)])) (g : X.grownBy w3 v1.ownBlock) (hv : v'.ownBlock = v1.ownBlock ∨ v'.ownBlock = some X.heap.size) : MakeAt W (w3.setCell ⟨rp, 0, none⟩ v') B rp (k + 1) k2 vc vr v' v2 s ∧ ∀ x, x < Y.heap.size → x ≠ rp → v1.ownBlock ≠ some x → (w3.setCell ⟨rp, 0, none⟩ v').heap[x]? = Y.heap[x]? := by
  obtain ⟨o1, o2, o3⟩ := h.ord
  have sX := hb.size
  have sg := g.size
  have gy : ∀ x, x < Y.heap.size → v1.ownBlock ≠ some x → w3.heap[x]? = Y.heap[x]? := fun x hx hne => (g.block x (by omega) (fun e => hne e.symm)).trans (hb.block x hx)
  have gb : ∀ x, x < B → w3.heap[x]? = Y.heap[x]? := fun x hx => gy x (by omega) (fun e => by have := (World.ownsRow.lt h.cells x e).1; omega)
  obtain ⟨e0, e1, e2⟩ := cellV_three s k
  refine ⟨⟨(h.box.of_block (gb _ (by omega))).setOther (by show W.heap.size ≠ rp; omega) _, ?_, row_set (by rw [range3, e0, e1, e2]; exact h2) o2 _, row_set (World.ownsRow.kept (row_keep h.cols hb) g ?_) o2 _, fun g' e e' => ?_, ⟨o1, o2, by simp [World.setCell]; omega⟩, ?_⟩, fun x hx hne hne2 => ?_⟩
  · refine ((h.row.of_block (gb _ o2)).set 0 v').congr (fun i hi => ?_)
    match i, hi with
    | 0, _ => rfl
    | 1, _ => rfl
    | 2, _ => rfl
    | 3, _ => rfl
    | 4, _ => rfl
  · cases q : v2.ownBlock with
    | none => exact Or.inl rfl
    | some x => exact Or.inr (fun e => h.dif x e.symm q)
  · rcases hv with r | r
    · exact h.dif g' (by rw [← r]; exact e) e'
    · rw [r] at e
      have e := Option.some.inj e
      have := (World.ownsRow.lt h.cols g' e').2
      omega
  · refine Below.setCell ?_ (by show W.heap.size ≤ rp; omega) _
    exact h.bel.trans ⟨g.os.trans hb.os, g.tape.trans hb.tape, g.output.trans hb.output, by omega, fun x hx => gb x (by omega)⟩
  · rw [Below.heap_setCell _ _ _ _ (by show x ≠ rp; exact hne)]
    exact gy x hx hne2
theorem MakeAt.col {W Y X w3 : World} {B rp k1 k : Nat} {vc vr v1 v2 v' : Value} {s : Mst} (h : MakeAt W Y B rp k1 k vc vr v1 v2 s) (hb : Below Y.heap.size Y X) (h2 : w3.ownsRow B 3 1 v' (k + 1) ((List.range k).map (fun i => .int .i64 (s.co i)) ++ [.int .i64 (s.co k)])) (g : X.grownBy w3 v2.ownBlock) (hv : v'.ownBlock = v2.ownBlock ∨ v'.ownBlock = some X.heap.size) : MakeAt W (w3.setCell ⟨rp, 1, none⟩ v') B rp k1 (k + 1) vc vr v1 v' s := by
  obtain ⟨o1, o2, o3⟩ := h.ord
  have sX := hb.size
  have sg := g.size
  have gb : ∀ x, x < B → w3.heap[x]? = Y.heap[x]? := fun x hx => (g.block x (by omega) (fun e => by have := (World.ownsRow.lt h.cols x e.symm).1; omega)).trans (hb.block x (by omega))
  refine ⟨(h.box.of_block (gb _ (by omega))).setOther (by show W.heap.size ≠ rp; omega) _, ?_, row_set (World.ownsRow.kept (row_keep h.cells hb) g ?_) o2 _, row_set (by rw [List.range_succ, List.map_append]; exact h2) o2 _, fun g' e e' => ?_, ⟨o1, o2, by simp [World.setCell]; omega⟩, ?_⟩
  · refine ((h.row.of_block (gb _ o2)).set 1 v').congr (fun i hi => ?_)
    match i, hi with
    | 0, _ => rfl
    | 1, _ => rfl
    | 2, _ => rfl
    | 3, _ => rfl
    | 4, _ => rfl
  · cases q : v1.ownBlock with
    | none => exact Or.inl rfl
    | some x => exact Or.inr (fun e => h.dif x q e.symm)
  · rcases hv with r | r
    · exact h.dif g' e (by rw [← r]; exact e')
    · rw [r] at e'
      have e' := Option.some.inj e'
      have := (World.ownsRow.lt h.cells g' e).2
      omega
  · refine Below.setCell ?_ (by show W.heap.size ≤ rp; omega) _
    exact h.bel.trans ⟨g.os.trans hb.os, g.tape.trans hb.tape, g.output.trans hb.output, by omega, fun x hx => gb x (by omega)⟩
theorem MakeAt.run {W w : World} {B rp n : Nat} {vc vr v1 v2 : Value} {s : Mst} (h : MakeAt W w B rp n n vc vr v1 v2 s) (hn : 0 < n) : ∃ cp op c1 c2, RunM w W.heap.size rp cp op n c1 c2 s := by
  obtain ⟨g1, c1, rfl⟩ := row_some15 h.cells hn
  obtain ⟨g2, c2, rfl⟩ := row_some15 h.cols hn
  obtain ⟨o1, o2, o3⟩ := h.ord
  have l1 := World.ownsRow.lt h.cells g1 rfl
  have l2 := World.ownsRow.lt h.cols g2 rfl
  refine ⟨g1, g2, c1, c2, h.row, own_cells h.cells (fun i hi => by simp [hi]), ?_, ⟨by omega, by omega, by omega⟩, ⟨by omega, by omega, fun e => h.dif g1 rfl (by rw [e]; rfl)⟩⟩
  have q := own_cells (f := fun i => .int .i64 (s.co i)) h.cols (fun i hi => by simp at hi; simp [hi])
  rw [Nat.mul_one] at q
  exact q
/-- What markRunOf answers. -/
def MadeM (cs : Nat → Dv) (n : Nat) (rs : List Int) (on : Bool) (W : World) (e : Ending) (W' : World) : Prop := ∃ v, e = .returned (.tuple #[.pointer v, .bool (markB cs n rs on)]) ∧ Below W.heap.size W W' ∧ (markB cs n rs on = true → ∃ rp cp op c1 c2, v = some ⟨rp, 0, none⟩ ∧ RunM W' W.heap.size rp cp op n c1 c2 (stM cs rs on))
theorem madeM_no {cs : Nat → Dv} {n : Nat} {rs : List Int} {on : Bool} {W W' : World} {v : Option Addr} (h : ¬ MarkOk cs n rs on) (hb : Below W.heap.size W W') : MadeM cs n rs on W (.returned (.tuple #[.pointer v, .bool false])) W' := ⟨v, by rw [mark_no h], hb, fun q => by rw [mark_no h] at q; cases q⟩
set_option maxHeartbeats 16000000 in
theorem impl_mrun (a : Option Addr) (n cap : Nat) (ra : Option Addr) (rl rc : Nat) (on : Bool) (cs : Nat → Dv) (rs : List Int) (c : Bool) (W : World) (hf : Hid (Fits shCellS (.l n 3 cs))) (hs : Hid (szD (.l n 3 cs) ≤ 1048576)) (h : Hid (Holds W c (.l n 3 cs) (.slice a n cap))) (hzr : Hid (rs.length = rl)) (hrl : rl ≤ 1048576) (Ir : Hid (Ints W ra rs)) :
    Calls Try.prog 42 #[.agg #[.slice a n cap, .slice ra rl rc, .bool on]] W fun e W' => MadeM cs n rs on W e W' := by
  have hn : n ≤ 1048576 := Nat.le_trans (Nat.le_add_right _ _) hs.out
  obtain ⟨X, hX⟩ : ∃ X, Hid (W.alloc (.cells #[.slice a n cap, .slice ra rl rc, .bool on] 25) = X) := ⟨_, rfl⟩
  have HX : Hid (Below W.heap.size W X) := by show Below _ _ _; rw [← hX.out]; exact (Below.refl _ _).alloc (Nat.le_refl _) _
  have hRX := row_of W #[.slice a n cap, .slice ra rl rc, .bool on] 25
  rw [hX.out] at hRX
  have HRX : Hid (X.rowIs W.heap.size 25 3 (rowF [.slice a n cap, .slice ra rl rc, .bool on])) := hRX
  clear hRX
  have r1 : X.cell? ⟨W.heap.size, 1, none⟩ = some (.slice ra rl rc) := HRX.out.cell (i := 1) (by decide)
  have rl0 := HRX.out.lt
  have hcount := impl_count (n : Int)
  have HN0 : Hid (MadeM cs n rs on W = MadeM cs n rs on W) := rfl
  clear HN0
  by_cases l2 : rl = 2
  rotate_left
  · have HA : Hid (¬ MarkOk cs n rs on) := fun q => l2 (by rw [← hzr.out]; exact q.1)
    have he := impl_ends_no ra rl rc X l2 hrl
    go_enter Try.func42, Try.ntmps42
    go_wp2_with fail
    rw [hX.out]
    refine he.mono ?_
    rintro e w1 ⟨rfl, hB⟩
    have HA2 : Hid (∀ o, MadeM cs n rs on W (.returned (.tuple #[.pointer none, .bool false])) (w1.alloc o)) := fun o => madeM_no HA.out ((HX.out.trans (hB.mono HX.out.size)).alloc (Nat.le_trans HX.out.size hB.size) _)
    clear hB he r1 rl0
    go_wp2
    go_ret2
    exact HA2.out _
  subst l2
  have he := impl_ends_yes ra rc rs X hzr (Ir.out.kept HX.out)
  by_cases hn0 : 2 ≤ (n : Int) ∧ (n : Int) ≤ 10
  rotate_left
  · have HA : Hid (¬ MarkOk cs n rs on) := fun q => hn0 (by have := q.2.2.1; omega)
    rw [decide_eq_false hn0] at hcount
    clear hn0
    go_enter Try.func42, Try.ntmps42
    go_wp2_with fail
    rw [hX.out]
    refine he.mono ?_
    rintro e w1 ⟨rfl, hB⟩
    have HA2 : Hid (∀ o, MadeM cs n rs on W (.returned (.tuple #[.pointer none, .bool false])) (w1.alloc o)) := fun o => madeM_no HA.out ((HX.out.trans (hB.mono HX.out.size)).alloc (Nat.le_trans HX.out.size hB.size) _)
    have r0 : w1.cell? ⟨W.heap.size, 0, none⟩ = some (.slice a n cap) := (HRX.out.of_block (hB.block _ HRX.out.lt)).cell (i := 0) (by decide)
    have rl1 := (HRX.out.of_block (hB.block _ HRX.out.lt)).lt
    clear hB he r1 rl0
    go_wp2_with (go_at_call 54; refine (hcount _).mono ?_; rintro e w' ⟨rfl, hw⟩; rw [hw]; clear hw w')
    go_ret2
    exact HA2.out _
  rw [decide_eq_true hn0] at hcount
  have hn2 : 2 ≤ n := by omega
  have hn10 : n ≤ 10 := by omega
  clear hn0
  go_enter Try.func42, Try.ntmps42
  go_wp2_with fail
  rw [hX.out]
  refine he.mono ?_
  rintro e w1 ⟨rfl, hB⟩
  have B1 : Hid (Below W.heap.size W w1) := HX.out.trans (hB.mono HX.out.size)
  have R1 : Hid (w1.rowIs W.heap.size 25 3 (rowF [.slice a n cap, .slice ra 2 rc, .bool on])) := HRX.out.of_block (hB.block _ HRX.out.lt)
  clear hB he r1 rl0 hX HX HRX
  obtain ⟨x0, HX0⟩ : ∃ x, Hid (rs.getD 0 0 = x) := ⟨_, rfl⟩
  obtain ⟨x1, HX1⟩ : ∃ x, Hid (rs.getD 1 0 = x) := ⟨_, rfl⟩
  rw [HX0.out, HX1.out]
  have r0 : w1.cell? ⟨W.heap.size, 0, none⟩ = some (.slice a n cap) := R1.out.cell (i := 0) (by decide)
  have r2 : w1.cell? ⟨W.heap.size, 2, none⟩ = some (.bool on) := R1.out.cell (i := 2) (by decide)
  have rl1 := R1.out.lt
  go_upto_region 5 with (go_at_call 54; refine (hcount _).mono ?_; rintro e w' ⟨rfl, hw⟩; rw [hw]; clear hw w')
  clear hcount
  obtain ⟨w3, hw3⟩ : ∃ w3, Hid ((w1.alloc (.cells #[.int .i64 x0, .int .i64 x1] 72)).alloc (.cells #[.slice none 0 0, .slice none 0 0, .int .i64 x0, .int .i64 x1, .bool on] 74) = w3) := ⟨_, rfl⟩
  obtain ⟨rp, Hrp⟩ : ∃ rp, Hid (w1.heap.size + 1 = rp) := ⟨_, rfl⟩
  obtain ⟨vc, HVC⟩ : ∃ v, Hid (Value.slice a n cap = v) := ⟨_, rfl⟩
  obtain ⟨vr, HVR⟩ : ∃ v, Hid (Value.slice ra 2 rc = v) := ⟨_, rfl⟩
  obtain ⟨s, HSS⟩ : ∃ s, Hid (stM cs rs on = s) := ⟨_, rfl⟩
  have M0 : Hid (MakeAt W w3 w3.heap.size rp 0 0 (.slice a n cap) (.slice ra 2 rc) (.slice none 0 0) (.slice none 0 0) s) := by
    show MakeAt _ _ _ _ _ _ _ _ _ _ _
    have e1 : (w1.alloc (.cells #[.int .i64 x0, .int .i64 x1] 72)).heap.size = w1.heap.size + 1 := by simp
    have q := row_of (w1.alloc (.cells #[.int .i64 x0, .int .i64 x1] 72)) #[.slice none 0 0, .slice none 0 0, .int .i64 x0, .int .i64 x1, .bool on] 74
    rw [e1, hw3.out, Hrp.out] at q
    have hb : Below w1.heap.size w1 w3 := by rw [← hw3.out]; exact ((Below.refl _ _).alloc (Nat.le_refl _) _).alloc (by simp) _
    have sz : w3.heap.size = w1.heap.size + 2 := by rw [← hw3.out]; simp
    have e2 := Hrp.out
    have rlt := R1.out.lt
    refine ⟨?_, ?_, World.ownsRow_nil _ _ _ _, World.ownsRow_nil _ _ _ _, (fun g e => by cases e), ⟨by omega, by omega, Nat.le_refl _⟩, B1.out.trans (hb.mono B1.out.size)⟩
    · rw [← HSS.out]; exact R1.out.of_block (hb.block _ rlt)
    · rw [← HSS.out]
      refine q.congr (fun i hi => ?_)
      match i, hi with
      | 0, _ => rfl
      | 1, _ => rfl
      | 2, _ => show Value.int .i64 x0 = .int .i64 (rs.getD 0 0); rw [HX0.out]
      | 3, _ => show Value.int .i64 x1 = .int .i64 (rs.getD 1 0); rw [HX1.out]
      | 4, _ => rfl
  rw [hw3.out, Hrp.out]
  clear hw3 r0 r2 rl1 R1 B1 Hrp HVC HVR
  have r0 : w3.cell? ⟨W.heap.size, 0, none⟩ = some (.slice a n cap) := M0.out.box.cell (i := 0) (by decide)
  have rl0 := M0.out.box.lt
  obtain ⟨i5, hi5, hz50, hz51, hz52⟩ := parts_of (P := Try.prog) (e := 78) (z := .agg #[.int .i64 0, .int .i64 0, .bool false]) (a := 3) (b := 24) (by kernel_rfl)
  obtain ⟨i3, hi3, hz30, hz31, hz32⟩ := parts_of (P := Try.prog) (e := 3) (z := .int .i64 0) (a := 1) (b := 8) (by kernel_rfl)
  generalize w3.heap.size = bz at M0
  go_wp2
  clear r0 rl0
  go_loopw [34] (fun vi wr => ∃ (k : Nat) (v1 v2 : Value), k ≤ n ∧ vi = .int .i64 k ∧ Hid (∀ j, j < k → mln cs j = 2) ∧ Hid (MakeAt W wr bz rp k k (.slice a n cap) (.slice ra 2 rc) v1 v2 s)) (fun vi _ => n - (intOf vi).toNat)
  case atStart => exact ⟨0, _, _, Nat.zero_le _, rfl, fun j hj => by omega, M0⟩
  case round =>
    obtain ⟨k, v1, v2, hk, rfl, HG, HM⟩ := hrel
    by_cases hlt : k < n
    rotate_left
    · have hkn : k = n := by omega
      subst hkn
      obtain ⟨cp, op, c1, c2, hrun⟩ := HM.out.run (by omega)
      have HRUN : Hid (RunM wr W.heap.size rp cp op k c1 c2 s) := hrun
      have HME : Hid (markB cs k rs on = (decide (LeadsW s k) && decide (ColorW s k))) := by
        show _ = _
        rw [← HSS.out]
        exact mark_eq ⟨hn2, hn10⟩ hzr.out HG.out
      have hls := impl_leadsw W.heap.size rp cp op k c1 c2 s wr hn10 HRUN
      have BW : Hid (Below W.heap.size W wr) := HM.out.bel
      clear hrun HM
      by_cases hL : LeadsW s k
      rotate_left
      · have HB : Hid (markB cs k rs on = false) := by show _ = _; rw [HME.out, decide_eq_false hL]; rfl
        rw [decide_eq_false hL] at hls
        have HA : Hid (∀ w', Below wr.heap.size wr w' → MadeM cs k rs on W (.returned (.tuple #[.pointer (some ⟨rp, 0, none⟩), .bool false])) w') := fun w' q => ⟨_, by rw [HB.out], BW.out.trans (q.mono BW.out.size), fun r => by rw [HB.out] at r; cases r⟩
        go_wp2_with fail
        refine hls.mono ?_
        rintro e w4 ⟨rfl, hB⟩
        have HA2 := HA.out w4 hB
        have HA3 : Hid (MadeM cs k rs on W (.returned (.tuple #[.pointer (some ⟨rp, 0, none⟩), .bool false])) w4) := HA2
        clear hB hls HA HA2
        go_wp2
        go_ret2
        exact HA3.out
      · have hcl := fun w (q : Below wr.heap.size wr w) => impl_colored W.heap.size rp cp op k c1 c2 s w hn10 (HRUN.out.kept q) hL
        have HCL : Hid (∀ w, Below wr.heap.size wr w → _) := hcl
        clear hcl
        have HA : Hid (∀ w', Below wr.heap.size wr w' → MadeM cs k rs on W (.returned (.tuple #[.pointer (some ⟨rp, 0, none⟩), .bool (decide (ColorW s k))])) w') := fun w' q => ⟨_, by rw [HME.out, decide_eq_true hL, Bool.true_and], BW.out.trans (q.mono BW.out.size), fun r => ⟨rp, cp, op, c1, c2, rfl, by rw [HSS.out]; exact HRUN.out.kept q⟩⟩
        rw [decide_eq_true hL] at hls
        obtain ⟨cb, HCB⟩ : ∃ b, Hid (decide (ColorW s k) = b) := ⟨_, rfl⟩
        rw [HCB.out] at HCL HA
        go_wp2_with fail
        refine hls.mono ?_
        rintro e w4 ⟨rfl, hB⟩
        have B4 : Hid (Below wr.heap.size wr w4) := hB
        have hc4 := HCL.out w4 hB
        clear hB hls
        go_wp2_with fail
        refine hc4.mono ?_
        rintro e w5 ⟨rfl, hB⟩
        have HA2 := HA.out w5 (B4.out.trans (hB.mono B4.out.size))
        have HA3 : Hid (MadeM cs k rs on W (.returned (.tuple #[.pointer (some ⟨rp, 0, none⟩), .bool cb])) w5) := HA2
        clear hB hc4 HA HA2 HCL
        go_wp2
        go_ret2
        exact HA3.out
    have hltI : (k : Int) < (n : Int) := by omega
    obtain ⟨b, o, la, lc, ha, hb, c0, c1, c2, hI⟩ := mcell_at h.out hf.out HM.out.bel hlt
    subst ha
    have HIL : Hid ((mls cs k).length = mln cs k) := mls_len cs k
    have HI : Hid (Ints wr la (mls cs k)) := hI
    have hbw : b < wr.heap.size := by have := HM.out.bel.size; omega
    have HLm : Hid (mln cs k ≤ 1048576) := by
      obtain ⟨m, es, he, _⟩ := (hf.out.cell hlt (c := 0) (by decide)).list
      have he : cs (k * 3) = .l m 1 es := he
      have q := sz_at (len := n) (sz := 3) (cs := cs) (i := k * 3) (by omega)
      have q2 := hs.out
      rw [he] at q
      show mln cs k ≤ _
      unfold mln
      rw [he]
      have : szD (.l m 1 es) = m + sumTo (fun i => szD (es i)) (m * 1) := rfl
      show m ≤ _
      omega
    have HA0 : Hid (mln cs k ≠ 2 → ¬ MarkOk cs n rs on) := fun q r => q (r.2.1 k hlt)
    have HGN : Hid (mln cs k = 2 → ∀ j, j < k + 1 → mln cs j = 2) := fun q j hj => by
      by_cases e : j = k
      · rw [e]; exact q
      · exact HG.out j (by omega)
    have HS0 : Hid (s.lk k 0 = (mls cs k).getD 0 0 ∧ s.lk k 1 = (mls cs k).getD 1 0 ∧ s.fr k = mfr cs k ∧ s.co k = mco cs k) := by show _ ∧ _; rw [← HSS.out]; exact ⟨rfl, rfl, rfl, rfl⟩
    clear hI
    obtain ⟨z, HZ⟩ : ∃ z, Hid (mfr cs k = z) := ⟨_, rfl⟩
    obtain ⟨y, HY⟩ : ∃ y, Hid (mco cs k = y) := ⟨_, rfl⟩
    obtain ⟨L, HL⟩ : ∃ L, Hid (mln cs k = L) := ⟨_, rfl⟩
    rw [HY.out] at c1 HS0
    rw [HZ.out] at c2 HS0
    rw [HL.out] at c0 HIL HLm HA0 HGN
    have hLm : L ≤ 1048576 := HLm.out
    go_upto_region 8 with fail
    obtain ⟨X2, hX2⟩ : ∃ X2, Hid (wr.alloc (.cells #[.slice la L lc, .int .i64 y, .bool z] 52) = X2) := ⟨_, rfl⟩
    have HX2 : Hid (Below wr.heap.size wr X2) := by show Below _ _ _; rw [← hX2.out]; exact (Below.refl _ _).alloc (Nat.le_refl _) _
    have OX := row_of wr #[.slice la L lc, .int .i64 y, .bool z] 52
    rw [hX2.out] at OX
    have HOX : Hid (X2.rowIs wr.heap.size 52 3 (rowF [.slice la L lc, .int .i64 y, .bool z])) := OX
    rw [hX2.out]
    have M2 : Hid (MakeAt W X2 bz rp k k (.slice (some ⟨b, o, none⟩) n cap) (.slice ra 2 rc) v1 v2 s) := HM.out.kept HX2.out
    have HI2 : Hid (Ints X2 la (mls cs k)) := HI.out.kept HX2.out
    have HLO : Hid (∀ g, v1.ownBlock = some g → g < wr.heap.size) := fun g e => (World.ownsRow.lt HM.out.cells g e).2
    have HRPL : Hid (rp < wr.heap.size) := HM.out.row.lt
    clear c0 c1 c2 OX hX2 HX2 HI HM
    obtain ⟨ob, HOB⟩ : ∃ ob, Hid (wr.heap.size = ob) := ⟨_, rfl⟩
    rw [HOB.out] at HOX HLO HRPL ⊢
    have e0 : X2.cell? ⟨ob, 0, none⟩ = some (.slice la L lc) := HOX.out.cell (i := 0) (by decide)
    have el := HOX.out.lt
    by_cases lL : L = 2
    rotate_left
    · have HA := HA0.out lL
      have he2 := impl_ends_no la L lc X2 lL hLm
      have HA2 : Hid (∀ w', Below X2.heap.size X2 w' → ∀ o, MadeM cs n rs on W (.returned (.tuple #[.pointer none, .bool false])) (w'.alloc o)) := fun w' q o => madeM_no HA ((M2.out.bel.trans (q.mono M2.out.bel.size)).alloc (Nat.le_trans M2.out.bel.size q.size) _)
      clear HA HA0
      go_wp2_with fail
      refine he2.mono ?_
      rintro e w4 ⟨rfl, hB⟩
      have HA3 := HA2.out w4 hB
      have HA4 : Hid (∀ o, MadeM cs n rs on W (.returned (.tuple #[.pointer none, .bool false])) (w4.alloc o)) := HA3
      clear hB he2 HA2 HA3 e0 el
      go_wp2
      go_ret2
      exact HA4.out _
    subst lL
    have HGN2 : Hid (∀ j, j < k + 1 → mln cs j = 2) := HGN.out rfl
    clear HGN HA0
    have he2 := impl_ends_yes la lc (mls cs k) X2 HIL HI2
    obtain ⟨y0, HY0⟩ : ∃ y0, Hid ((mls cs k).getD 0 0 = y0) := ⟨_, rfl⟩
    obtain ⟨y1, HY1⟩ : ∃ y1, Hid ((mls cs k).getD 1 0 = y1) := ⟨_, rfl⟩
    rw [HY0.out, HY1.out] at HS0 he2
    go_wp2_with fail
    refine he2.mono ?_
    rintro e w4 ⟨rfl, hB⟩
    have M4 : Hid (MakeAt W w4 bz rp k k (.slice (some ⟨b, o, none⟩) n cap) (.slice ra 2 rc) v1 v2 s) := M2.out.kept hB
    have O4 : Hid (w4.rowIs ob 52 3 (rowF [.slice la 2 lc, .int .i64 y, .bool z])) := HOX.out.of_block (hB.block _ HOX.out.lt)
    clear hB he2 e0 el M2 HOX HI2
    obtain ⟨Y, hY⟩ : ∃ Y, Hid (w4.alloc (.cells #[.int .i64 y0, .int .i64 y1] 72) = Y) := ⟨_, rfl⟩
    have BY : Hid (Below w4.heap.size w4 Y) := by show Below _ _ _; rw [← hY.out]; exact (Below.refl _ _).alloc (Nat.le_refl _) _
    have LY := row_of w4 #[.int .i64 y0, .int .i64 y1] 72
    rw [hY.out] at LY
    have HLY : Hid (Y.rowIs w4.heap.size 72 2 (rowF [.int .i64 y0, .int .i64 y1])) := LY
    have MY : Hid (MakeAt W Y bz rp k k (.slice (some ⟨b, o, none⟩) n cap) (.slice ra 2 rc) v1 v2 s) := M4.out.kept BY.out
    have OY : Hid (Y.rowIs ob 52 3 (rowF [.slice la 2 lc, .int .i64 y, .bool z])) := O4.out.of_block (BY.out.block _ O4.out.lt)
    clear LY
    go_upto_region 11 with fail
    rw [hY.out]
    clear hY BY M4 O4
    generalize w4.heap.size = eb at HLY ⊢
    have ey0 := HS0.out.1
    have ey1 := HS0.out.2.1
    have ez := HS0.out.2.2.1
    have ey := HS0.out.2.2.2
    have HE : Hid (s.lk k 0 = y0 ∧ s.lk k 1 = y1 ∧ s.fr k = z ∧ s.co k = y) := ⟨ey0, ey1, ez, ey⟩
    clear ey0 ey1 ez ey HS0
    go_cut [] (fun wx => ∃ v', MakeAt W wx bz rp (k + 1) k (.slice (some ⟨b, o, none⟩) n cap) (.slice ra 2 rc) v' v2 s ∧ wx.rowIs ob 52 3 (rowF [.slice la 2 lc, .int .i64 y, .bool z]))
    case first =>
      obtain ⟨xs, HXS⟩ : ∃ xs, Hid ((List.range (k * 3)).map (cellV s) = xs) := ⟨_, rfl⟩
      have BA : Hid (Below Y.heap.size Y (Y.drew.alloc (.cells #[.int .i64 y0, .int .i64 y1, .bool z] 78))) := (Below.refl Y.heap.size Y).drew.alloc (Nat.le_refl _) _
      have GR : Hid ((Y.drew.alloc (.cells #[.int .i64 y0, .int .i64 y1, .bool z] 78)).ownsRow bz 78 3 v1 k xs) := by show World.ownsRow _ _ _ _ _ _ _; rw [← HXS.out]; exact row_keep MY.out.cells BA.out
      have HOL : Hid (ob < Y.heap.size ∧ ob ≠ rp ∧ v1.ownBlock ≠ some ob) := ⟨OY.out.lt, by have := HRPL.out; omega, fun e => by have := HLO.out ob e; omega⟩
      have HSTEP : Hid (∀ (w3 : World) (v' : Value), w3.ownsRow bz 78 3 v' (k + 1) (xs ++ [.int .i64 y0, .int .i64 y1, .bool z]) → (Y.drew.alloc (.cells #[.int .i64 y0, .int .i64 y1, .bool z] 78)).grownBy w3 v1.ownBlock → (v'.ownBlock = v1.ownBlock ∨ v'.ownBlock = some (Y.drew.alloc (.cells #[.int .i64 y0, .int .i64 y1, .bool z] 78)).heap.size) → MakeAt W (w3.setCell ⟨rp, 0, none⟩ v') bz rp (k + 1) k (.slice (some ⟨b, o, none⟩) n cap) (.slice ra 2 rc) v' v2 s ∧ (w3.setCell ⟨rp, 0, none⟩ v').rowIs ob 52 3 (rowF [.slice la 2 lc, .int .i64 y, .bool z])) := fun w3 v' q1 q2 q3 => by
        obtain ⟨E0, E1, E2, E3⟩ := HE.out
        rw [← HXS.out, ← E0, ← E1, ← E2] at q1
        obtain ⟨r1, r2⟩ := MY.out.cell BA.out q1 q2 q3
        exact ⟨r1, OY.out.of_block (r2 ob HOL.out.1 HOL.out.2.1 HOL.out.2.2)⟩
      have HRC : Hid (∀ w3 : World, (Y.drew.alloc (.cells #[.int .i64 y0, .int .i64 y1, .bool z] 78)).grownBy w3 v1.ownBlock → w3.cell? ⟨rp, 0, none⟩ = some v1 ∧ w3.frozen? ⟨rp, 0, none⟩ = false) := fun w3 g => by
        have ol := MY.out.ord
        have e := (g.block rp (by have := BA.out.size; omega) (fun e => by have := (World.ownsRow.lt MY.out.cells rp e.symm).1; omega)).trans (BA.out.block rp (by omega))
        exact ⟨(World.cell?_of_block (a := ⟨rp, 0, none⟩) e).trans (MY.out.row.cell (i := 0) (by decide)), (World.frozen?_of_block (a := ⟨rp, 0, none⟩) e).trans (MY.out.row.frozen 0)⟩
      have p0 : Y.cell? ⟨rp, 0, none⟩ = some v1 := MY.out.row.cell (i := 0) (by decide)
      have p1 : Y.cell? ⟨eb, 0, none⟩ = some (.int .i64 y0) := HLY.out.cell (i := 0) (by decide)
      have p2 : Y.cell? ⟨eb, 1, none⟩ = some (.int .i64 y1) := HLY.out.cell (i := 1) (by decide)
      have p3 : Y.cell? ⟨ob, 2, none⟩ = some (.bool z) := OY.out.cell (i := 2) (by decide)
      have l0 : rp < Y.heap.size := MY.out.row.lt
      have l1 : eb < Y.heap.size := HLY.out.lt
      have l2 : ob < Y.heap.size := OY.out.lt
      have lb : bz ≤ Y.heap.size := MY.out.ord.2.2
      clear HXS MY OY HLY HLO HRPL HE
      go_region_law (refine step_append_at _ (by rfl) _ _ 70 (by rfl) bz 78 i5 _ 3 24 Try.underlying70 hi5 hz50 hz51 hz52 rfl (by decide) v1 k xs (by rfl) GR.out ⟨Y.heap.size, 0, none⟩ 1 1 [.int .i64 y0, .int .i64 y1, .bool z] (by rfl) rfl (new_three Y.drew _ _ _ _) (one_three _ _ _ rfl rfl rfl) (by unfold maxLen; omega) (by omega) (Nat.le_trans lb BA.out.size) ?_; intro v5 w5 hown5 hgrow5 hnil5 hat5; obtain ⟨g5, c5, rfl⟩ := row_some15 hown5 (Nat.succ_pos _); obtain ⟨m5, f5⟩ := HRC.out w5 hgrow5; have HR5 := (show Hid _ from HSTEP.out w5 _ hown5 hgrow5 hat5); clear hown5 hgrow5 hnil5 hat5)
      all_goals
        go_wp2_with fail
        go_meet
        exact ⟨_, HR5.out⟩
    case rest =>
      obtain ⟨v', hM, hO⟩ := hcut
      have MY2 : Hid (MakeAt W wc bz rp (k + 1) k (.slice (some ⟨b, o, none⟩) n cap) (.slice ra 2 rc) v' v2 s) := hM
      obtain ⟨xs, HXS⟩ : ∃ xs, Hid ((List.range k).map (fun i => Value.int .i64 (s.co i)) = xs) := ⟨_, rfl⟩
      have BA : Hid (Below wc.heap.size wc (wc.drew.alloc (.cells #[.int .i64 y] 3))) := (Below.refl wc.heap.size wc).drew.alloc (Nat.le_refl _) _
      have GR : Hid ((wc.drew.alloc (.cells #[.int .i64 y] 3)).ownsRow bz 3 1 v2 k xs) := by show World.ownsRow _ _ _ _ _ _ _; rw [← HXS.out]; exact row_keep MY2.out.cols BA.out
      have HSTEP : Hid (∀ (w3 : World) (u : Value), w3.ownsRow bz 3 1 u (k + 1) (xs ++ [.int .i64 y]) → (wc.drew.alloc (.cells #[.int .i64 y] 3)).grownBy w3 v2.ownBlock → (u.ownBlock = v2.ownBlock ∨ u.ownBlock = some (wc.drew.alloc (.cells #[.int .i64 y] 3)).heap.size) → MakeAt W (w3.setCell ⟨rp, 1, none⟩ u) bz rp (k + 1) (k + 1) (.slice (some ⟨b, o, none⟩) n cap) (.slice ra 2 rc) v' u s) := fun w3 u q1 q2 q3 => by
        rw [← HXS.out, ← HE.out.2.2.2] at q1
        exact MY2.out.col BA.out q1 q2 q3
      have HRC : Hid (∀ w3 : World, (wc.drew.alloc (.cells #[.int .i64 y] 3)).grownBy w3 v2.ownBlock → w3.cell? ⟨rp, 1, none⟩ = some v2 ∧ w3.frozen? ⟨rp, 1, none⟩ = false) := fun w3 g => by
        have ol := MY2.out.ord
        have e := (g.block rp (by have := BA.out.size; omega) (fun e => by have := (World.ownsRow.lt MY2.out.cols rp e.symm).1; omega)).trans (BA.out.block rp (by omega))
        exact ⟨(World.cell?_of_block (a := ⟨rp, 1, none⟩) e).trans (MY2.out.row.cell (i := 1) (by decide)), (World.frozen?_of_block (a := ⟨rp, 1, none⟩) e).trans (MY2.out.row.frozen 1)⟩
      have p0 : wc.cell? ⟨rp, 1, none⟩ = some v2 := MY2.out.row.cell (i := 1) (by decide)
      have p3 : wc.cell? ⟨ob, 1, none⟩ = some (.int .i64 y) := hO.cell (i := 1) (by decide)
      have l0 : rp < wc.heap.size := MY2.out.row.lt
      have l2 : ob < wc.heap.size := hO.lt
      have lb : bz ≤ wc.heap.size := MY2.out.ord.2.2
      clear hM hO HXS MY2 MY OY HLY HLO HRPL HE
      go_upto_region 12 with fail
      go_region_law (refine step_append_at _ (by rfl) _ _ 23 (by rfl) bz 3 i3 _ 1 8 Try.underlying23 hi3 hz30 hz31 hz32 rfl (by decide) v2 k xs (by rfl) GR.out ⟨wc.heap.size, 0, none⟩ 1 1 [.int .i64 y] (by rfl) rfl (new_one wc.drew _ _) (one_of _) (by unfold maxLen; omega) (by omega) (Nat.le_trans lb BA.out.size) ?_; intro v5 w5 hown5 hgrow5 hnil5 hat5; obtain ⟨g5, c5, rfl⟩ := row_some15 hown5 (Nat.succ_pos _); obtain ⟨m5, f5⟩ := HRC.out w5 hgrow5; have HR5 := (show Hid _ from HSTEP.out w5 _ hown5 hgrow5 hat5); clear hown5 hgrow5 hnil5 hat5)
      all_goals
        go_wp2
        go_roundw
        case rel => exact ⟨k + 1, _, _, by omega, by go_num, HGN2, HR5⟩
        case measure => simp [intOf]; omega
theorem impl_good15 (a : Option Addr) (n cap : Nat) (ra : Option Addr) (rl rc : Nat) (on : Bool) (cs : Nat → Dv) (rs : List Int) (c : Bool) (W : World) (hf : Hid (Fits shCellS (.l n 3 cs))) (hs : Hid (szD (.l n 3 cs) ≤ 1048576)) (h : Hid (Holds W c (.l n 3 cs) (.slice a n cap))) (hzr : Hid (rs.length = rl)) (hrl : rl ≤ 1048576) (Ir : Hid (Ints W ra rs)) :
    Calls Try.prog 17 #[.agg #[.slice a n cap, .slice ra rl rc, .bool on]] W fun e W' => e = .returned (.bool (markB cs n rs on)) ∧ Below W.heap.size W W' := by
  obtain ⟨X, hX⟩ : ∃ X, Hid (W.alloc (.cells #[.slice a n cap, .slice ra rl rc, .bool on] 25) = X) := ⟨_, rfl⟩
  have HX : Hid (Below W.heap.size W X) := by show Below _ _ _; rw [← hX.out]; exact (Below.refl _ _).alloc (Nat.le_refl _) _
  have hRX := row_of W #[.slice a n cap, .slice ra rl rc, .bool on] 25
  rw [hX.out] at hRX
  have r0 : X.cell? ⟨W.heap.size, 0, none⟩ = some (.slice a n cap) := hRX.cell (i := 0) (by simp)
  have r1 : X.cell? ⟨W.heap.size, 1, none⟩ = some (.slice ra rl rc) := hRX.cell (i := 1) (by simp)
  have r2 : X.cell? ⟨W.heap.size, 2, none⟩ = some (.bool on) := hRX.cell (i := 2) (by simp)
  have hc := impl_mrun a n cap ra rl rc on cs rs c X hf hs (h.out.kept HX.out) hzr hrl (Ir.out.kept HX.out)
  clear hRX
  go_enter Try.func17, Try.ntmps17
  go_wp2_with fail
  rw [hX.out]
  go_wp2_with fail
  refine hc.mono ?_
  rintro e w1 ⟨v, rfl, hB, -⟩
  have B1 : Hid (Below W.heap.size W w1) := HX.out.trans (hB.mono HX.out.size)
  clear hB hc r0 r1 r2
  go_wp2
  go_ret
  exact ⟨rfl, B1.out⟩
end Go.Proofs.Ytokaibpkajloeaa.walks
