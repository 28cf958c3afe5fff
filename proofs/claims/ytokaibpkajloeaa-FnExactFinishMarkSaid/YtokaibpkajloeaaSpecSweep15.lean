/-
  What the specification's l15Sweep does.
-/
import Derived.Test.YtokaibpkajloeaaProg
import Derived.Test.YtokaibpkajloeaaInts
import Derived.Test.YtokaibpkajloeaaOwnInts
import Derived.Test.YtokaibpkajloeaaDeep
import Derived.Test.YtokaibpkajloeaaDeepRow
import Derived.Test.YtokaibpkajloeaaDeepM
import Derived.Test.YtokaibpkajloeaaDeepGrow
import Derived.Test.YtokaibpkajloeaaMarkMath
import Derived.Test.YtokaibpkajloeaaStepMath15
import Derived.Test.YtokaibpkajloeaaMarkRun
import Derived.Test.YtokaibpkajloeaaMarkOut
import Derived.Test.YtokaibpkajloeaaSpecM15
import Derived.WalkKit
import Derived.WalkSpells
import Derived.Below
import Derived.Handy
import Derived.OwnWalk
import Derived.Deep.OwnRows
import Derived.Deep.DeepCutAuto
namespace Go.Proofs.Ytokaibpkajloeaa.walks
open Go.RowKit Go.Proofs.Ytokaibpkajloeaa.math Go.Proofs.Ytokaibpkajloeaa.ints Go.Proofs.Ytokaibpkajloeaa.deep
set_option linter.unusedVariables false
set_option linter.unusedSimpArgs false
set_option maxRecDepth 100000

/-- The first m swept, their colors turned to white. -/
def sweepP (s : Mst) (m : Nat) : Mst := ⟨(sweepTo s m).lk, (sweepTo s m).fr, fun k => if k < m then 0 else s.co k, s.rt, s.on⟩
theorem sweepP_old (s : Mst) {k j : Nat} (h : j ≠ k) : (sweepP s (k + 1)).lk j = (sweepP s k).lk j ∧ (sweepP s (k + 1)).co j = (sweepP s k).co j ∧ (sweepP s (k + 1)).fr j = (sweepP s k).fr j := by
  unfold sweepP sweepTo
  dsimp only
  have e : j < k + 1 ↔ j < k := by omega
  simp only [e, and_self]
theorem sweepP_yes (s : Mst) {k : Nat} (h : s.co k = 0) : (sweepP s (k + 1)).lk k = (fun _ => -1) ∧ (sweepP s (k + 1)).co k = 0 ∧ (sweepP s (k + 1)).fr k = true := by
  unfold sweepP sweepTo
  dsimp only
  simp [h]
theorem sweepP_no (s : Mst) {k : Nat} (h : s.co k ≠ 0) : (sweepP s (k + 1)).lk k = (sweepP s k).lk k ∧ (sweepP s (k + 1)).co k = 0 ∧ (sweepP s (k + 1)).fr k = (sweepP s k).fr k := by
  unfold sweepP sweepTo
  dsimp only
  simp [h]
theorem sweepP_at (s : Mst) (k : Nat) : (sweepP s k).co k = s.co k := by unfold sweepP; simp
theorem sweepP_zero (s : Mst) : sweepP s 0 = s := by
  unfold sweepP sweepTo
  simp
theorem SpecM.swept_no {w : World} {B g0 g1 n k : Nat} {L C : Nat → Nat} {s : Mst} (h : SpecM w B g0 g1 n L C (sweepP s k)) (hk : k < n) (hc : s.co k ≠ 0) : SpecM (w.setCell ⟨g0, k * 3 + 1, none⟩ (.int .i64 0)) B g0 g1 n L C (sweepP s (k + 1)) := by
  have q := h.setCo hk 0
  obtain ⟨n1, n2, n3⟩ := sweepP_no s hc
  refine ⟨q.cells.congr (fun i hi => ?_), fun j hj => (q.lks j hj).congr (fun i hi => ?_), q.rts, q.low, q.dif⟩
  · unfold scV
    have e : ((sweepP s k).setCo k 0).co (i / 3) = (sweepP s (k + 1)).co (i / 3) := by
      by_cases e : i / 3 = k
      · rw [e, n2]; unfold Mst.setCo; exact upN_same _ _ _
      · rw [(sweepP_old s e).2.1]; unfold Mst.setCo; exact upN_other _ _ e
    have e2 : ((sweepP s k).setCo k 0).fr (i / 3) = (sweepP s (k + 1)).fr (i / 3) := by
      by_cases e : i / 3 = k
      · rw [e, n3]; rfl
      · rw [(sweepP_old s e).2.2]; rfl
    rw [e, e2]
  · have e : ((sweepP s k).setCo k 0).lk j = (sweepP s (k + 1)).lk j := by
      by_cases e : j = k
      · rw [e, n1]; rfl
      · rw [(sweepP_old s e).1]; rfl
    rw [e]
theorem SpecM.swept_yes {w w1 : World} {B g0 g1 n k p : Nat} {L C : Nat → Nat} {s : Mst} (h : SpecM w B g0 g1 n L C (sweepP s k)) (hk : k < n) (hc : s.co k = 0) (hB : Below w.heap.size w w1) (hp : CellsAt w1 p 2 (fun _ => .int .i64 (-1))) (hpl : w.heap.size ≤ p) : SpecM ((((w1.setCell ⟨g0, k * 3, none⟩ (.slice (some ⟨p, 0, none⟩) 2 2)).setCell ⟨g0, k * 3 + 1, none⟩ (.int .i64 0)).setCell ⟨g0, k * 3 + 2, none⟩ (.bool true)).setCell ⟨g0, k * 3 + 1, none⟩ (.int .i64 0)) B g0 g1 n (upN L k p) (upN C k 2) (sweepP s (k + 1)) := by
  have q := h.kept hB
  have hgl := h.cells.1
  have hg1 := h.rts.1
  have hL : ∀ j, j < n → L j < w.heap.size := fun j hj => (h.lks j hj).1
  obtain ⟨n1, n2, n3⟩ := sweepP_yes s hc
  obtain ⟨l1, l2, l3⟩ := h.low
  refine ⟨((((q.cells.put (k := k * 3) (by omega) _).put (k := k * 3 + 1) (by omega) _).put (k := k * 3 + 2) (by omega) _).put (k := k * 3 + 1) (by omega) _).congr (fun i hi => ?_), fun j hj => ?_, ?_, ⟨l1, l2, fun j hj => ?_⟩, ⟨h.dif.1, fun j hj => ?_, fun i j hi hj hne => ?_⟩⟩
  · by_cases e : i / 3 = k
    · rcases (show i = k * 3 ∨ i = k * 3 + 1 ∨ i = k * 3 + 2 by omega) with r | r | r
      · subst r
        rw [(scV_three (upN L k p) (upN C k 2) (sweepP s (k + 1)) k).1, upN_same, upN_same]
        simp [upN]
      · subst r
        rw [(scV_three (upN L k p) (upN C k 2) (sweepP s (k + 1)) k).2.1, n2]
        simp [upN]
      · subst r
        rw [(scV_three (upN L k p) (upN C k 2) (sweepP s (k + 1)) k).2.2, n3]
        simp [upN]
    · have e0 : i ≠ k * 3 := by omega
      have e1 : i ≠ k * 3 + 1 := by omega
      have e2 : i ≠ k * 3 + 2 := by omega
      unfold scV
      rw [upN_other L _ e, upN_other C _ e, (sweepP_old s e).2.1, (sweepP_old s e).2.2]
      simp [upN, e0, e1, e2]
  · by_cases e : j = k
    · subst e
      rw [upN_same, n1]
      iterate 4 refine CellsAt.far ?_ (by omega) _
      exact hp
    · rw [upN_other L _ e, (sweepP_old s e).1]
      iterate 4 refine CellsAt.far ?_ (h.dif.2.1 j hj).1 _
      exact q.lks j hj
  · iterate 4 refine CellsAt.far ?_ h.dif.1.symm _
    exact q.rts
  · by_cases e : j = k
    · subst e; rw [upN_same]; omega
    · rw [upN_other L _ e]; exact l3 j hj
  · by_cases e : j = k
    · subst e; rw [upN_same]; omega
    · rw [upN_other L _ e]; exact h.dif.2.1 j hj
  · by_cases e1 : i = k
    · subst e1
      rw [upN_same, upN_other L _ (show j ≠ i by omega)]
      have := hL j hj; omega
    · by_cases e2 : j = k
      · subst e2
        rw [upN_same, upN_other L _ e1]
        have := hL i hi; omega
      · rw [upN_other L _ e1, upN_other L _ e2]
        exact h.dif.2.2 i j hi hj hne
def SSweepTo (B g0 d0 g1 d1 n : Nat) (s : Mst) (W : World) (e : Ending) (W' : World) : Prop := ∃ L C, e = .returned (.agg #[.slice (some ⟨g0, 0, none⟩) n d0, .slice (some ⟨g1, 0, none⟩) 2 d1, .bool false]) ∧ SpecM W' B g0 g1 n L C (sweepS s n) ∧ OnlyF W W' (fun x => x = g0)
set_option maxHeartbeats 8000000 in
theorem spec_sweep15 (B g0 d0 g1 d1 n : Nat) (L C : Nat → Nat) (s : Mst) (W : World) (hn0 : 0 < n) (hn : n ≤ 10) (h : Hid (SpecM W B g0 g1 n L C s)) :
    Calls Try.prog 52 #[.agg #[.slice (some ⟨g0, 0, none⟩) n d0, .slice (some ⟨g1, 0, none⟩) 2 d1, .bool s.on]] W fun e W' => SSweepTo B g0 d0 g1 d1 n s W e W' := by
  obtain ⟨X, hX⟩ : ∃ X, Hid ((W.alloc (.cells #[.slice (some ⟨g0, 0, none⟩) n d0, .slice (some ⟨g1, 0, none⟩) 2 d1, .bool s.on] 25)).alloc (.cells #[.slice none 0 0, .slice none 0 0, .bool false] 25) = X) := ⟨_, rfl⟩
  have HX : Hid (Below W.heap.size W X) := by show Below _ _ _; rw [← hX.out]; exact ((Below.refl _ _).alloc (Nat.le_refl _) _).alloc (by simp) _
  have e1 : (W.alloc (.cells #[.slice (some ⟨g0, 0, none⟩) n d0, .slice (some ⟨g1, 0, none⟩) 2 d1, .bool s.on] 25)).heap.size = W.heap.size + 1 := by simp
  have hRX := (row_of W #[.slice (some ⟨g0, 0, none⟩) n d0, .slice (some ⟨g1, 0, none⟩) 2 d1, .bool s.on] 25).alloc (.cells #[.slice none 0 0, .slice none 0 0, .bool false] 25)
  have hZX := row_of (W.alloc (.cells #[.slice (some ⟨g0, 0, none⟩) n d0, .slice (some ⟨g1, 0, none⟩) 2 d1, .bool s.on] 25)) #[.slice none 0 0, .slice none 0 0, .bool false] 25
  rw [hX.out] at hRX
  rw [e1, hX.out] at hZX
  have HGL : Hid (g0 < W.heap.size ∧ g1 < W.heap.size) := ⟨h.out.cells.1, h.out.rts.1⟩
  have HRX : Hid (X.rowIs W.heap.size 25 3 (rowF [.slice (some ⟨g0, 0, none⟩) n d0, .slice (some ⟨g1, 0, none⟩) 2 d1, .bool s.on])) := hRX
  have HZX : Hid (X.rowIs (W.heap.size + 1) 25 3 (rowF [.slice none 0 0, .slice none 0 0, .bool false])) := hZX
  have HRW : Hid (∀ w, OnlyF X w (fun x => x = g0) → w.rowIs W.heap.size 25 3 (rowF [.slice (some ⟨g0, 0, none⟩) n d0, .slice (some ⟨g1, 0, none⟩) 2 d1, .bool s.on]) ∧ w.rowIs (W.heap.size + 1) 25 3 (rowF [.slice none 0 0, .slice none 0 0, .bool false])) := fun w q => ⟨HRX.out.of_block (q.block _ HRX.out.lt (by have := HGL.out; omega)), HZX.out.of_block (q.block _ HZX.out.lt (by have := HGL.out; omega))⟩
  have HS : Hid (SpecM X B g0 g1 n L C (sweepP s 0)) := by rw [sweepP_zero]; exact h.out.kept HX.out
  have HFIN : Hid (∀ (w : World) (L' C' : Nat → Nat), SpecM w B g0 g1 n L' C' (sweepP s n) → (∀ j, j < n → L' j < W.heap.size ∨ W.heap.size + 2 ≤ L' j) → OnlyF X w (fun x => x = g0) → ∀ u u0 u1 u2, SSweepTo B g0 d0 g1 d1 n s W (.returned (.agg #[.slice (some ⟨g0, 0, none⟩) n d0, .slice (some ⟨g1, 0, none⟩) 2 d1, .bool false])) ((((w.setCell ⟨W.heap.size, 2, none⟩ u).setCell ⟨W.heap.size + 1, 0, none⟩ u0).setCell ⟨W.heap.size + 1, 1, none⟩ u1).setCell ⟨W.heap.size + 1, 2, none⟩ u2)) := fun w L' C' q1 q3 q2 u u0 u1 u2 => by
    obtain ⟨a, b⟩ := HGL.out
    have hb : ∀ x, x ≠ W.heap.size → x ≠ W.heap.size + 1 → ((((w.setCell ⟨W.heap.size, 2, none⟩ u).setCell ⟨W.heap.size + 1, 0, none⟩ u0).setCell ⟨W.heap.size + 1, 1, none⟩ u1).setCell ⟨W.heap.size + 1, 2, none⟩ u2).heap[x]? = w.heap[x]? := fun x hx hy => by
      rw [Below.heap_setCell _ _ _ _ (by show x ≠ W.heap.size + 1; exact hy), Below.heap_setCell _ _ _ _ (by show x ≠ W.heap.size + 1; exact hy), Below.heap_setCell _ _ _ _ (by show x ≠ W.heap.size + 1; exact hy), Below.heap_setCell _ _ _ _ (by show x ≠ W.heap.size; exact hx)]
    have q4 := (OnlyF.of_below HX.out).trans q2
    refine ⟨L', C', rfl, ⟨q1.cells.of_block (hb _ (by omega) (by omega)), fun k hk => (q1.lks k hk).of_block (hb _ (by have := q3 k hk; omega) (by have := q3 k hk; omega)), q1.rts.of_block (hb _ (by omega) (by omega)), q1.low, q1.dif⟩, ⟨q4.os, q4.tape, q4.output, by simpa [World.setCell] using q4.size, fun x hx hne => ?_⟩⟩
    rw [hb x (by omega) (by omega)]
    exact q4.block x hx hne
  have XS : Hid (X.heap.size = W.heap.size + 2) := by show _ = _; rw [← hX.out]; simp
  have HL0 : Hid (∀ j, j < n → L j < W.heap.size ∨ W.heap.size + 2 ≤ L j) := fun j hj => Or.inl (h.out.lks j hj).1
  have m0 : X.cell? ⟨W.heap.size, 0, none⟩ = some (.slice (some ⟨g0, 0, none⟩) n d0) := HRX.out.cell (i := 0) (by decide)
  have ml := HRX.out.lt
  clear hRX hZX e1 HX
  obtain ⟨on, Hon⟩ : ∃ b, Hid (s.on = b) := ⟨_, rfl⟩
  rw [Hon.out] at HRX HRW hX ⊢
  go_enter Try.func52, Try.ntmps52
  go_upto_region 1 with fail
  rw [hX.out]
  clear hX
  go_wp2
  clear m0 ml
  go_loopw [8] (fun vi wr => ∃ (k : Nat) (L C : Nat → Nat), k ≤ n ∧ vi = .int .i64 k ∧ Hid (SpecM wr B g0 g1 n L C (sweepP s k)) ∧ Hid (∀ j, j < n → L j < W.heap.size ∨ W.heap.size + 2 ≤ L j) ∧ Hid (OnlyF X wr (fun x => x = g0))) (fun vi _ => n - (intOf vi).toNat)
  case atStart => exact ⟨0, _, _, Nat.zero_le _, rfl, HS, HL0, OnlyF.of_below (Below.refl _ _)⟩
  case round =>
    obtain ⟨k, L, C, hk, rfl, HA, HLL, HO⟩ := hrel
    obtain ⟨R0, R1⟩ := HRW.out wr HO.out
    have m0 : wr.cell? ⟨W.heap.size, 0, none⟩ = some (.slice (some ⟨g0, 0, none⟩) n d0) := R0.cell (i := 0) (by decide)
    have ml := R0.lt
    by_cases hlt : k < n
    rotate_left
    · have e : k = n := by omega
      subst e
      have m1 : wr.cell? ⟨W.heap.size, 1, none⟩ = some (.slice (some ⟨g1, 0, none⟩) 2 d1) := R0.cell (i := 1) (by decide)
      have m2 : wr.cell? ⟨W.heap.size, 2, none⟩ = some (.bool on) := R0.cell (i := 2) (by decide)
      have mf := R0.frozen 2
      have z0 : wr.cell? ⟨W.heap.size + 1, 0, none⟩ = some (.slice none 0 0) := R1.cell (i := 0) (by decide)
      have z1 : wr.cell? ⟨W.heap.size + 1, 1, none⟩ = some (.slice none 0 0) := R1.cell (i := 1) (by decide)
      have z2 : wr.cell? ⟨W.heap.size + 1, 2, none⟩ = some (.bool false) := R1.cell (i := 2) (by decide)
      have f0 := R1.frozen 0
      have f1 := R1.frozen 1
      have f2 := R1.frozen 2
      have zl := R1.lt
      have hkd : decide ((k : Int) < (k : Int)) = false := by simp
      have HRS := HFIN.out wr L C HA.out HLL.out HO.out
      have HRS2 : Hid (∀ u u0 u1 u2, _) := HRS
      clear HRS R0 R1
      go_wp2
      exact bodyPost_ret (v := .agg #[.slice (some ⟨g0, 0, none⟩) k d0, .slice (some ⟨g1, 0, none⟩) 2 d1, .bool false]) (by simp only [results, Try.results52]; go_simp) rfl (HRS2.out _ _ _ _)
    have hltI : (k : Int) < (n : Int) := by omega
    have hk0 : (0 : Int) ≤ (k : Int) := by omega
    obtain ⟨q0, q1, q2⟩ := HA.out.cell hlt
    rw [sweepP_at] at q1
    have cf0 := (HA.out.cells.2 (k * 3) (by omega)).2
    have cf1 := (HA.out.cells.2 (k * 3 + 1) (by omega)).2
    have cf2 := (HA.out.cells.2 (k * 3 + 2) (by omega)).2
    have gl := HA.out.cells.1
    have gne : g0 ≠ W.heap.size ∧ g0 ≠ W.heap.size + 1 := ⟨by have := HGL.out.1; omega, by have := HGL.out.1; omega⟩
    by_cases hc : s.co k = 0
    · rw [hc] at q1
      obtain ⟨z, Hz⟩ : ∃ z, Hid ((sweepP s k).fr k = z) := ⟨_, rfl⟩
      rw [Hz.out] at q2
      clear Hz
      obtain ⟨Y, hY⟩ : ∃ Y, Hid (wr.alloc (.cells #[.slice (some ⟨L k, 0, none⟩) 2 (C k), .int .i64 0, .bool z] 52) = Y) := ⟨_, rfl⟩
      have HYB : Hid (Below wr.heap.size wr Y) := by show Below _ _ _; rw [← hY.out]; exact (Below.refl _ _).alloc (Nat.le_refl _) _
      have YS : Hid (Y.heap.size = wr.heap.size + 1) := by show _ = _; rw [← hY.out]; simp
      have y1 : Y.cell? ⟨wr.heap.size, 1, none⟩ = some (.int .i64 0) := by
        rw [← hY.out]; exact (row_of wr #[.slice (some ⟨L k, 0, none⟩) 2 (C k), .int .i64 0, .bool z] 52).cell (i := 1) (by show 1 < 3; decide)
      have yl : wr.heap.size < Y.heap.size := by rw [YS.out]; omega
      have ym : Y.cell? ⟨W.heap.size, 0, none⟩ = some (.slice (some ⟨g0, 0, none⟩) n d0) := (HYB.out.cell (p := ⟨W.heap.size, 0, none⟩) ml).trans m0
      have yml : W.heap.size < Y.heap.size := by omega
      have p0 := (HYB.out.cell (p := ⟨g0, k * 3, none⟩) gl).trans q0
      have p1 := (HYB.out.cell (p := ⟨g0, k * 3 + 1, none⟩) gl).trans q1
      have p2 := (HYB.out.cell (p := ⟨g0, k * 3 + 2, none⟩) gl).trans q2
      have pf0 : Y.frozen? ⟨g0, k * 3, none⟩ = false := (World.frozen?_of_block (a := ⟨g0, k * 3, none⟩) (HYB.out.block _ gl)).trans cf0
      have pf1 : Y.frozen? ⟨g0, k * 3 + 1, none⟩ = false := (World.frozen?_of_block (a := ⟨g0, k * 3 + 1, none⟩) (HYB.out.block _ gl)).trans cf1
      have pf2 : Y.frozen? ⟨g0, k * 3 + 2, none⟩ = false := (World.frozen?_of_block (a := ⟨g0, k * 3 + 2, none⟩) (HYB.out.block _ gl)).trans cf2
      have pgl : g0 < Y.heap.size := by omega
      have HR2 : Hid (SpecM (((((Y.setCell ⟨g0, k * 3, none⟩ (.slice (some ⟨Y.heap.size, 0, none⟩) 2 2)).setCell ⟨g0, k * 3 + 1, none⟩ (.int .i64 0)).setCell ⟨g0, k * 3 + 2, none⟩ (.bool true)).setCell ⟨g0, k * 3 + 1, none⟩ (.int .i64 0)).alloc (.cells #[.int .i64 (-1), .int .i64 (-1)] 3)) B g0 g1 n (upN L k Y.heap.size) (upN C k 2) (sweepP s (k + 1))) := by
        have q := HA.out.swept_yes hlt hc (HYB.out.alloc HYB.out.size _) ((CellsAt.of_row (row_of Y #[.int .i64 (-1), .int .i64 (-1)] 3) (Nat.le_refl _)).congr (fun i hi => by
        match i, hi with
        | 0, _ => rfl
        | 1, _ => rfl)) HYB.out.size
        rw [World.setCell_alloc_past _ _ _ _ pgl, World.setCell_alloc_past _ _ _ _ (by simpa [World.setCell] using pgl), World.setCell_alloc_past _ _ _ _ (by simpa [World.setCell] using pgl), World.setCell_alloc_past _ _ _ _ (by simpa [World.setCell] using pgl)] at q
        exact q
      have HL2 : Hid (∀ j, j < n → upN L k Y.heap.size j < W.heap.size ∨ W.heap.size + 2 ≤ upN L k Y.heap.size j) := fun j hj => by
        by_cases e : j = k
        · subst e; rw [upN_same]; have := HO.out.size; have := XS.out; have := HYB.out.size; omega
        · rw [upN_other L _ e]; exact HLL.out j hj
      have HO2 : Hid (OnlyF X (((((Y.setCell ⟨g0, k * 3, none⟩ (.slice (some ⟨Y.heap.size, 0, none⟩) 2 2)).setCell ⟨g0, k * 3 + 1, none⟩ (.int .i64 0)).setCell ⟨g0, k * 3 + 2, none⟩ (.bool true)).setCell ⟨g0, k * 3 + 1, none⟩ (.int .i64 0)).alloc (.cells #[.int .i64 (-1), .int .i64 (-1)] 3)) (fun x => x = g0)) := by
        refine OnlyF.trans ?_ (OnlyF.of_below ((Below.refl _ _).alloc (Nat.le_refl _) _))
        iterate 4 refine only_set (F := fun x => x = g0) ?_ rfl _
        exact HO.out.trans (OnlyF.of_below HYB.out)
      have YM : ∀ (b i : Nat) (u : Value) (a1 a2 a3 : Value), b ≠ g0 → True := fun _ _ _ _ _ _ _ => trivial
      clear YM R0 R1 HA HO HLL
      go_upto_region 4 with fail
      rw [hY.out]
      clear q0 q1 q2 cf0 cf1 cf2 gl m0 ml hY hc
      go_wp2
      go_roundw
      case rel => exact ⟨k + 1, _, _, by omega, by go_num, HR2, HL2, HO2⟩
      case measure => simp [intOf]; omega
    · have HR2 : Hid (SpecM ((wr.setCell ⟨g0, k * 3 + 1, none⟩ (.int .i64 0)).alloc (.cells #[.slice (some ⟨L k, 0, none⟩) 2 (C k), .int .i64 (s.co k), .bool ((sweepP s k).fr k)] 52)) B g0 g1 n L C (sweepP s (k + 1))) := (HA.out.swept_no hlt hc).kept ((Below.refl _ _).alloc (Nat.le_refl _) _)
      have HO2 : Hid (OnlyF X ((wr.setCell ⟨g0, k * 3 + 1, none⟩ (.int .i64 0)).alloc (.cells #[.slice (some ⟨L k, 0, none⟩) 2 (C k), .int .i64 (s.co k), .bool ((sweepP s k).fr k)] 52)) (fun x => x = g0)) := by
        exact (only_set (F := fun x => x = g0) HO.out rfl _).trans (OnlyF.of_below ((Below.refl _ _).alloc (Nat.le_refl _) _))
      obtain ⟨z, Hz⟩ : ∃ z, Hid ((sweepP s k).fr k = z) := ⟨_, rfl⟩
      rw [Hz.out] at q2 HR2 HO2
      generalize s.co k = y at q1 HR2 HO2 hc
      have d0' : (y == 0) = false := by simpa using hc
      have d1' : decide (y = 0) = false := decide_eq_false hc
      clear Hz R0 R1 HA HO hc
      go_wp2
      go_roundw
      case rel => exact ⟨k + 1, _, _, by omega, by go_num, HR2, HLL, HO2⟩
      case measure => simp [intOf]; omega
end Go.Proofs.Ytokaibpkajloeaa.walks
