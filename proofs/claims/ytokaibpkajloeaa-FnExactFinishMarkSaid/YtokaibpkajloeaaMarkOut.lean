/-
  What the program's marker() answers: a marker out of one at work.
-/
import Derived.Test.YtokaibpkajloeaaProg
import Derived.Test.YtokaibpkajloeaaInts
import Derived.Test.YtokaibpkajloeaaOwnInts
import Derived.Test.YtokaibpkajloeaaDeep
import Derived.Test.YtokaibpkajloeaaDeepRow
import Derived.Test.YtokaibpkajloeaaDeepM
import Derived.Test.YtokaibpkajloeaaDeepGrow
import Derived.Test.YtokaibpkajloeaaOwnMath
import Derived.Test.YtokaibpkajloeaaCloneOwn
import Derived.Test.YtokaibpkajloeaaMarkMath
import Derived.Test.YtokaibpkajloeaaMarkRun
import Derived.WalkKit
import Derived.WalkSpells
import Derived.Below
import Derived.Handy
import Derived.OwnWalk
import Derived.Deep.DeepFit
import Derived.Deep.RegionHeld3
import Derived.Deep.DeepCutAuto
import Derived.Deep.OwnRows
namespace Go.Proofs.Ytokaibpkajloeaa.walks
open Go.RowKit Go.Proofs.Ytokaibpkajloeaa.math Go.Proofs.Ytokaibpkajloeaa.ints Go.Proofs.Ytokaibpkajloeaa.deep
set_option linter.unusedVariables false
set_option maxRecDepth 100000
set_option linter.unusedSimpArgs false

theorem CellsAt.owns {w : World} {B g n cap : Nat} {x : Nat → Int} {es : Nat → Dv} {F : Nat → Prop} (h : CellsAt w g n (fun i => .int .i64 (x i))) (hB : B ≤ g) (hF : F g) (he : ∀ i, i < n → es i = .n (x i)) : Owns w false B (.l n 1 es) (.slice (some ⟨g, 0, none⟩) n cap) F := by
  refine ⟨_, _, rfl, (fun q => by cases q), Or.inr ⟨g, 0, rfl, hB, h.1, hF, fun _ _ => False, fun i hi => ⟨⟨.int .i64 (x i), ?_, ?_, ?_⟩, fun q => q, fun x q => q.elim⟩, fun i j _ _ _ x q => q.elim⟩⟩
  · have := (h.2 i (by omega)).1; simpa using this
  · have := (h.2 i (by omega)).2; simpa using this
  · rw [he i (by omega)]; rfl
theorem row_some15 {w : World} {B : Nat} {T : TypeId} {sz n : Nat} {v : Value} {xs : List Value} (h : w.ownsRow B T sz v n xs) (hn : 0 < n) : ∃ g c, v = .slice (some ⟨g, 0, none⟩) n c := by
  rcases h.2 with ⟨_, e⟩ | ⟨g, cap, _, e, _⟩
  · omega
  · exact ⟨g, cap, e⟩
theorem own_cells {w : World} {B : Nat} {T : TypeId} {sz n g c : Nat} {xs : List Value} (h : w.ownsRow B T sz (.slice (some ⟨g, 0, none⟩) n c) n xs) {f : Nat → Value} (hf : ∀ i, i < n * sz → xs[i]? = some (f i)) : CellsAt w g (n * sz) f := by
  refine ⟨(World.ownsRow.lt h g rfl).2, fun i hi => ⟨?_, ?_⟩⟩
  · rw [World.ownsRow.cellAt h i hi, hf i hi]
  · have := World.ownsRow.frozenAt h i
    simpa using this
theorem new_three (w : World) (x y z : Value) (t : TypeId) : ∀ j u, [x, y, z][j]? = some u → (w.alloc (.cells #[x, y, z] t)).cell? ((⟨w.heap.size, 0, none⟩ : Addr).add j) = some u := by
  intro j u hj
  have q := row_of w #[x, y, z] t
  match j, hj with
  | 0, hj => obtain rfl := Option.some.inj hj; exact q.cell (i := 0) (by show 0 < 3; decide)
  | 1, hj => obtain rfl := Option.some.inj hj; exact q.cell (i := 1) (by show 1 < 3; decide)
  | 2, hj => obtain rfl := Option.some.inj hj; exact q.cell (i := 2) (by show 2 < 3; decide)
  | j + 3, hj => simp at hj
theorem one_three (x y z : Value) (hx : x.oneCell' = true) (hy : y.oneCell' = true) (hz : z.oneCell' = true) : ∀ u ∈ [x, y, z], u.oneCell' = true := by
  intro u hu
  simp at hu
  rcases hu with rfl | rfl | rfl
  · exact hx
  · exact hy
  · exact hz
/-- What lay ahead stands behind an append. -/
theorem cell_grown {w w' : World} {o : Option Nat} {b i : Nat} {u : Value} (h : w.cell? ⟨b, i, none⟩ = some u) (hg : w.grownBy w' o) (hne : o ≠ some b) : w'.cell? ⟨b, i, none⟩ = some u := (World.cell?_of_block (a := ⟨b, i, none⟩) (hg.block b (World.block_lt_of_cell? w _ h) (fun e => hne e.symm))).trans h
theorem far_three {w : World} {A b i : Nat} {v : Value} (h : w.cell? ⟨b, i, none⟩ = some v) (hne : b ≠ A) (u0 u1 u2 : Value) : (((w.setCell ⟨A, 0, none⟩ u0).setCell ⟨A, 1, none⟩ u1).setCell ⟨A, 2, none⟩ u2).cell? ⟨b, i, none⟩ = some v := by
  rw [World.cell?_setCell_other _ _ _ _ (by simp <;> omega), World.cell?_setCell_other _ _ _ _ (by simp <;> omega), World.cell?_setCell_other _ _ _ _ (by simp <;> omega)]
  exact h
/-- The marker that is being made: in the box gm, its roots in gr. -/
structure OutAt (W X w : World) (s : Mst) (gm gr c k : Nat) (v : Value) (U : Nat → Value) (F : Nat → Prop) : Prop where
  box : w.rowIs gm 25 3 (rowF [v, .slice (some ⟨gr, 0, none⟩) 2 c, .bool s.on])
  zero : w.rowIs W.heap.size 25 3 (rowF [.slice none 0 0, .slice none 0 0, .bool false])
  rts : CellsAt w gr 2 (fun j => .int .i64 (s.rt j))
  rows : Grown w X.heap.size 52 3 v k (cellD s) U F
  bel : Below W.heap.size W w
  ord : W.heap.size < gm ∧ W.heap.size < gr ∧ gm ≠ gr ∧ gm < X.heap.size ∧ gr < X.heap.size ∧ X.heap.size ≤ w.heap.size
theorem OutAt.kept {W X w w' : World} {s : Mst} {gm gr c k : Nat} {v : Value} {U : Nat → Value} {F : Nat → Prop} (h : OutAt W X w s gm gr c k v U F) (hb : Below w.heap.size w w') : OutAt W X w' s gm gr c k v U F :=
  ⟨h.box.of_block (hb.block _ h.box.lt), h.zero.of_block (hb.block _ h.zero.lt), h.rts.kept hb, h.rows.kept hb, h.bel.trans (hb.mono h.bel.size), ⟨h.ord.1, h.ord.2.1, h.ord.2.2.1, h.ord.2.2.2.1, h.ord.2.2.2.2.1, Nat.le_trans h.ord.2.2.2.2.2 hb.size⟩⟩
theorem OutAt.step {W X Y w1 w3 : World} {s : Mst} {gm gr c k g1 c1 : Nat} {v v' : Value} {U : Nat → Value} {F : Nat → Prop} (h : OutAt W X Y s gm gr c k v U F)
    (h1 : CellsAt w1 g1 2 (fun j => .int .i64 (s.lk k j))) (hg1 : Y.heap.size ≤ g1) (b1 : Below Y.heap.size Y w1)
    (h2 : w3.ownsRow X.heap.size 52 3 v' (k + 1) ((List.range (k * 3)).map U ++ [.slice (some ⟨g1, 0, none⟩) 2 c1, .int .i64 (s.co k), .bool (s.fr k)])) (g2 : (w1.alloc (.cells #[.slice (some ⟨g1, 0, none⟩) 2 c1, .int .i64 (s.co k), .bool (s.fr k)] 52)).grownBy w3 v.ownBlock) (hv : v'.ownBlock = v.ownBlock ∨ v'.ownBlock = some (w1.alloc (.cells #[.slice (some ⟨g1, 0, none⟩) 2 c1, .int .i64 (s.co k), .bool (s.fr k)] 52)).heap.size) :
    ∃ U' F', OutAt W X (w3.setCell ⟨gm, 0, none⟩ v') s gm gr c (k + 1) v' U' F' := by
  obtain ⟨o1, o2, o3, o4, o5, o6⟩ := h.ord
  have b2 : Below Y.heap.size Y (w1.alloc (.cells #[.slice (some ⟨g1, 0, none⟩) 2 c1, .int .i64 (s.co k), .bool (s.fr k)] 52)) := b1.alloc b1.size _
  have s2 : (w1.alloc (.cells #[.slice (some ⟨g1, 0, none⟩) 2 c1, .int .i64 (s.co k), .bool (s.fr k)] 52)).heap.size = w1.heap.size + 1 := by simp
  have s1 := b1.size
  have G2 := h.rows.kept b2
  have K1 : CellsAt (w1.alloc (.cells #[.slice (some ⟨g1, 0, none⟩) 2 c1, .int .i64 (s.co k), .bool (s.fr k)] 52)) g1 2 (fun j => .int .i64 (s.lk k j)) := h1.kept ((Below.refl _ _).alloc (Nat.le_refl _) _)
  have hl1 := h1.1
  have hown : ∀ g, v.ownBlock = some g → X.heap.size ≤ g ∧ g < Y.heap.size := fun g e => World.ownsRow.lt h.rows.row g e
  have e0 : cellD s (k * 3) = .l 2 1 (fun j => .n (s.lk k j)) := by unfold cellD; rw [if_pos (by omega), show k * 3 / 3 = k by omega]
  have e1 : cellD s (k * 3 + 1) = .n (s.co k) := by unfold cellD; rw [if_neg (by omega), if_pos (by omega), show (k * 3 + 1) / 3 = k by omega]
  have e2 : cellD s (k * 3 + 2) = .t (s.fr k) := by unfold cellD; rw [if_neg (by omega), if_neg (by omega), show (k * 3 + 2) / 3 = k by omega]
  have hn : Rowed (w1.alloc (.cells #[.slice (some ⟨g1, 0, none⟩) 2 c1, .int .i64 (s.co k), .bool (s.fr k)] 52)) false X.heap.size (fun i => cellD s (k * 3 + i)) (fun i => [Value.slice (some ⟨g1, 0, none⟩) 2 c1, .int .i64 (s.co k), .bool (s.fr k)].getD i (.bool false)) 3 (fun x => x = g1) := by
    refine (((Rowed.nil _ _ _ _ _ (fun _ => False)).snoc (H := fun x => x = g1) ?_ (fun x q => q.elim) (fun x q => q.elim) (fun x q => q)).flat ?_).flat ?_
    · show Owns _ _ _ (cellD s (k * 3)) (Value.slice (some ⟨g1, 0, none⟩) 2 c1) _
      rw [e0]
      exact K1.owns (by omega) rfl (fun i hi => rfl)
    · show Owns _ _ _ (cellD s (k * 3 + 1)) (Value.int .i64 (s.co k)) _
      rw [e1]; rfl
    · show Owns _ _ _ (cellD s (k * 3 + 2)) (Value.bool (s.fr k)) _
      rw [e2]; rfl
  have G3 := G2.snoc (H := fun x => x = g1) (news := [.slice (some ⟨g1, 0, none⟩) 2 c1, .int .i64 (s.co k), .bool (s.fr k)]) rfl h2 g2 hv hn (fun x q r => by have := (h.rows.low x q).2; subst r; omega) (fun g q r => by have := hown g q; subst r; omega) (fun x r => by subst r; omega)
  have s3 := g2.size
  have gb2 : ∀ x, x < X.heap.size → w3.heap[x]? = (w1.alloc (.cells #[.slice (some ⟨g1, 0, none⟩) 2 c1, .int .i64 (s.co k), .bool (s.fr k)] 52)).heap[x]? := fun x hx => g2.block x (by rw [s2]; omega) (fun e => by have := hown x e.symm; omega)
  have gb : ∀ x, x < X.heap.size → w3.heap[x]? = Y.heap[x]? := fun x hx => (gb2 x hx).trans (b2.block x (by omega))
  refine ⟨_, _, ?_, (h.zero.of_block (gb _ (by omega))).setOther (by show W.heap.size ≠ gm; omega) _, (h.rts.of_block (gb _ (by omega))).far (by omega) _, G3.set_low (by omega) _, ?_, ⟨o1, o2, o3, o4, o5, ?_⟩⟩
  · refine ((h.box.of_block (gb _ (by omega))).set 0 v').congr (fun i hi => ?_)
    match i, hi with
    | 0, _ => rfl
    | 1, _ => rfl
    | 2, _ => rfl
    | i + 3, h => exact absurd h (by omega)
  · refine Below.setCell ?_ (by show W.heap.size ≤ gm; omega) _
    exact h.bel.trans ((b2.mono h.bel.size).trans ⟨g2.os, g2.tape, g2.output, g2.size, fun x hx => gb2 x (by omega)⟩)
  · simp [World.setCell]; omega
/-- A marker as data of its own. -/
def OutM (W W' : World) (n : Nat) (s : Mst) (v : Value) : Prop := ∃ (g0 : Option Addr) (d0 : Nat) (g1 : Option Addr) (d1 : Nat) (F0 F1 : Nat → Prop), v = .agg #[.slice g0 n d0, .slice g1 2 d1, .bool s.on] ∧ Owns W' false W.heap.size (.l n 3 (cellD s)) (.slice g0 n d0) F0 ∧ (∀ x, F0 x → W.heap.size ≤ x ∧ x < W'.heap.size) ∧ Owns W' false W.heap.size (.l 2 1 (rootD s)) (.slice g1 2 d1) F1 ∧ (∀ x, F1 x → W.heap.size ≤ x ∧ x < W'.heap.size) ∧ (∀ x, F0 x → ¬ F1 x) ∧ Below W.heap.size W W'
theorem OutAt.end_ {W X w : World} {s : Mst} {gm gr c n g d : Nat} {U : Nat → Value} {F : Nat → Prop} (h : OutAt W X w s gm gr c n (.slice (some ⟨g, 0, none⟩) n d) U F) (u0 u1 u2 : Value) : OutM W (((w.setCell ⟨W.heap.size, 0, none⟩ u0).setCell ⟨W.heap.size, 1, none⟩ u1).setCell ⟨W.heap.size, 2, none⟩ u2) n s (.agg #[.slice (some ⟨g, 0, none⟩) n d, .slice (some ⟨gr, 0, none⟩) 2 c, .bool s.on]) := by
  obtain ⟨o1, o2, o3, o4, o5, o6⟩ := h.ord
  have G := ((h.rows.set_low (b := W.heap.size) (i := 0) (by omega) u0).set_low (b := W.heap.size) (i := 1) (by omega) u1).set_low (b := W.heap.size) (i := 2) (by omega) u2
  have R := ((h.rts.far (b := W.heap.size) (i := 0) (by omega) u0).far (b := W.heap.size) (i := 1) (by omega) u1).far (b := W.heap.size) (i := 2) (by omega) u2
  have B : Below W.heap.size W (((w.setCell ⟨W.heap.size, 0, none⟩ u0).setCell ⟨W.heap.size, 1, none⟩ u1).setCell ⟨W.heap.size, 2, none⟩ u2) := by
    iterate 3 refine Below.setCell ?_ (by simp) _
    exact h.bel
  obtain ⟨a', cap', e', o', lo⟩ := G.owns
  simp only [Value.slice.injEq, true_and] at e'
  obtain ⟨rfl, rfl⟩ := e'
  refine ⟨_, d, _, c, _, fun x => x = gr, rfl, o'.low (by omega), fun x q => ?_, R.owns (by omega) rfl (fun i hi => rfl), fun x q => ?_, fun x q r => ?_, B⟩
  · have := lo x q
    omega
  · subst q
    have := R.1
    omega
  · have := lo x q
    subst r
    omega
theorem rts_cells {w : World} {B gr cr : Nat} {s : Mst} (h : Own w B (.slice (some ⟨gr, 0, none⟩) 2 cr) [s.rt 0, s.rt 1]) : CellsAt w gr 2 (fun j => .int .i64 (s.rt j)) := by
  have q := own_cells (f := fun j => .int .i64 (s.rt j)) (sz := 1) (n := 2) h (fun i hi => by
    match i, hi with
    | 0, _ => rfl
    | 1, _ => rfl)
  exact q
theorem out_a {W Z w5 : World} {s : Mst} {gr cr : Nat} (hz : Z.rowIs W.heap.size 25 3 (rowF [.slice none 0 0, .slice none 0 0, .bool false])) (hs : Z.heap.size = W.heap.size + 1) (hb : Below W.heap.size W Z) (hO : Own w5 Z.heap.size (.slice (some ⟨gr, 0, none⟩) 2 cr) [s.rt 0, s.rt 1]) (hB : Below Z.heap.size Z w5) :
    OutAt W (w5.alloc (.cells #[.slice none 0 0, .slice (some ⟨gr, 0, none⟩) 2 cr, .bool s.on] 25)) (w5.alloc (.cells #[.slice none 0 0, .slice (some ⟨gr, 0, none⟩) 2 cr, .bool s.on] 25)) s w5.heap.size gr cr 0 (.slice none 0 0) (fun _ => .bool false) (fun _ => False) := by
  have l := World.ownsRow.lt hO gr rfl
  have s5 := hB.size
  refine ⟨row_of w5 #[.slice none 0 0, .slice (some ⟨gr, 0, none⟩) 2 cr, .bool s.on] 25, (hz.of_block (hB.block _ (by omega))).alloc _, (rts_cells hO).kept ((Below.refl _ _).alloc (Nat.le_refl _) _), Grown.nil _ _ _ _ _ _, ((hb.trans (hB.mono (by omega))).alloc (by omega) _), ⟨by omega, by omega, by omega, by simp, by simp; omega, Nat.le_refl _⟩⟩
theorem out_b {W Z w5 : World} {s : Mst} {gr cr : Nat} (hz : Z.rowIs W.heap.size 25 3 (rowF [.slice none 0 0, .slice none 0 0, .bool false])) (hs : Z.heap.size = W.heap.size + 1) (hb : Below W.heap.size W Z) (hO : Own w5 (Z.heap.size + 1) (.slice (some ⟨gr, 0, none⟩) 2 cr) [s.rt 0, s.rt 1]) (o : Obj) (hB : Below (Z.heap.size + 1) (Z.alloc o) w5) (hr : w5.rowIs Z.heap.size 25 3 (rowF [.slice none 0 0, .slice none 0 0, .bool false])) :
    OutAt W (((w5.setCell ⟨Z.heap.size, 0, none⟩ (.slice none 0 0)).setCell ⟨Z.heap.size, 1, none⟩ (.slice (some ⟨gr, 0, none⟩) 2 cr)).setCell ⟨Z.heap.size, 2, none⟩ (.bool s.on)) (((w5.setCell ⟨Z.heap.size, 0, none⟩ (.slice none 0 0)).setCell ⟨Z.heap.size, 1, none⟩ (.slice (some ⟨gr, 0, none⟩) 2 cr)).setCell ⟨Z.heap.size, 2, none⟩ (.bool s.on)) s Z.heap.size gr cr 0 (.slice none 0 0) (fun _ => .bool false) (fun _ => False) := by
  have l := World.ownsRow.lt hO gr rfl
  have s5 := hB.size
  simp at s5
  have bZ : Below Z.heap.size Z w5 := ((Below.refl Z.heap.size Z).alloc (Nat.le_refl _) o).trans (hB.mono (by omega))
  refine ⟨(((hr.set 0 _).set 1 _).set 2 _).congr (fun i hi => ?_), ?_, ?_, Grown.nil _ _ _ _ _ _, ?_, ⟨by omega, by omega, by omega, ?_, ?_, Nat.le_refl _⟩⟩
  · match i, hi with
    | 0, _ => rfl
    | 1, _ => rfl
    | 2, _ => rfl
  · have q := hz.of_block (bZ.block _ (by omega))
    iterate 3 refine World.rowIs.of_block ?_ (Below.heap_setCell _ _ _ _ (by show W.heap.size ≠ Z.heap.size; omega))
    exact q
  · iterate 3 refine CellsAt.far ?_ (by omega) _
    exact rts_cells hO
  · iterate 3 refine Below.setCell ?_ (by show W.heap.size ≤ Z.heap.size; omega) _
    exact hb.trans (bZ.mono (by omega))
  · simp [World.setCell]; omega
  · simp [World.setCell]; omega
set_option maxHeartbeats 8000000 in
theorem impl_marker (B rp cp op n c1 c2 : Nat) (s : Mst) (W : World) (hn2 : 2 ≤ n) (hn : n ≤ 10) (h : Hid (RunM W B rp cp op n c1 c2 s)) :
    Calls Try.prog 32 #[.pointer (some ⟨rp, 0, none⟩)] W fun e W' => ∃ v, e = .returned v ∧ OutM W W' n s v := by
  obtain ⟨Z, hZ⟩ : ∃ Z, Hid (W.alloc (.cells #[.slice none 0 0, .slice none 0 0, .bool false] 25) = Z) := ⟨_, rfl⟩
  have HZ : Hid (Below W.heap.size W Z) := by show Below _ _ _; rw [← hZ.out]; exact (Below.refl _ _).alloc (Nat.le_refl _) _
  have HZS : Hid (Z.heap.size = W.heap.size + 1) := by show _ = _; rw [← hZ.out]; simp
  have q0 := row_of W #[.slice none 0 0, .slice none 0 0, .bool false] 25
  rw [hZ.out] at q0
  have HZR : Hid (Z.rowIs W.heap.size 25 3 (rowF [.slice none 0 0, .slice none 0 0, .bool false])) := q0
  clear q0
  have HLT : Hid (rp < W.heap.size ∧ cp < W.heap.size ∧ op < W.heap.size) := ⟨h.out.row.lt, h.out.cells.1, h.out.cols.1⟩
  have HRW : Hid (∀ w, Below W.heap.size W w → RunM w B rp cp op n c1 c2 s) := fun w q => h.out.kept q
  have rlt := HLT.out.1
  go_enter Try.func32, Try.ntmps32
  go_upto_region 1 with fail
  rw [hZ.out]
  clear hZ
  go_cut [3] (fun v3 wx => ∃ gm gr c, v3 = .pointer (some ⟨gm, 0, none⟩) ∧ OutAt W wx wx s gm gr c 0 (.slice none 0 0) (fun _ => .bool false) (fun _ => False))
  case first =>
    have HI : Hid (∀ w, Below W.heap.size W w → Ints w (some ⟨rp, 2, none⟩) [s.rt 0, s.rt 1]) := fun w q => by
      have r := (HRW.out w q).row
      refine Or.inr ⟨rp, 2, rfl, r.lt, fun i hi => ?_⟩
      match i, hi with
      | 0, _ => exact r.cell (i := 2) (by decide)
      | 1, _ => exact r.cell (i := 3) (by decide)
    have HC : Hid (∀ w, Below W.heap.size W w → w.cell? ⟨rp, 4, none⟩ = some (.bool s.on)) := fun w q => (HRW.out w q).row.cell (i := 4) (by decide)
    have q4 : Z.drew.cell? ⟨rp, 4, none⟩ = some (.bool s.on) := HC.out _ HZ.out.drew
    have ZB : Hid (∀ o, Below W.heap.size W (Z.drew.alloc o)) := fun o => HZ.out.drew.alloc (by have := HZ.out.size; exact this) _
    have q4a : ∀ o, (Z.drew.alloc o).cell? ⟨rp, 4, none⟩ = some (.bool s.on) := fun o => HC.out _ (ZB.out o)
    have zlt : rp < Z.heap.size := by have := HZS.out; omega
    go_region_held3 (fun w' => w'.cell? ⟨rp, 4, none⟩ = some (.bool s.on)) (first | with_reducible exact q4 | exact q4a _ | with_reducible exact q5 | exact q5a _ | exact q5s _ _ _ | go_keep) (first
      | (go_at_call 58; refine (clone_own (some ⟨rp, 2, none⟩) 2 2 [s.rt 0, s.rt 1] Z.drew rfl (by decide) (HI.out _ HZ.out.drew)).mono ?_; rintro e w5 ⟨v5, rfl, hO5, hB5⟩; obtain ⟨gr, cr, rfl⟩ := row_some15 hO5 (Nat.succ_pos _); have HO5 : Hid (Own w5 Z.drew.heap.size (.slice (some ⟨gr, 0, none⟩) 2 cr) [s.rt 0, s.rt 1]) := hO5; have HB5 : Hid (Below Z.drew.heap.size Z.drew w5) := hB5; have q5 := HC.out w5 (HZ.out.drew.trans (hB5.mono (by have := HZ.out.size; exact this))); have q5a : ∀ o, (w5.alloc o).cell? ⟨rp, 4, none⟩ = some (.bool s.on) := (fun o => HC.out _ ((HZ.out.drew.trans (hB5.mono (by have := HZ.out.size; exact this))).alloc (Nat.le_trans HZ.out.size hB5.size) _)); clear hO5 hB5)
      | (go_at_call 58; refine (clone_own (some ⟨rp, 2, none⟩) 2 2 [s.rt 0, s.rt 1] (Z.drew.alloc (.cells #[.slice none 0 0, .slice none 0 0, .bool false] 25)) rfl (by decide) (HI.out _ (ZB.out _))).mono ?_; rintro e w5 ⟨v5, rfl, hO5, hB5⟩; obtain ⟨gr, cr, rfl⟩ := row_some15 hO5 (Nat.succ_pos _); have HO6 : Hid (Own w5 (Z.drew.alloc (.cells #[.slice none 0 0, .slice none 0 0, .bool false] 25)).heap.size (.slice (some ⟨gr, 0, none⟩) 2 cr) [s.rt 0, s.rt 1]) := hO5; have HB6 : Hid (Below (Z.drew.alloc (.cells #[.slice none 0 0, .slice none 0 0, .bool false] 25)).heap.size (Z.drew.alloc (.cells #[.slice none 0 0, .slice none 0 0, .bool false] 25)) w5) := hB5; have q5 := HC.out w5 ((ZB.out _).trans (hB5.mono (ZB.out _).size)); have q5a : ∀ o, (w5.alloc o).cell? ⟨rp, 4, none⟩ = some (.bool s.on) := (fun o => HC.out _ (((ZB.out _).trans (hB5.mono (ZB.out _).size)).alloc (Nat.le_trans (ZB.out _).size hB5.size) _)); have RB := (show Hid (w5.rowIs Z.heap.size 25 3 (rowF [.slice none 0 0, .slice none 0 0, .bool false])) from (row_of Z.drew #[.slice none 0 0, .slice none 0 0, .bool false] 25).of_block (hB5.block _ (row_of Z.drew #[.slice none 0 0, .slice none 0 0, .bool false] 25).lt)); have b0 := RB.out.cell (i := 0) (by decide); have b1 := RB.out.cell (i := 1) (by decide); have b2 := RB.out.cell (i := 2) (by decide); have f0 := RB.out.frozen 0; have f1 := RB.out.frozen 1; have f2 := RB.out.frozen 2; have lb := RB.out.lt; have q5s := (far_three (A := Z.heap.size) q5 (by omega)); clear hO5 hB5))
    all_goals go_wp2_with fail
    · go_meet
      exact ⟨_, _, _, rfl, out_a HZR.out HZS.out HZ.out HO5.out ((Below.refl Z.heap.size Z).drew.trans HB5.out)⟩
    · go_meet
      have sE : (Z.drew.alloc (.cells #[.slice none 0 0, .slice none 0 0, .bool false] 25)).heap.size = Z.heap.size + 1 := by simp
      have o6 := HO6.out
      have b6 := HB6.out
      rw [sE] at o6 b6
      exact ⟨_, _, _, rfl, out_b (Z := Z.drew) HZR.out HZS.out HZ.out.drew o6 _ b6 RB.out⟩
  case rest =>
    obtain ⟨gm, gr, c, rfl, hO⟩ := hcut
    have HO : Hid (OutAt W wc wc s gm gr c 0 (.slice none 0 0) (fun _ => .bool false) (fun _ => False)) := hO
    clear hO HZ HZS HZR
    have r0 : wc.cell? ⟨rp, 0, none⟩ = some (.slice (some ⟨cp, 0, none⟩) n c1) := (HRW.out wc HO.out.bel).row.cell (i := 0) (by decide)
    have rl := (HRW.out wc HO.out.bel).row.lt
    go_wp2
    clear r0 rl
    go_loopw [21] (fun vi wr => ∃ (k : Nat) (v : Value) (U : Nat → Value) (F : Nat → Prop), k ≤ n ∧ vi = .int .i64 k ∧ Hid (OutAt W wc wr s gm gr c k v U F)) (fun vi _ => n - (intOf vi).toNat)
    case atStart => exact ⟨0, _, _, _, Nat.zero_le _, rfl, HO⟩
    case round =>
      obtain ⟨k, v, U, F, hk, rfl, HA⟩ := hrel
      by_cases hlt : k < n
      rotate_left
      · have e : k = n := by omega
        subst e
        obtain ⟨g, d, rfl⟩ := row_some15 HA.out.rows.row (by omega)
        have x0 : wr.cell? ⟨gm, 0, none⟩ = some (.slice (some ⟨g, 0, none⟩) k d) := HA.out.box.cell (i := 0) (by decide)
        have x1 : wr.cell? ⟨gm, 1, none⟩ = some (.slice (some ⟨gr, 0, none⟩) 2 c) := HA.out.box.cell (i := 1) (by decide)
        have x2 : wr.cell? ⟨gm, 2, none⟩ = some (.bool s.on) := HA.out.box.cell (i := 2) (by decide)
        have z0 : wr.cell? ⟨W.heap.size, 0, none⟩ = some (.slice none 0 0) := HA.out.zero.cell (i := 0) (by decide)
        have z1 : wr.cell? ⟨W.heap.size, 1, none⟩ = some (.slice none 0 0) := HA.out.zero.cell (i := 1) (by decide)
        have z2 : wr.cell? ⟨W.heap.size, 2, none⟩ = some (.bool false) := HA.out.zero.cell (i := 2) (by decide)
        have f0 : wr.frozen? ⟨W.heap.size, 0, none⟩ = false := HA.out.zero.frozen 0
        have f1 : wr.frozen? ⟨W.heap.size, 1, none⟩ = false := HA.out.zero.frozen 1
        have f2 : wr.frozen? ⟨W.heap.size, 2, none⟩ = false := HA.out.zero.frozen 2
        have lZ := HA.out.zero.lt
        have lM := HA.out.box.lt
        have hkd : decide ((k : Int) < (k : Int)) = false := by simp
        have HRS : Hid (∀ u0 u1 u2, OutM W (((wr.setCell ⟨W.heap.size, 0, none⟩ u0).setCell ⟨W.heap.size, 1, none⟩ u1).setCell ⟨W.heap.size, 2, none⟩ u2) k s (.agg #[.slice (some ⟨g, 0, none⟩) k d, .slice (some ⟨gr, 0, none⟩) 2 c, .bool s.on])) := fun u0 u1 u2 => HA.out.end_ u0 u1 u2
        go_wp2
        exact bodyPost_ret (v := .agg #[.slice (some ⟨g, 0, none⟩) k d, .slice (some ⟨gr, 0, none⟩) 2 c, .bool s.on]) (by simp only [results, Try.results32]; go_simp) rfl ⟨_, rfl, HRS.out _ _ _⟩
      have hltI : (k : Int) < (n : Int) := by omega
      have hk0 : (0 : Int) ≤ (k : Int) := by omega
      have HR := HRW.out wr HA.out.bel
      obtain ⟨c0, c1', c2'⟩ := HR.cell hlt
      have cl := HR.cells.1
      have HRWB := HA.out.bel.size
      obtain ⟨y0, Hy0⟩ : ∃ y, Hid (s.lk k 0 = y) := ⟨_, rfl⟩
      obtain ⟨y1, Hy1⟩ : ∃ y, Hid (s.lk k 1 = y) := ⟨_, rfl⟩
      obtain ⟨z, Hz⟩ : ∃ y, Hid (s.fr k = y) := ⟨_, rfl⟩
      obtain ⟨y, Hy⟩ : ∃ y, Hid (s.co k = y) := ⟨_, rfl⟩
      rw [Hy0.out] at c0
      rw [Hy1.out] at c1'
      rw [Hz.out] at c2'
      obtain ⟨Y, hY⟩ : ∃ Y, Hid (wr.alloc (.cells #[.int .i64 y0, .int .i64 y1, .bool z] 78) = Y) := ⟨_, rfl⟩
      have HYB : Hid (Below wr.heap.size wr Y) := by show Below _ _ _; rw [← hY.out]; exact (Below.refl _ _).alloc (Nat.le_refl _) _
      have HYR : Hid (Y.rowIs wr.heap.size 78 3 (rowF [.int .i64 y0, .int .i64 y1, .bool z])) := by show World.rowIs _ _ _ _ _; rw [← hY.out]; exact row_of wr #[.int .i64 y0, .int .i64 y1, .bool z] 78
      have AY : Hid (OutAt W wc Y s gm gr c k v U F) := HA.out.kept HYB.out
      have v0 : Y.cell? ⟨gm, 0, none⟩ = some v := AY.out.box.cell (i := 0) (by decide)
      clear HR
      go_upto_region 5 with fail
      rw [hY.out]
      clear c0 c1' c2' cl hY
      obtain ⟨i5, hi5, hz50, hz51, hz52⟩ := parts_of (P := Try.prog) (e := 52) (z := .agg #[.slice none 0 0, .int .i64 0, .bool false]) (a := 3) (b := 40) (by kernel_rfl)
      have WY : Hid (Below W.heap.size W Y) := AY.out.bel
      have ROW := (HRW.out Y WY.out)
      have y1s : Y.cell? ⟨rp, 1, none⟩ = some (.slice (some ⟨op, 0, none⟩) n c2) := ROW.row.cell (i := 1) (by decide)
      have yco : Y.cell? ⟨op, k, none⟩ = some (.int .i64 y) := by rw [← Hy.out]; exact ROW.color hlt
      have yfr : Y.cell? ⟨wr.heap.size, 2, none⟩ = some (.bool z) := HYR.out.cell (i := 2) (by decide)
      obtain ⟨lb, HLB⟩ : ∃ lb, Hid (wr.heap.size = lb) := ⟨_, rfl⟩
      rw [HLB.out] at yfr HYR
      have HLI : Hid (Ints Y (some ⟨lb, 0, none⟩) [y0, y1]) := by
        refine Or.inr ⟨lb, 0, rfl, HYR.out.lt, fun i hi => ?_⟩
        match i, hi with
        | 0, _ => exact HYR.out.cell (i := 0) (by decide)
        | 1, _ => exact HYR.out.cell (i := 1) (by decide)
      rw [HLB.out]
      have lyr : lb < Y.heap.size := HYR.out.lt
      have ORD := HA.out.ord
      obtain ⟨o1, o2, o3, o4, o5, o6⟩ := ORD
      have HOWN : Hid (∀ g, v.ownBlock = some g → wc.heap.size ≤ g ∧ g < lb) := fun g e => by
        have q := World.ownsRow.lt HA.out.rows.row g e
        rw [← HLB.out]; exact q
      have lw := HLT.out
      have lbw : W.heap.size ≤ lb ∧ gm < lb := ⟨by rw [← HLB.out]; omega, by rw [← HLB.out]; exact HA.out.box.lt⟩
      have hS0 : Y.drew.cell? ⟨rp, 1, none⟩ = some (.slice (some ⟨op, 0, none⟩) n c2) ∧ Y.drew.cell? ⟨op, k, none⟩ = some (.int .i64 y) ∧ Y.drew.cell? ⟨lb, 2, none⟩ = some (.bool z) := ⟨y1s, yco, yfr⟩
      have HS : Hid (∀ w, Below Y.heap.size Y w → w.cell? ⟨rp, 1, none⟩ = some (.slice (some ⟨op, 0, none⟩) n c2) ∧ w.cell? ⟨op, k, none⟩ = some (.int .i64 y) ∧ w.cell? ⟨lb, 2, none⟩ = some (.bool z)) := fun w q => ⟨(q.cell (p := ⟨rp, 1, none⟩) (by show rp < _; omega)).trans y1s, (q.cell (p := ⟨op, k, none⟩) (by show op < _; omega)).trans yco, (q.cell (p := ⟨lb, 2, none⟩) lyr).trans yfr⟩
      have HV : Hid (∀ w, Below Y.heap.size Y w → w.cell? ⟨gm, 0, none⟩ = some v) := fun w q => (q.cell (p := ⟨gm, 0, none⟩) (by show gm < _; omega)).trans v0
      have HG : Hid (∀ w w' : World, (w.cell? ⟨rp, 1, none⟩ = some (.slice (some ⟨op, 0, none⟩) n c2) ∧ w.cell? ⟨op, k, none⟩ = some (.int .i64 y) ∧ w.cell? ⟨lb, 2, none⟩ = some (.bool z)) → w.grownBy w' v.ownBlock → w'.cell? ⟨rp, 1, none⟩ = some (.slice (some ⟨op, 0, none⟩) n c2) ∧ w'.cell? ⟨op, k, none⟩ = some (.int .i64 y) ∧ w'.cell? ⟨lb, 2, none⟩ = some (.bool z)) := fun w w' q g => ⟨cell_grown q.1 g (fun e => by have := HOWN.out _ e; omega), cell_grown q.2.1 g (fun e => by have := HOWN.out _ e; omega), cell_grown q.2.2 g (fun e => by have := HOWN.out _ e; omega)⟩
      have HP : Hid (∀ (w : World) (u : Value), (w.cell? ⟨rp, 1, none⟩ = some (.slice (some ⟨op, 0, none⟩) n c2) ∧ w.cell? ⟨op, k, none⟩ = some (.int .i64 y) ∧ w.cell? ⟨lb, 2, none⟩ = some (.bool z)) → (w.setCell ⟨gm, 0, none⟩ u).cell? ⟨rp, 1, none⟩ = some (.slice (some ⟨op, 0, none⟩) n c2) ∧ (w.setCell ⟨gm, 0, none⟩ u).cell? ⟨op, k, none⟩ = some (.int .i64 y) ∧ (w.setCell ⟨gm, 0, none⟩ u).cell? ⟨lb, 2, none⟩ = some (.bool z)) := fun w u q => ⟨by rw [World.cell?_setCell_other _ _ _ _ (by simp <;> omega)]; exact q.1, by rw [World.cell?_setCell_other _ _ _ _ (by simp <;> omega)]; exact q.2.1, by rw [World.cell?_setCell_other _ _ _ _ (by simp <;> omega)]; exact q.2.2⟩
      have HM : Hid (∀ w w' : World, Below Y.heap.size Y w → w.grownBy w' v.ownBlock → w'.cell? ⟨gm, 0, none⟩ = some v ∧ w'.frozen? ⟨gm, 0, none⟩ = false) := fun w w' q g => by
        have e := g.block gm (by have := q.size; omega) (fun e => by have := HOWN.out _ e.symm; omega)
        exact ⟨(World.cell?_of_block (a := ⟨gm, 0, none⟩) e).trans (HV.out w q), (World.frozen?_of_block (a := ⟨gm, 0, none⟩) e).trans ((World.frozen?_of_block (a := ⟨gm, 0, none⟩) (q.block gm (by omega))).trans (AY.out.box.frozen 0))⟩
      obtain ⟨xs, HXS⟩ : ∃ xs, Hid ((List.range (k * 3)).map U = xs) := ⟨_, rfl⟩
      have GR : Hid (Y.ownsRow wc.heap.size 52 3 v k xs) := by show World.ownsRow _ _ _ _ _ _ _; rw [← HXS.out]; exact AY.out.rows.row
      have HSTEP : Hid (∀ (w1 w3 : World) (g1 c1 : Nat) (v' : Value), Own w1 Y.heap.size (.slice (some ⟨g1, 0, none⟩) 2 c1) [y0, y1] → Below Y.heap.size Y w1 → w3.ownsRow wc.heap.size 52 3 v' (k + 1) (xs ++ [.slice (some ⟨g1, 0, none⟩) 2 c1, .int .i64 y, .bool z]) → (w1.alloc (.cells #[.slice (some ⟨g1, 0, none⟩) 2 c1, .int .i64 y, .bool z] 52)).grownBy w3 v.ownBlock → (v'.ownBlock = v.ownBlock ∨ v'.ownBlock = some (w1.alloc (.cells #[.slice (some ⟨g1, 0, none⟩) 2 c1, .int .i64 y, .bool z] 52)).heap.size) → ∃ v U F, OutAt W wc (w3.setCell ⟨gm, 0, none⟩ v') s gm gr c (k + 1) v U F) := fun w1 w3 g1 cc v' q1 q2 q3 q4 q5 => by
        have k1 := own_cells (f := fun j => .int .i64 (s.lk k j)) (sz := 1) (n := 2) q1 (fun i hi => by
          match i, hi with
          | 0, _ => rw [Hy0.out]; rfl
          | 1, _ => rw [Hy1.out]; rfl)
        rw [← HXS.out, ← Hy.out, ← Hz.out] at q3
        rw [← Hy.out, ← Hz.out] at q4 q5
        obtain ⟨U', F', r⟩ := AY.out.step (k1 : CellsAt w1 g1 2 _) (World.ownsRow.lt q1 g1 rfl).1 q2 q3 q4 q5
        exact ⟨v', U', F', r⟩
      have wcl : wc.heap.size ≤ Y.heap.size := AY.out.ord.2.2.2.2.2
      clear HXS Hy0 Hy1 Hz Hy HOWN HA AY HYB HYR WY ROW HLT HRW h y1s yco yfr
      have m0 : Y.drew.cell? ⟨gm, 0, none⟩ = some v := v0
      have gml : gm < Y.heap.size := by omega
      refine wp_region_noPanic ?_
      refine wp_region_held_drew (S := fun w' => w'.cell? ⟨rp, 1, none⟩ = some (.slice (some ⟨op, 0, none⟩) n c2) ∧ w'.cell? ⟨op, k, none⟩ = some (.int .i64 y) ∧ w'.cell? ⟨lb, 2, none⟩ = some (.bool z)) (by kernel_rfl) ?_ (fun hHeld => ?_)
      · (try dsimp only); exact hS0
      refine wpAnyH_take (i := 0) (v := ?v1) rfl (by kernel_rfl) (by kernel_rfl) (by kernel_rfl) (fun _ _ _ h => h) (Or.inl ⟨by rfl, ?hy1⟩) (by assumption) ?_
      case hy1 => (intro w hSw; (try dsimp only at hSw); go_simp; try with_reducible rfl)
      try simp only [Act.put, List.setIfInBounds_toArray, List.set_cons_zero, List.set_cons_succ]
      refine wpAnyH_take (i := 2) (v := ?v2) rfl (by kernel_rfl) (by kernel_rfl) (by kernel_rfl) (fun _ _ _ h => h) (Or.inl ⟨by rfl, ?hy2⟩) (by assumption) ?_
      case hy2 => (intro w hSw; (try dsimp only at hSw); go_simp; try with_reducible rfl)
      try simp only [Act.put, List.setIfInBounds_toArray, List.set_cons_zero, List.set_cons_succ]
      refine wpAnyH_take (i := 3) (v := ?v3) rfl (by kernel_rfl) (by kernel_rfl) (by kernel_rfl) (fun _ _ _ h => h) (Or.inl ⟨by rfl, ?hy3⟩) (by assumption) ?_
      case hy3 => (intro w hSw; (try dsimp only at hSw); go_simp; try with_reducible rfl)
      try simp only [Act.put, List.setIfInBounds_toArray, List.set_cons_zero, List.set_cons_succ]
      refine wpAnyH_take (i := 5) (v := ?v4) rfl (by kernel_rfl) (by kernel_rfl) (by kernel_rfl) (fun _ _ _ h => h) (Or.inl ⟨by rfl, ?hy4⟩) (by assumption) ?_
      case hy4 => (intro w hSw; (try dsimp only at hSw); go_simp; try with_reducible rfl)
      try simp only [Act.put, List.setIfInBounds_toArray, List.set_cons_zero, List.set_cons_succ]
      refine wpAnyH_take (i := 6) (v := ?v5) rfl (by kernel_rfl) (by kernel_rfl) (by kernel_rfl) (fun _ _ _ h => h) (Or.inl ⟨by rfl, ?hy5⟩) (by assumption) ?_
      case hy5 => (intro w hSw; (try dsimp only at hSw); go_simp; try with_reducible rfl)
      try simp only [Act.put, List.setIfInBounds_toArray, List.set_cons_zero, List.set_cons_succ]
      refine wpAnyH_take (i := 7) (v := ?v6) rfl (by kernel_rfl) (by kernel_rfl) (by kernel_rfl) (fun _ _ _ h => h) (Or.inl ⟨by rfl, ?hy6⟩) (by assumption) ?_
      case hy6 => (intro w hSw; (try dsimp only at hSw); go_simp; try with_reducible rfl)
      try simp only [Act.put, List.setIfInBounds_toArray, List.set_cons_zero, List.set_cons_succ]
      refine wpAnyH_take (i := 8) (v := ?v7) rfl (by kernel_rfl) (by kernel_rfl) (by kernel_rfl) (fun _ _ _ h => h) (Or.inl ⟨by rfl, ?hy7⟩) (by assumption) ?_
      case hy7 => (intro w hSw; (try dsimp only at hSw); go_simp; try with_reducible rfl)
      try simp only [Act.put, List.setIfInBounds_toArray, List.set_cons_zero, List.set_cons_succ]
      refine wpAnyH_take (i := 9) (v := ?v8) rfl (by kernel_rfl) (by kernel_rfl) (by kernel_rfl) (fun _ _ _ h => h) (Or.inl ⟨by rfl, ?hy8⟩) (by assumption) ?_
      case hy8 => (intro w hSw; (try dsimp only at hSw); go_simp; try with_reducible rfl)
      try simp only [Act.put, List.setIfInBounds_toArray, List.set_cons_zero, List.set_cons_succ]
      refine wpAnyH_take (i := 10) (v := ?v9) rfl (by kernel_rfl) (by kernel_rfl) (by kernel_rfl) (fun _ _ _ h => h) (Or.inl ⟨by rfl, ?hy9⟩) (by assumption) ?_
      case hy9 => (intro w hSw; (try dsimp only at hSw); go_simp; try with_reducible rfl)
      try simp only [Act.put, List.setIfInBounds_toArray, List.set_cons_zero, List.set_cons_succ]
      refine wpAnyH_take (i := 11) (v := ?v10) rfl (by kernel_rfl) (by kernel_rfl) (by kernel_rfl) (fun _ _ _ h => h) (Or.inl ⟨by rfl, ?hy10⟩) (by assumption) ?_
      case hy10 => (intro w hSw; (try dsimp only at hSw); go_simp; try with_reducible rfl)
      try simp only [Act.put, List.setIfInBounds_toArray, List.set_cons_zero, List.set_cons_succ]
      refine wpAnyH_take (i := 12) (v := ?v11) rfl (by kernel_rfl) (by kernel_rfl) (by kernel_rfl) (fun _ _ _ h => h) (Or.inl ⟨by rfl, ?hy11⟩) (by assumption) ?_
      case hy11 => (intro w hSw; (try dsimp only at hSw); go_simp; try with_reducible rfl)
      try simp only [Act.put, List.setIfInBounds_toArray, List.set_cons_zero, List.set_cons_succ]
      refine wpAnyH_take (i := 13) (v := ?v12) rfl (by kernel_rfl) (by kernel_rfl) (by kernel_rfl) (fun _ _ _ h => h) (Or.inl ⟨by rfl, ?hy12⟩) (by assumption) ?_
      case hy12 => (intro w hSw; (try dsimp only at hSw); go_simp; try with_reducible rfl)
      try simp only [Act.put, List.setIfInBounds_toArray, List.set_cons_zero, List.set_cons_succ]
      refine wpAnyH_ready (rs := [1, 4]) (by kernel_rfl) (by simp) ?_
      refine AllReadyH.cons rfl (fun K hK => ?_) ?_
      · go_simp
        refine hK.out _ _ ?_ (fun hHeld => ?_)
        · (try dsimp only); (first | with_reducible exact hS0 | with_reducible exact qs1 | with_reducible exact qs2 | with_reducible exact qs3 | with_reducible exact qs4)
        clear hK K
        try simp only [Act.put, List.setIfInBounds_toArray, List.set_cons_zero, List.set_cons_succ]
        refine wpAnyH_ready (rs := [4]) (by kernel_rfl) (by simp) ?_
        refine AllReadyH.cons rfl (fun K hK => ?_) AllReadyH.nil
        (go_simp; go_at_call 58; refine (clone_own (some ⟨lb, 0, none⟩) 2 2 [y0, y1] Y.drew rfl (by decide) HLI.out).mono ?_; rintro e w1 ⟨v1, rfl, hO1, hB1⟩; obtain ⟨g1, c1q, rfl⟩ := row_some15 hO1 (Nat.succ_pos _); have B1 := (show Hid (Below Y.heap.size Y w1) from (Below.refl Y.heap.size Y).drew.trans hB1); have O1 := (show Hid (Own w1 Y.heap.size (.slice (some ⟨g1, 0, none⟩) 2 c1q) [y0, y1]) from hO1); clear hO1 hB1; have qs1 := HS.out w1 B1.out; have m1 := HV.out w1 B1.out; have gml1 := (show gm < w1.heap.size from Nat.lt_of_lt_of_le gml B1.out.size); have B2 := (show Hid (Below Y.heap.size Y (w1.alloc (.cells #[.slice (some ⟨g1, 0, none⟩) 2 c1q, .int .i64 y, .bool z] 52))) from B1.out.alloc B1.out.size _); have qs2 := HS.out _ B2.out; try go_wp2_with fail)
        refine hK.out _ _ ?_ (fun hHeld => ?_)
        · (try dsimp only); (first | with_reducible exact hS0 | with_reducible exact qs1 | with_reducible exact qs2 | with_reducible exact qs3 | with_reducible exact qs4)
        clear hK K
        try simp only [Act.put, List.setIfInBounds_toArray, List.set_cons_zero, List.set_cons_succ]
        refine wpAnyH_take (i := 14) (v := ?v13) rfl (by kernel_rfl) (by kernel_rfl) (by kernel_rfl) (fun _ _ _ h => h) (Or.inl ⟨by rfl, ?hy13⟩) (by assumption) ?_
        case hy13 => (intro w hSw; (try dsimp only at hSw); go_simp; try with_reducible rfl)
        try simp only [Act.put, List.setIfInBounds_toArray, List.set_cons_zero, List.set_cons_succ]
        refine wpAnyH_ready (rs := [15]) (by kernel_rfl) (by simp) ?_
        refine AllReadyH.cons rfl (fun K hK => ?_) AllReadyH.nil
        go_simp
        refine hK.out _ _ ?_ (fun hHeld => ?_)
        · (try dsimp only); (first | with_reducible exact hS0 | with_reducible exact qs1 | with_reducible exact qs2 | with_reducible exact qs3 | with_reducible exact qs4)
        clear hK K
        try simp only [Act.put, List.setIfInBounds_toArray, List.set_cons_zero, List.set_cons_succ]
        refine wpAnyH_ready (rs := [16]) (by kernel_rfl) (by simp) ?_
        refine AllReadyH.cons rfl (fun K hK => ?_) AllReadyH.nil
        (refine step_append_at _ (by rfl) _ _ 22 (by rfl) wc.heap.size 52 i5 _ 3 40 Try.underlying22 hi5 hz50 hz51 hz52 rfl (by decide) v k xs (by rfl) (row_keep GR.out B2.out) ⟨w1.heap.size, 0, none⟩ 1 1 [.slice (some ⟨g1, 0, none⟩) 2 c1q, .int .i64 y, .bool z] (by rfl) rfl (new_three w1 _ _ _ _) (one_three _ _ _ rfl rfl rfl) (by unfold maxLen; omega) (by omega) (Nat.le_trans wcl B2.out.size) ?_; intro v2 w3 hown2 hgrow2 hnil2 hat2; obtain ⟨g2, c2q, rfl⟩ := row_some15 hown2 (Nat.succ_pos _); have qs3 := HG.out _ _ qs2 hgrow2; obtain ⟨m3, fz3⟩ := HM.out _ _ B2.out hgrow2; have HRES := (show Hid _ from HSTEP.out w1 w3 _ _ _ O1.out B1.out hown2 hgrow2 hat2); clear hown2 hgrow2 hnil2 hat2)
        refine hK.out _ _ ?_ (fun hHeld => ?_)
        · (try dsimp only); (first | with_reducible exact hS0 | with_reducible exact qs1 | with_reducible exact qs2 | with_reducible exact qs3 | with_reducible exact qs4)
        clear hK K
        try simp only [Act.put, List.setIfInBounds_toArray, List.set_cons_zero, List.set_cons_succ]
        refine wpAnyH_take (i := 17) (v := ?v14) rfl (by kernel_rfl) (by kernel_rfl) (by kernel_rfl) (fun _ _ _ h => h) (Or.inl ⟨by rfl, ?hy14⟩) (by assumption) ?_
        case hy14 => (intro w hSw; (try dsimp only at hSw); go_simp; try with_reducible rfl)
        try simp only [Act.put, List.setIfInBounds_toArray, List.set_cons_zero, List.set_cons_succ]
        refine wpAnyH_ready (rs := [18]) (by kernel_rfl) (by simp) ?_
        refine AllReadyH.cons rfl (fun K hK => ?_) AllReadyH.nil
        have qs4 := HP.out w3 (.slice (some ⟨g2, 0, none⟩) (k + 1) c2q) qs3
        go_simp
        refine hK.out _ _ ?_ (fun hHeld => ?_)
        · (try dsimp only); (first | with_reducible exact hS0 | with_reducible exact qs1 | with_reducible exact qs2 | with_reducible exact qs3 | with_reducible exact qs4)
        clear hK K
        try simp only [Act.put, List.setIfInBounds_toArray, List.set_cons_zero, List.set_cons_succ]
        refine wpAnyH_done (by kernel_rfl) ?_ _
        refine NoPanic.normal ?_
        go_wp2
        go_roundw
        case rel =>
          obtain ⟨v', U', F', r⟩ := HRES.out
          exact ⟨k + 1, v', U', F', by omega, by go_num, r⟩
        case measure => simp [intOf]; omega
      refine AllReadyH.cons rfl (fun K hK => ?_) AllReadyH.nil
      (go_simp; go_at_call 58; refine (clone_own (some ⟨lb, 0, none⟩) 2 2 [y0, y1] Y.drew rfl (by decide) HLI.out).mono ?_; rintro e w1 ⟨v1, rfl, hO1, hB1⟩; obtain ⟨g1, c1q, rfl⟩ := row_some15 hO1 (Nat.succ_pos _); have B1 := (show Hid (Below Y.heap.size Y w1) from (Below.refl Y.heap.size Y).drew.trans hB1); have O1 := (show Hid (Own w1 Y.heap.size (.slice (some ⟨g1, 0, none⟩) 2 c1q) [y0, y1]) from hO1); clear hO1 hB1; have qs1 := HS.out w1 B1.out; have m1 := HV.out w1 B1.out; have gml1 := (show gm < w1.heap.size from Nat.lt_of_lt_of_le gml B1.out.size); have B2 := (show Hid (Below Y.heap.size Y (w1.alloc (.cells #[.slice (some ⟨g1, 0, none⟩) 2 c1q, .int .i64 y, .bool z] 52))) from B1.out.alloc B1.out.size _); have qs2 := HS.out _ B2.out; try go_wp2_with fail)
      refine hK.out _ _ ?_ (fun hHeld => ?_)
      · (try dsimp only); (first | with_reducible exact hS0 | with_reducible exact qs1 | with_reducible exact qs2 | with_reducible exact qs3 | with_reducible exact qs4)
      clear hK K
      try simp only [Act.put, List.setIfInBounds_toArray, List.set_cons_zero, List.set_cons_succ]
      refine wpAnyH_take (i := 14) (v := ?v15) rfl (by kernel_rfl) (by kernel_rfl) (by kernel_rfl) (fun _ _ _ h => h) (Or.inl ⟨by rfl, ?hy15⟩) (by assumption) ?_
      case hy15 => (intro w hSw; (try dsimp only at hSw); go_simp; try with_reducible rfl)
      try simp only [Act.put, List.setIfInBounds_toArray, List.set_cons_zero, List.set_cons_succ]
      refine wpAnyH_ready (rs := [1, 15]) (by kernel_rfl) (by simp) ?_
      refine AllReadyH.cons rfl (fun K hK => ?_) ?_
      · go_simp
        refine hK.out _ _ ?_ (fun hHeld => ?_)
        · (try dsimp only); (first | with_reducible exact hS0 | with_reducible exact qs1 | with_reducible exact qs2 | with_reducible exact qs3 | with_reducible exact qs4)
        clear hK K
        try simp only [Act.put, List.setIfInBounds_toArray, List.set_cons_zero, List.set_cons_succ]
        refine wpAnyH_ready (rs := [15]) (by kernel_rfl) (by simp) ?_
        refine AllReadyH.cons rfl (fun K hK => ?_) AllReadyH.nil
        go_simp
        refine hK.out _ _ ?_ (fun hHeld => ?_)
        · (try dsimp only); (first | with_reducible exact hS0 | with_reducible exact qs1 | with_reducible exact qs2 | with_reducible exact qs3 | with_reducible exact qs4)
        clear hK K
        try simp only [Act.put, List.setIfInBounds_toArray, List.set_cons_zero, List.set_cons_succ]
        refine wpAnyH_ready (rs := [16]) (by kernel_rfl) (by simp) ?_
        refine AllReadyH.cons rfl (fun K hK => ?_) AllReadyH.nil
        (refine step_append_at _ (by rfl) _ _ 22 (by rfl) wc.heap.size 52 i5 _ 3 40 Try.underlying22 hi5 hz50 hz51 hz52 rfl (by decide) v k xs (by rfl) (row_keep GR.out B2.out) ⟨w1.heap.size, 0, none⟩ 1 1 [.slice (some ⟨g1, 0, none⟩) 2 c1q, .int .i64 y, .bool z] (by rfl) rfl (new_three w1 _ _ _ _) (one_three _ _ _ rfl rfl rfl) (by unfold maxLen; omega) (by omega) (Nat.le_trans wcl B2.out.size) ?_; intro v2 w3 hown2 hgrow2 hnil2 hat2; obtain ⟨g2, c2q, rfl⟩ := row_some15 hown2 (Nat.succ_pos _); have qs3 := HG.out _ _ qs2 hgrow2; obtain ⟨m3, fz3⟩ := HM.out _ _ B2.out hgrow2; have HRES := (show Hid _ from HSTEP.out w1 w3 _ _ _ O1.out B1.out hown2 hgrow2 hat2); clear hown2 hgrow2 hnil2 hat2)
        refine hK.out _ _ ?_ (fun hHeld => ?_)
        · (try dsimp only); (first | with_reducible exact hS0 | with_reducible exact qs1 | with_reducible exact qs2 | with_reducible exact qs3 | with_reducible exact qs4)
        clear hK K
        try simp only [Act.put, List.setIfInBounds_toArray, List.set_cons_zero, List.set_cons_succ]
        refine wpAnyH_take (i := 17) (v := ?v16) rfl (by kernel_rfl) (by kernel_rfl) (by kernel_rfl) (fun _ _ _ h => h) (Or.inl ⟨by rfl, ?hy16⟩) (by assumption) ?_
        case hy16 => (intro w hSw; (try dsimp only at hSw); go_simp; try with_reducible rfl)
        try simp only [Act.put, List.setIfInBounds_toArray, List.set_cons_zero, List.set_cons_succ]
        refine wpAnyH_ready (rs := [18]) (by kernel_rfl) (by simp) ?_
        refine AllReadyH.cons rfl (fun K hK => ?_) AllReadyH.nil
        have qs4 := HP.out w3 (.slice (some ⟨g2, 0, none⟩) (k + 1) c2q) qs3
        go_simp
        refine hK.out _ _ ?_ (fun hHeld => ?_)
        · (try dsimp only); (first | with_reducible exact hS0 | with_reducible exact qs1 | with_reducible exact qs2 | with_reducible exact qs3 | with_reducible exact qs4)
        clear hK K
        try simp only [Act.put, List.setIfInBounds_toArray, List.set_cons_zero, List.set_cons_succ]
        refine wpAnyH_done (by kernel_rfl) ?_ _
        refine NoPanic.normal ?_
        go_wp2
        go_roundw
        case rel =>
          obtain ⟨v', U', F', r⟩ := HRES.out
          exact ⟨k + 1, v', U', F', by omega, by go_num, r⟩
        case measure => simp [intOf]; omega
      refine AllReadyH.cons rfl (fun K hK => ?_) AllReadyH.nil
      go_simp
      refine hK.out _ _ ?_ (fun hHeld => ?_)
      · (try dsimp only); (first | with_reducible exact hS0 | with_reducible exact qs1 | with_reducible exact qs2 | with_reducible exact qs3 | with_reducible exact qs4)
      clear hK K
      try simp only [Act.put, List.setIfInBounds_toArray, List.set_cons_zero, List.set_cons_succ]
      refine wpAnyH_ready (rs := [1]) (by kernel_rfl) (by simp) ?_
      refine AllReadyH.cons rfl (fun K hK => ?_) AllReadyH.nil
      go_simp
      refine hK.out _ _ ?_ (fun hHeld => ?_)
      · (try dsimp only); (first | with_reducible exact hS0 | with_reducible exact qs1 | with_reducible exact qs2 | with_reducible exact qs3 | with_reducible exact qs4)
      clear hK K
      try simp only [Act.put, List.setIfInBounds_toArray, List.set_cons_zero, List.set_cons_succ]
      refine wpAnyH_ready (rs := [16]) (by kernel_rfl) (by simp) ?_
      refine AllReadyH.cons rfl (fun K hK => ?_) AllReadyH.nil
      (refine step_append_at _ (by rfl) _ _ 22 (by rfl) wc.heap.size 52 i5 _ 3 40 Try.underlying22 hi5 hz50 hz51 hz52 rfl (by decide) v k xs (by rfl) (row_keep GR.out B2.out) ⟨w1.heap.size, 0, none⟩ 1 1 [.slice (some ⟨g1, 0, none⟩) 2 c1q, .int .i64 y, .bool z] (by rfl) rfl (new_three w1 _ _ _ _) (one_three _ _ _ rfl rfl rfl) (by unfold maxLen; omega) (by omega) (Nat.le_trans wcl B2.out.size) ?_; intro v2 w3 hown2 hgrow2 hnil2 hat2; obtain ⟨g2, c2q, rfl⟩ := row_some15 hown2 (Nat.succ_pos _); have qs3 := HG.out _ _ qs2 hgrow2; obtain ⟨m3, fz3⟩ := HM.out _ _ B2.out hgrow2; have HRES := (show Hid _ from HSTEP.out w1 w3 _ _ _ O1.out B1.out hown2 hgrow2 hat2); clear hown2 hgrow2 hnil2 hat2)
      refine hK.out _ _ ?_ (fun hHeld => ?_)
      · (try dsimp only); (first | with_reducible exact hS0 | with_reducible exact qs1 | with_reducible exact qs2 | with_reducible exact qs3 | with_reducible exact qs4)
      clear hK K
      try simp only [Act.put, List.setIfInBounds_toArray, List.set_cons_zero, List.set_cons_succ]
      refine wpAnyH_take (i := 17) (v := ?v17) rfl (by kernel_rfl) (by kernel_rfl) (by kernel_rfl) (fun _ _ _ h => h) (Or.inl ⟨by rfl, ?hy17⟩) (by assumption) ?_
      case hy17 => (intro w hSw; (try dsimp only at hSw); go_simp; try with_reducible rfl)
      try simp only [Act.put, List.setIfInBounds_toArray, List.set_cons_zero, List.set_cons_succ]
      refine wpAnyH_ready (rs := [18]) (by kernel_rfl) (by simp) ?_
      refine AllReadyH.cons rfl (fun K hK => ?_) AllReadyH.nil
      have qs4 := HP.out w3 (.slice (some ⟨g2, 0, none⟩) (k + 1) c2q) qs3
      go_simp
      refine hK.out _ _ ?_ (fun hHeld => ?_)
      · (try dsimp only); (first | with_reducible exact hS0 | with_reducible exact qs1 | with_reducible exact qs2 | with_reducible exact qs3 | with_reducible exact qs4)
      clear hK K
      try simp only [Act.put, List.setIfInBounds_toArray, List.set_cons_zero, List.set_cons_succ]
      refine wpAnyH_done (by kernel_rfl) ?_ _
      refine NoPanic.normal ?_
      go_wp2
      go_roundw
      case rel =>
        obtain ⟨v', U', F', r⟩ := HRES.out
        exact ⟨k + 1, v', U', F', by omega, by go_num, r⟩
      case measure => simp [intOf]; omega
end Go.Proofs.Ytokaibpkajloeaa.walks
