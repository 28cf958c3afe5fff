/-
  A marker at work as the specification has it; what l15Shade does.
-/
import Derived.Test.YtokaibpkajloeaaProg
import Derived.Test.YtokaibpkajloeaaInts
import Derived.Test.YtokaibpkajloeaaOwnInts
import Derived.Test.YtokaibpkajloeaaDeep
import Derived.Test.YtokaibpkajloeaaDeepRow
import Derived.Test.YtokaibpkajloeaaDeepM
import Derived.Test.YtokaibpkajloeaaDeepGrow
import Derived.Test.YtokaibpkajloeaaMarkMath
import Derived.Test.YtokaibpkajloeaaStepMath15
import Derived.Test.YtokaibpkajloeaaMarkRun
import Derived.Test.YtokaibpkajloeaaMarkOut
import Derived.WalkKit
import Derived.WalkSpells
import Derived.Below
import Derived.Handy
import Derived.OwnWalk
import Derived.Deep.OwnRows
import Derived.Deep.DeepCutAuto
namespace Go.Proofs.Ytokaibpkajloeaa.walks
open Go.RowKit Go.Proofs.Ytokaibpkajloeaa.math Go.Proofs.Ytokaibpkajloeaa.ints Go.Proofs.Ytokaibpkajloeaa.deep
set_option linter.unusedVariables false
set_option linter.unusedSimpArgs false
set_option maxRecDepth 100000

/-- The cells: their links lie in blocks of their own. -/
def scV (L C : Nat → Nat) (s : Mst) (i : Nat) : Value := if i % 3 = 0 then .slice (some ⟨L (i / 3), 0, none⟩) 2 (C (i / 3)) else if i % 3 = 1 then .int .i64 (s.co (i / 3)) else .bool (s.fr (i / 3))
structure SpecM (w : World) (B g0 g1 n : Nat) (L C : Nat → Nat) (s : Mst) : Prop where
  cells : CellsAt w g0 (n * 3) (scV L C s)
  lks : ∀ k, k < n → CellsAt w (L k) 2 (fun j => .int .i64 (s.lk k j))
  rts : CellsAt w g1 2 (fun j => .int .i64 (s.rt j))
  low : B ≤ g0 ∧ B ≤ g1 ∧ ∀ k, k < n → B ≤ L k
  dif : g0 ≠ g1 ∧ (∀ k, k < n → L k ≠ g0 ∧ L k ≠ g1) ∧ ∀ i j, i < n → j < n → i ≠ j → L i ≠ L j
theorem scV_three (L C : Nat → Nat) (s : Mst) (k : Nat) : scV L C s (k * 3) = .slice (some ⟨L k, 0, none⟩) 2 (C k) ∧ scV L C s (k * 3 + 1) = .int .i64 (s.co k) ∧ scV L C s (k * 3 + 2) = .bool (s.fr k) := by
  unfold scV
  refine ⟨?_, ?_, ?_⟩
  · rw [if_pos (by omega), show k * 3 / 3 = k by omega]
  · rw [if_neg (by omega), if_pos (by omega), show (k * 3 + 1) / 3 = k by omega]
  · rw [if_neg (by omega), if_neg (by omega), show (k * 3 + 2) / 3 = k by omega]
theorem SpecM.kept {w w' : World} {B g0 g1 n : Nat} {L C : Nat → Nat} {s : Mst} (h : SpecM w B g0 g1 n L C s) (hb : Below w.heap.size w w') : SpecM w' B g0 g1 n L C s := ⟨h.cells.kept hb, fun k hk => (h.lks k hk).kept hb, h.rts.kept hb, h.low, h.dif⟩
theorem SpecM.away {w w' : World} {B g0 g1 n : Nat} {L C : Nat → Nat} {s : Mst} (h : SpecM w B g0 g1 n L C s) (hb : ∀ x, B ≤ x → x < w.heap.size → w'.heap[x]? = w.heap[x]?) : SpecM w' B g0 g1 n L C s := ⟨h.cells.of_block (hb _ h.low.1 h.cells.1), fun k hk => (h.lks k hk).of_block (hb _ (h.low.2.2 k hk) (h.lks k hk).1), h.rts.of_block (hb _ h.low.2.1 h.rts.1), h.low, h.dif⟩
theorem SpecM.mk_ {w : World} {B g0 g1 n : Nat} {L C : Nat → Nat} {s : Mst} (h : SpecM w B g0 g1 n L C s) (b : Bool) : SpecM w B g0 g1 n L C (s.setMk b) := ⟨h.cells, h.lks, h.rts, h.low, h.dif⟩
theorem SpecM.cell {w : World} {B g0 g1 n : Nat} {L C : Nat → Nat} {s : Mst} (h : SpecM w B g0 g1 n L C s) {k : Nat} (hk : k < n) : w.cell? ⟨g0, k * 3, none⟩ = some (.slice (some ⟨L k, 0, none⟩) 2 (C k)) ∧ w.cell? ⟨g0, k * 3 + 1, none⟩ = some (.int .i64 (s.co k)) ∧ w.cell? ⟨g0, k * 3 + 2, none⟩ = some (.bool (s.fr k)) := by
  obtain ⟨a, b, c⟩ := scV_three L C s k
  exact ⟨by rw [(h.cells.2 _ (by omega)).1, a], by rw [(h.cells.2 _ (by omega)).1, b], by rw [(h.cells.2 _ (by omega)).1, c]⟩
theorem SpecM.setCo {w : World} {B g0 g1 n : Nat} {L C : Nat → Nat} {s : Mst} (h : SpecM w B g0 g1 n L C s) {k : Nat} (hk : k < n) (v : Int) : SpecM (w.setCell ⟨g0, k * 3 + 1, none⟩ (.int .i64 v)) B g0 g1 n L C (s.setCo k v) := by
  refine ⟨(h.cells.put (k := k * 3 + 1) (by omega) _).congr (fun i hi => ?_), fun j hj => (h.lks j hj).far (h.dif.2.1 j hj).1 _, h.rts.far h.dif.1.symm _, h.low, h.dif⟩
  unfold scV Mst.setCo upN
  dsimp only
  by_cases e : i = k * 3 + 1
  · rw [if_pos e, if_neg (by omega), if_pos (by omega)]
    simp [show i / 3 = k by omega]
  · rw [if_neg e]
    by_cases q : i % 3 = 0
    · rw [if_pos q, if_pos q]
    · rw [if_neg q, if_neg q]
      by_cases r : i % 3 = 1
      · rw [if_pos r, if_pos r]
        simp [show ¬ i / 3 = k by omega]
      · rw [if_neg r, if_neg r]
/-- As data of its own. -/
theorem SpecM.owns {w : World} {B g0 g1 n : Nat} {L C : Nat → Nat} {s : Mst} (h : SpecM w B g0 g1 n L C s) (d0 : Nat) : Owns w false B (.l n 3 (cellD s)) (.slice (some ⟨g0, 0, none⟩) n d0) (fun x => x = g0 ∨ ∃ k, k < n ∧ x = L k) := by
  refine ⟨some ⟨g0, 0, none⟩, d0, rfl, (fun q => by cases q), Or.inr ⟨g0, 0, rfl, h.low.1, h.cells.1, Or.inl rfl, fun i x => i % 3 = 0 ∧ x = L (i / 3), fun i hi => ⟨⟨scV L C s i, ?_, ?_, ?_⟩, fun q => (h.dif.2.1 (i / 3) (by omega)).1 q.2.symm, fun x hx => Or.inr ⟨i / 3, by omega, hx.2⟩⟩, fun i j hi hj hne x hx hy => ?_⟩⟩
  · rw [Nat.zero_add]; exact (h.cells.2 i hi).1
  · rw [Nat.zero_add]; exact (h.cells.2 i hi).2
  · unfold scV cellD
    by_cases q : i % 3 = 0
    · rw [if_pos q, if_pos q]
      refine ((h.lks (i / 3) (by omega)).owns (F := fun x => x = L (i / 3)) (h.low.2.2 _ (by omega)) rfl (fun j _ => rfl)).more (fun x e => ⟨q, e⟩)
    · rw [if_neg q, if_neg q]
      by_cases r : i % 3 = 1
      · rw [if_pos r, if_pos r]; rfl
      · rw [if_neg r, if_neg r]; rfl
  · exact h.dif.2.2 (i / 3) (j / 3) (by omega) (by omega) (by omega) (hx.2.symm.trans hy.2)
theorem SpecM.rootsI {w : World} {B g0 g1 n : Nat} {L C : Nat → Nat} {s : Mst} (h : SpecM w B g0 g1 n L C s) : Ints w (some ⟨g1, 0, none⟩) [s.rt 0, s.rt 1] := by
  refine Or.inr ⟨g1, 0, rfl, h.rts.1, fun i hi => ?_⟩
  match i, hi with
  | 0, _ => exact (h.rts.2 0 (by decide)).1
  | 1, _ => exact (h.rts.2 1 (by decide)).1
/-- As what a function answers. -/
theorem SpecM.outM {W w : World} {g0 g1 n d0 d1 : Nat} {L C : Nat → Nat} {s : Mst} (h : SpecM w W.heap.size g0 g1 n L C s) (hb : Below W.heap.size W w) : OutM W w n s (.agg #[.slice (some ⟨g0, 0, none⟩) n d0, .slice (some ⟨g1, 0, none⟩) 2 d1, .bool s.on]) := by
  refine ⟨_, d0, _, d1, _, fun x => x = g1, rfl, h.owns d0, fun x q => ?_, h.rts.owns h.low.2.1 rfl (fun i _ => rfl), fun x q => ?_, fun x q r => ?_, hb⟩
  · rcases q with q | ⟨k, hk, q⟩
    · subst q; exact ⟨h.low.1, h.cells.1⟩
    · subst q; exact ⟨h.low.2.2 k hk, (h.lks k hk).1⟩
  · subst q; exact ⟨h.low.2.1, h.rts.1⟩
  · rcases q with q | ⟨k, hk, q⟩
    · exact h.dif.1 (q.symm.trans r)
    · exact (h.dif.2.1 k hk).2 (q.symm.trans r)
def SShadeTo (B g0 d0 g1 d1 n : Nat) (L C : Nat → Nat) (s : Mst) (on : Bool) (W : World) (e : Ending) (W' : World) : Prop := e = .returned (.agg #[.slice (some ⟨g0, 0, none⟩) n d0, .slice (some ⟨g1, 0, none⟩) 2 d1, .bool on]) ∧ SpecM W' B g0 g1 n L C s ∧ OnlyF W W' (fun x => x = g0)
set_option maxHeartbeats 4000000 in
theorem spec_shade (B g0 d0 g1 d1 n : Nat) (L C : Nat → Nat) (s : Mst) (x : Int) (W : World) (hn : n ≤ 10) (h : Hid (SpecM W B g0 g1 n L C s)) (hx : x = -1 ∨ ∃ k : Nat, x = (k : Int) ∧ k < n) :
    Calls Try.prog 68 #[.agg #[.slice (some ⟨g0, 0, none⟩) n d0, .slice (some ⟨g1, 0, none⟩) 2 d1, .bool s.on], .int .i64 x] W fun e W' => SShadeTo B g0 d0 g1 d1 n L C (shadeS s x) s.on W e W' := by
  obtain ⟨X, hX⟩ : ∃ X, Hid ((W.alloc (.cells #[.slice (some ⟨g0, 0, none⟩) n d0, .slice (some ⟨g1, 0, none⟩) 2 d1, .bool s.on] 25)).alloc (.cells #[.slice none 0 0, .slice none 0 0, .bool false] 25) = X) := ⟨_, rfl⟩
  have HX : Hid (Below W.heap.size W X) := by show Below _ _ _; rw [← hX.out]; exact ((Below.refl _ _).alloc (Nat.le_refl _) _).alloc (by simp) _
  have e1 : (W.alloc (.cells #[.slice (some ⟨g0, 0, none⟩) n d0, .slice (some ⟨g1, 0, none⟩) 2 d1, .bool s.on] 25)).heap.size = W.heap.size + 1 := by simp
  have hRX := (row_of W #[.slice (some ⟨g0, 0, none⟩) n d0, .slice (some ⟨g1, 0, none⟩) 2 d1, .bool s.on] 25).alloc (.cells #[.slice none 0 0, .slice none 0 0, .bool false] 25)
  have hZX := row_of (W.alloc (.cells #[.slice (some ⟨g0, 0, none⟩) n d0, .slice (some ⟨g1, 0, none⟩) 2 d1, .bool s.on] 25)) #[.slice none 0 0, .slice none 0 0, .bool false] 25
  rw [hX.out] at hRX
  rw [e1, hX.out] at hZX
  have HS : Hid (SpecM X B g0 g1 n L C s) := h.out.kept HX.out
  have HGL : Hid (g0 < W.heap.size ∧ g1 < W.heap.size ∧ ∀ k, k < n → L k < W.heap.size) := ⟨h.out.cells.1, h.out.rts.1, fun k hk => (h.out.lks k hk).1⟩
  have m0 : X.cell? ⟨W.heap.size, 0, none⟩ = some (.slice (some ⟨g0, 0, none⟩) n d0) := hRX.cell (i := 0) (by show 0 < 3; decide)
  have m1 : X.cell? ⟨W.heap.size, 1, none⟩ = some (.slice (some ⟨g1, 0, none⟩) 2 d1) := hRX.cell (i := 1) (by show 1 < 3; decide)
  have m2 : X.cell? ⟨W.heap.size, 2, none⟩ = some (.bool s.on) := hRX.cell (i := 2) (by show 2 < 3; decide)
  have ml := hRX.lt
  have z0 : X.cell? ⟨W.heap.size + 1, 0, none⟩ = some (.slice none 0 0) := hZX.cell (i := 0) (by show 0 < 3; decide)
  have z1 : X.cell? ⟨W.heap.size + 1, 1, none⟩ = some (.slice none 0 0) := hZX.cell (i := 1) (by show 1 < 3; decide)
  have z2 : X.cell? ⟨W.heap.size + 1, 2, none⟩ = some (.bool false) := hZX.cell (i := 2) (by show 2 < 3; decide)
  have f0 := hZX.frozen 0
  have f1 := hZX.frozen 1
  have f2 := hZX.frozen 2
  have zl := hZX.lt
  have HFIN : Hid (∀ (t : Mst) (w : World), SpecM w B g0 g1 n L C t → OnlyF W w (fun x => x = g0) → ∀ u0 u1 u2, SShadeTo B g0 d0 g1 d1 n L C t s.on W (.returned (.agg #[.slice (some ⟨g0, 0, none⟩) n d0, .slice (some ⟨g1, 0, none⟩) 2 d1, .bool s.on])) (((w.setCell ⟨W.heap.size + 1, 0, none⟩ u0).setCell ⟨W.heap.size + 1, 1, none⟩ u1).setCell ⟨W.heap.size + 1, 2, none⟩ u2)) := fun t w q1 q2 u0 u1 u2 => by
    obtain ⟨a, b, c⟩ := HGL.out
    have hb : ∀ x, x ≠ W.heap.size + 1 → (((w.setCell ⟨W.heap.size + 1, 0, none⟩ u0).setCell ⟨W.heap.size + 1, 1, none⟩ u1).setCell ⟨W.heap.size + 1, 2, none⟩ u2).heap[x]? = w.heap[x]? := fun x hx => by
      rw [Below.heap_setCell _ _ _ _ (by show x ≠ W.heap.size + 1; exact hx), Below.heap_setCell _ _ _ _ (by show x ≠ W.heap.size + 1; exact hx), Below.heap_setCell _ _ _ _ (by show x ≠ W.heap.size + 1; exact hx)]
    refine ⟨rfl, ⟨q1.cells.of_block (hb _ (by omega)), fun k hk => (q1.lks k hk).of_block (hb _ (by have := c k hk; omega)), q1.rts.of_block (hb _ (by omega)), q1.low, q1.dif⟩, ⟨q2.os, q2.tape, q2.output, by simpa [World.setCell] using q2.size, fun x hx hne => ?_⟩⟩
    rw [hb x (by omega)]
    exact q2.block x hx hne
  have HOX : Hid (OnlyF W X (fun x => x = g0)) := OnlyF.of_below HX.out
  clear hRX hZX e1
  obtain ⟨on, Hon⟩ : ∃ b, Hid (s.on = b) := ⟨_, rfl⟩
  rw [Hon.out] at m2 HFIN hX ⊢
  by_cases hsh : s.on = true ∧ x ≠ -1 ∧ s.co x.toNat = 0
  rotate_left
  · have HT : Hid (shadeS s x = s) := by show _ = _; unfold shadeS; rw [if_neg hsh]
    have HA := HFIN.out s X HS.out HOX.out
    rw [← HT.out] at HA
    have HA2 : Hid (∀ u0 u1 u2, SShadeTo B g0 d0 g1 d1 n L C (shadeS s x) on W (.returned (.agg #[.slice (some ⟨g0, 0, none⟩) n d0, .slice (some ⟨g1, 0, none⟩) 2 d1, .bool on])) (((X.setCell ⟨W.heap.size + 1, 0, none⟩ u0).setCell ⟨W.heap.size + 1, 1, none⟩ u1).setCell ⟨W.heap.size + 1, 2, none⟩ u2)) := by
      rw [HT.out] at HA ⊢; exact HA
    clear HA HT HFIN
    cases on
    · clear hsh hx
      go_enter Try.func68, Try.ntmps68
      go_upto_region 1 with fail
      rw [hX.out]
      go_wp2
      exact bodyPost_ret (v := .agg #[.slice (some ⟨g0, 0, none⟩) n d0, .slice (some ⟨g1, 0, none⟩) 2 d1, .bool false]) (by simp only [results, Try.results68]; go_simp) rfl (HA2.out _ _ _)
    rcases hx with e | ⟨k, e, hk⟩
    · subst e
      clear hsh
      go_enter Try.func68, Try.ntmps68
      go_upto_region 1 with fail
      rw [hX.out]
      go_wp2
      exact bodyPost_ret (v := .agg #[.slice (some ⟨g0, 0, none⟩) n d0, .slice (some ⟨g1, 0, none⟩) 2 d1, .bool true]) (by simp only [results, Try.results68]; go_simp) rfl (HA2.out _ _ _)
    · subst e
      have hy : s.co k ≠ 0 := fun q => hsh ⟨Hon.out, by omega, by rw [Int.toNat_natCast]; exact q⟩
      clear hsh
      obtain ⟨c0, c1, c2⟩ := HS.out.cell hk
      have cl := HS.out.cells.1
      generalize s.co k = y at c1 hy
      generalize s.fr k = z at c2
      have d0' : (y == 0) = false := by simpa using hy
      have d1' : decide (y = 0) = false := decide_eq_false hy
      have k0 : (0 : Int) ≤ (k : Int) := by omega
      have k1 : (k : Int) < (n : Int) := by omega
      go_enter Try.func68, Try.ntmps68
      go_upto_region 1 with fail
      rw [hX.out]
      go_wp2
      exact bodyPost_ret (v := .agg #[.slice (some ⟨g0, 0, none⟩) n d0, .slice (some ⟨g1, 0, none⟩) 2 d1, .bool true]) (by simp only [results, Try.results68]; go_simp) rfl (HA2.out _ _ _)
  · obtain ⟨hon, hxn, hco⟩ := hsh
    obtain ⟨k, rfl, hk⟩ := hx.resolve_left hxn
    rw [Int.toNat_natCast] at hco
    have hon2 : on = true := by rw [← Hon.out]; exact hon
    subst hon2
    obtain ⟨c0, c1, c2⟩ := HS.out.cell hk
    have cl := HS.out.cells.1
    have cf := (HS.out.cells.2 (k * 3 + 1) (by omega)).2
    have gne : g0 ≠ W.heap.size ∧ g0 ≠ W.heap.size + 1 := ⟨by have := HGL.out.1; omega, by have := HGL.out.1; omega⟩
    obtain ⟨w2, hw2⟩ : ∃ w2, Hid (X.setCell ⟨g0, k * 3 + 1, none⟩ (.int .i64 1) = w2) := ⟨_, rfl⟩
    have HT : Hid (shadeS s (k : Int) = s.setCo k 1) := by show _ = _; unfold shadeS; rw [if_pos ⟨hon, hxn, by rw [Int.toNat_natCast]; exact hco⟩, Int.toNat_natCast]
    have HA := HFIN.out (s.setCo k 1) w2 (by rw [← hw2.out]; exact HS.out.setCo hk 1) (by rw [← hw2.out]; exact only_set HOX.out rfl _)
    rw [HT.out]
    have HA2 : Hid (∀ u0 u1 u2, SShadeTo B g0 d0 g1 d1 n L C (s.setCo k 1) true W (.returned (.agg #[.slice (some ⟨g0, 0, none⟩) n d0, .slice (some ⟨g1, 0, none⟩) 2 d1, .bool true])) (((w2.setCell ⟨W.heap.size + 1, 0, none⟩ u0).setCell ⟨W.heap.size + 1, 1, none⟩ u1).setCell ⟨W.heap.size + 1, 2, none⟩ u2)) := HA
    have keep : ∀ (b i : Nat) (v : Value), b ≠ g0 → X.cell? ⟨b, i, none⟩ = some v → w2.cell? ⟨b, i, none⟩ = some v := fun b i v hb q => by
      rw [← hw2.out, World.cell?_setCell_other _ _ _ _ (by simp <;> omega)]; exact q
    have n0 := keep _ _ _ (Ne.symm gne.1) m0
    have n1 := keep _ _ _ (Ne.symm gne.1) m1
    have n2 := keep _ _ _ (Ne.symm gne.1) m2
    have y0 := keep _ _ _ (Ne.symm gne.2) z0
    have y1 := keep _ _ _ (Ne.symm gne.2) z1
    have y2 := keep _ _ _ (Ne.symm gne.2) z2
    have wl : w2.heap.size = X.heap.size := by rw [← hw2.out]; simp [World.setCell]
    have ff : ∀ i, w2.frozen? ⟨W.heap.size + 1, i, none⟩ = X.frozen? ⟨W.heap.size + 1, i, none⟩ := fun i => by rw [← hw2.out, World.frozen?_setCell]
    have g0' := (ff 0).trans f0
    have g1' := (ff 1).trans f1
    have g2' := (ff 2).trans f2
    rw [hco] at c1
    generalize s.fr k = z at c2
    have k0 : (0 : Int) ≤ (k : Int) := by omega
    have k1 : (k : Int) < (n : Int) := by omega
    have wl1 : W.heap.size + 1 < w2.heap.size := by omega
    have wl0 : W.heap.size < w2.heap.size := by omega
    clear HA HFIN hon hxn hco keep wl ff HT
    go_enter Try.func68, Try.ntmps68
    go_upto_region 1 with fail
    rw [hX.out]
    go_upto_region 3 with fail
    rw [hw2.out]
    clear m0 m1 m2 z0 z1 z2 c0 c1 c2 cl cf f0 f1 f2 zl ml
    go_wp2
    exact bodyPost_ret (v := .agg #[.slice (some ⟨g0, 0, none⟩) n d0, .slice (some ⟨g1, 0, none⟩) 2 d1, .bool true]) (by simp only [results, Try.results68]; go_simp) rfl (HA2.out _ _ _)
end Go.Proofs.Ytokaibpkajloeaa.walks
