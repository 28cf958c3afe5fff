/-
  What the program's copiedClasses answers: classes of their own.
-/
import Derived.Test.YticgipmaflhplaaProg
import Derived.Test.YticgipmaflhplaaMagMath
import Derived.Test.YticgipmaflhplaaWorldMath
import Derived.Test.YticgipmaflhplaaInts
import Derived.Test.YticgipmaflhplaaDeep
import Derived.Test.YticgipmaflhplaaDeepRow
import Derived.Test.YticgipmaflhplaaDeepC
import Derived.Test.YticgipmaflhplaaWorldSpec
import Derived.Test.YticgipmaflhplaaCloneImpl
import Derived.Test.YticgipmaflhplaaTableImpl
import Derived.WalkKit
import Derived.WalkSpells
import Derived.Below
import Derived.Handy
import Derived.Deep.DeepFit
namespace Go.Proofs.Yticgipmaflhplaa.walks
open Go.RowKit Go.Proofs.Yticgipmaflhplaa.math Go.Proofs.Yticgipmaflhplaa.ints Go.Proofs.Yticgipmaflhplaa.deep
set_option linter.unusedVariables false
set_option maxRecDepth 100000

theorem owns_cells {w : World} {g len cap B : Nat} {es : Nat → Dv} (h : CellsU w g (len * 1) (fun i => .int .i64 ((es i).int))) (hf : ∀ i, i < len * 1 → ∃ x, es i = .n x) (hB : B ≤ g) : Owns w false B (.l len 1 es) (.slice (some ⟨g, 0, none⟩) len cap) (fun x => x = g) := by
  refine ⟨_, _, rfl, (fun q => by cases q), Or.inr ⟨g, 0, rfl, hB, h.1, rfl, fun _ _ => False, fun i hi => ⟨⟨_, by simpa using (h.2 i hi).1, by simpa using (h.2 i hi).2, ?_⟩, fun q => q, fun x q => q.elim⟩, fun i j _ _ _ x q => q.elim⟩⟩
  obtain ⟨x, hx⟩ := hf i hi
  rw [hx]; rfl
theorem rowed_owns {w : World} {B len sz cap g : Nat} {cs : Nat → Dv} {U : Nat → Value} {F : Nat → Prop} (h : Rowed w false B cs U (len * sz) F) (hr : CellsU w g (len * sz) U) (hB : B ≤ g) (hg : ¬ F g) : Owns w false B (.l len sz cs) (.slice (some ⟨g, 0, none⟩) len cap) (fun x => F x ∨ x = g) := by
  obtain ⟨G, g1, g2⟩ := h
  exact ⟨_, _, rfl, (fun q => by cases q), Or.inr ⟨g, 0, rfl, hB, hr.1, Or.inr rfl, G, fun i hi => ⟨⟨U i, by simpa using (hr.2 i hi).1, by simpa using (hr.2 i hi).2, (g1 i hi).1⟩, fun q => hg ((g1 i hi).2 g q), fun x hx => Or.inl ((g1 i hi).2 x hx)⟩, g2⟩⟩
/-- The copy, its first k classes with lists of their own. -/
structure CopyAt (W w : World) (g n : Nat) (cs : Nat → Dv) (k : Nat) (U : Nat → Value) (F : Nat → Prop) : Prop where
  cells : CellsU w g (n * 2) U
  ups : ∀ j, j < n → U (j * 2) = .int .i64 (upC cs j)
  rows : Rowed w false W.heap.size cs U (k * 2) F
  foot : ∀ x, F x → W.heap.size ≤ x ∧ x < w.heap.size ∧ x ≠ g
  bel : Below W.heap.size W w
theorem CopyAt.step {W w w' : World} {g n k g2 cap2 : Nat} {cs : Nat → Dv} {U : Nat → Value} {F : Nat → Prop} (h : CopyAt W w g n cs k U F) (hg : W.heap.size ≤ g) (hk : k < n) (hf : Fits shClassS (.l n 2 cs)) (hl : mlC cs k = 5) (hb : Below w.heap.size w w') (hg2 : w.heap.size ≤ g2) (hc : CellsU w' g2 5 (fun i => .int .i64 (mtC cs k i))) :
    CopyAt W (w'.setCell ⟨g, k * 2 + 1, none⟩ (.slice (some ⟨g2, 0, none⟩) 5 cap2)) g n cs (k + 1) (fun i => if i = k * 2 + 1 then .slice (some ⟨g2, 0, none⟩) 5 cap2 else U i) (fun x => F x ∨ x = g2) := by
  have hgl := h.cells.1
  have hws := hb.size
  have hne : g2 ≠ g := by omega
  have b1 : Below W.heap.size w w' := hb.mono h.bel.size
  have blk : ∀ x, x < w.heap.size → x ≠ g → (w'.setCell ⟨g, k * 2 + 1, none⟩ (.slice (some ⟨g2, 0, none⟩) 5 cap2)).heap[x]? = w.heap[x]? := fun x hx hn => (Below.heap_setCell _ _ _ _ hn).trans (hb.block x hx)
  refine ⟨(h.cells.kept (hb.block g hgl) hws).set _ _, fun j hj => ?_, ?_, fun x hx => ?_, ?_⟩
  · show (if j * 2 = k * 2 + 1 then _ else U (j * 2)) = _
    rw [if_neg (by omega)]; exact h.ups j hj
  · obtain ⟨x, hx⟩ := (hf.cell hk (c := 0) (by decide)).int
    obtain ⟨m, es, he, hes⟩ := (hf.cell hk (c := 1) (by decide)).list
    have hx : cs (k * 2) = .n x := hx
    have he : cs (k * 2 + 1) = .l m 1 es := he
    have hm : m = 5 := by unfold mlC at hl; rw [he] at hl; exact hl
    subst hm
    have hu : x = upC cs k := by unfold upC; rw [hx]; rfl
    have r1 : Rowed (w'.setCell ⟨g, k * 2 + 1, none⟩ (.slice (some ⟨g2, 0, none⟩) 5 cap2)) false W.heap.size cs (fun i => if i = k * 2 + 1 then .slice (some ⟨g2, 0, none⟩) 5 cap2 else U i) (k * 2) F :=
      (h.rows.agree (by simpa [World.setCell] using hws) (fun b hbF hbl => blk b hbl (h.foot b hbF).2.2)).congr (fun i hi => by show U i = if i = k * 2 + 1 then _ else U i; rw [if_neg (by omega)])
    have r2 := r1.flat (by
      rw [hx]
      show (if k * 2 = k * 2 + 1 then _ else U (k * 2)) = Value.int .i64 x
      rw [if_neg (by omega), h.ups k hk, hu])
    rw [show (k + 1) * 2 = k * 2 + 1 + 1 by omega]
    refine r2.snoc (H := fun x => x = g2) ?_ (fun x hx hy => by have := h.foot x hx; have hy : x = g2 := hy; omega) (fun x hx => Or.inl hx) (fun x hx => Or.inr hx)
    rw [he]
    show Owns _ _ _ _ (if k * 2 + 1 = k * 2 + 1 then _ else _) _
    rw [if_pos rfl]
    refine owns_cells ?_ (fun i hi => (hes i hi).int) (Nat.le_trans h.bel.size hg2)
    have q : CellsU (w'.setCell ⟨g, k * 2 + 1, none⟩ (.slice (some ⟨g2, 0, none⟩) 5 cap2)) g2 5 (fun i => .int .i64 (mtC cs k i)) := hc.kept (Below.heap_setCell _ _ _ _ hne) (by simp [World.setCell])
    refine q.congr (fun i hi => ?_)
    unfold mtC mtsC mlC
    rw [he]
    show Value.int .i64 ((intsOf (fun i => es i) 5).getD i 0) = _
    rw [intsOf_at _ hi]
  · rcases hx with hx | hx
    · have := h.foot x hx
      exact ⟨this.1, by simp [World.setCell]; omega, this.2.2⟩
    · have := hc.1
      have hx : x = g2 := hx
      exact ⟨by have := h.bel.size; omega, by simp [World.setCell]; omega, by omega⟩
  · exact (h.bel.trans b1).setCell hg _
/-- What copiedClasses answers. -/
def CopyAns (W : World) (n : Nat) (cs : Nat → Dv) (e : Ending) (W' : World) : Prop := ∃ g d F, e = .returned (.slice (some ⟨g, 0, none⟩) n d) ∧ Owns W' false W.heap.size (.l n 2 cs) (.slice (some ⟨g, 0, none⟩) n d) F ∧ (∀ x, F x → W.heap.size ≤ x ∧ x < W'.heap.size) ∧ Below W.heap.size W W'
set_option maxHeartbeats 8000000 in
theorem impl_copied (a : Option Addr) (n cap : Nat) (cs : Nat → Dv) (st : Int) (c : Bool) (W : World) (hf : Hid (Fits shClassS (.l n 2 cs))) (hw : Hid (worldB cs n st = true)) (h : Hid (Holds W c (.l n 2 cs) (.slice a n cap))) :
    Calls Try.prog 47 #[.slice a n cap] W fun e W' => CopyAns W n cs e W' := by
  obtain ⟨⟨hn0, hn1⟩, _, hok⟩ := world_out hw.out
  have HOK : Hid (∀ k, k < n → ClassOk cs k) := hok
  clear hok
  obtain ⟨b, o, ha, hb, hcs⟩ := h.out.cells (Below.refl _ _) (show 0 < n * 2 by omega)
  have HCS : Hid (∀ i, i < n * 2 → ∃ u, W.cell? ⟨b, o + i, none⟩ = some u ∧ Holds W c (cs i) u) := hcs
  clear hcs
  subst ha
  obtain ⟨U, HU⟩ : ∃ U : Nat → Value, Hid (∀ i, i < n * 2 → W.cell? ⟨b, o + i, none⟩ = some (U i) ∧ (U i).oneCell' = true) := by
    refine ⟨fun i => ((W.cell? ⟨b, o + i, none⟩).getD (.bool false)), fun i hi => ?_⟩
    obtain ⟨u, h1, h2⟩ := HCS.out i hi
    refine ⟨by show _ = some ((W.cell? ⟨b, o + i, none⟩).getD (.bool false)); rw [h1]; rfl, ?_⟩
    show ((W.cell? ⟨b, o + i, none⟩).getD (.bool false)).oneCell' = true
    rw [h1]
    show u.oneCell' = true
    cases hd : cs i with
    | n x => rw [hd] at h2; rw [show u = .int .i64 x from h2]; rfl
    | t x => rw [hd] at h2; rw [show u = .bool x from h2]; rfl
    | l p q r => rw [hd] at h2; obtain ⟨_, _, e, _⟩ := h2; rw [e]; rfl
  have HUP : Hid (∀ j, j < n → U (j * 2) = .int .i64 (upC cs j)) := fun j hj => by
    obtain ⟨b1, o1, _, _, e1, _, c1, _, _⟩ := class_at h.out hf.out (Below.refl _ _) hj
    simp only [Option.some.injEq, Addr.mk.injEq, and_true] at e1
    obtain ⟨rfl, rfl⟩ := e1
    have q := (HU.out (j * 2) (by omega)).1
    rw [c1] at q
    exact (Option.some.inj q).symm
  have hc1 := clone_classes b o n cap U W (by omega) (n * 2) rfl hb (fun j hj => (HU.out j hj).1) (fun j hj => (HU.out j hj).2)
  go_enter Try.func47, Try.ntmps47
  go_wp2_with (go_at_call 62; refine hc1.mono ?_; rintro e w1 ⟨g, d, rfl, hg, hC, hB⟩)
  have HC0 : Hid (CopyAt W w1 g n cs 0 U (fun _ => False)) := ⟨hC, HUP.out, Rowed.nil _ _ _ _ _ _, fun x q => q.elim, hB⟩
  clear hC hB hc1 HCS
  go_loopw [10] (fun vi wr => ∃ k : Nat, k ≤ n ∧ vi = .int .i64 k ∧ Hid (∃ U F, CopyAt W wr g n cs k U F)) (fun vi _ => n - (intOf vi).toNat)
  case atStart => exact ⟨0, Nat.zero_le _, rfl, ⟨U, _, HC0.out⟩⟩
  case round =>
    obtain ⟨k, hk, rfl, HC⟩ := hrel
    obtain ⟨U', F, hC⟩ := HC.out
    have HC1 : Hid (CopyAt W wr g n cs k U' F) := hC
    clear hC HC
    by_cases hlt : k < n
    rotate_left
    · have e : k = n := by omega
      subst e
      have HA : Hid (CopyAns W k cs (.returned (.slice (some ⟨g, 0, none⟩) k d)) wr) := ⟨g, d, _, rfl, rowed_owns HC1.out.rows HC1.out.cells hg (fun q => (HC1.out.foot g q).2.2 rfl), fun x q => by
        rcases q with q | q
        · have := HC1.out.foot x q; exact ⟨this.1, this.2.1⟩
        · have q : x = g := q
          have := HC1.out.cells.1
          omega, HC1.out.bel⟩
      go_wp2
      go_ret
      exact HA.out
    have hltI : (k : Int) < (n : Int) := by omega
    obtain ⟨b1, o1, ma, mc, ha, hbw, c0, c1, hI⟩ := class_at h.out hf.out HC1.out.bel hlt
    simp only [Option.some.injEq, Addr.mk.injEq, and_true] at ha
    obtain ⟨rfl, rfl⟩ := ha
    obtain ⟨_, hl5, _⟩ := HOK.out k hlt
    have HL5 : Hid (mlC cs k = 5) := hl5
    have HML : Hid ((mtsC cs k).length = 5) := by show _ = _; rw [mts_len]; exact hl5
    rw [hl5] at c1
    obtain ⟨b', o', ha', _⟩ := hI.at (Below.refl _ _) (k := 0) (by rw [HML.out]; decide)
    subst ha'
    have hbl : b < wr.heap.size := by have := HC1.out.bel.size; omega
    have hgl : g < wr.heap.size := HC1.out.cells.1
    obtain ⟨u, HU1⟩ : ∃ u, Hid (upC cs k = u) := ⟨_, rfl⟩
    rw [HU1.out] at c0
    obtain ⟨Y, hY⟩ : ∃ Y, Hid (wr.alloc (.cells #[.int .i64 u, .slice (some ⟨b', o', none⟩) 5 mc] 59) = Y) := ⟨_, rfl⟩
    have HYB : Hid (Below wr.heap.size wr Y) := by show Below _ _ _; rw [← hY.out]; repeat (first | exact Below.refl _ _ | refine Below.drew ?_ | refine Below.setCell ?_ (by simp; try omega) _ | refine Below.alloc ?_ (by simp; try omega) _)
    have y1 : Y.cell? ⟨wr.heap.size, 1, none⟩ = some (.slice (some ⟨b', o', none⟩) 5 mc) := by rw [← hY.out]; go_simp
    have HCM : Hid (∀ j, j < 5 → Y.cell? ⟨b', o' + j, none⟩ = some (.int .i64 (mtC cs k j))) := fun j hj => by
      obtain ⟨b2, o2, e2, q⟩ := hI.at HYB.out (k := j) (by rw [HML.out]; exact hj)
      simp only [Option.some.injEq, Addr.mk.injEq, and_true] at e2
      obtain ⟨rfl, rfl⟩ := e2
      exact q
    have hbY : b' < Y.heap.size := by
      have q := HCM.out 0 (by decide)
      exact World.block_lt_of_cell? Y _ q
    have hc2 := clone_ints b' o' 5 mc (fun i => .int .i64 (mtC cs k i)) Y (by decide) 5 rfl hbY HCM.out (fun j _ => rfl)
    have HST : Hid (∀ g2 cap2 w', Y.heap.size ≤ g2 → CellsU w' g2 5 (fun i => .int .i64 (mtC cs k i)) → Below Y.heap.size Y w' → (∃ v, w'.cell? ⟨g, k * 2 + 1, none⟩ = some v) ∧ w'.frozen? ⟨g, k * 2 + 1, none⟩ = false ∧ ∃ U F, CopyAt W (w'.setCell ⟨g, k * 2 + 1, none⟩ (.slice (some ⟨g2, 0, none⟩) 5 cap2)) g n cs (k + 1) U F) := fun g2 cap2 w' q1 q2 q3 => by
      have bb : Below wr.heap.size wr w' := HYB.out.trans (q3.mono HYB.out.size)
      have q := HC1.out.cells.2 (k * 2 + 1) (by omega)
      exact ⟨⟨_, (bb.cell (p := ⟨g, k * 2 + 1, none⟩) hgl).trans q.1⟩, (World.frozen?_of_block (bb.block g hgl)).trans q.2, _, _, HC1.out.step hg hlt hf.out HL5.out bb (Nat.le_trans HYB.out.size q1) q2⟩
    clear hI HCM HU1 HML HL5
    go_wp2_with (go_at_call 63; rw [hY.out]; refine hc2.mono ?_; rintro e w2 ⟨g2, cap2, rfl, hg2, hC2, hB2⟩; obtain ⟨⟨vv, x1⟩, x2, hCN⟩ := HST.out g2 cap2 w2 hg2 hC2 hB2; have HCN := (show Hid _ from hCN); clear hCN)
    go_roundw
    case rel => exact ⟨k + 1, by omega, by go_num, HCN⟩
    case measure => simp [intOf]; omega
end Go.Proofs.Yticgipmaflhplaa.walks
