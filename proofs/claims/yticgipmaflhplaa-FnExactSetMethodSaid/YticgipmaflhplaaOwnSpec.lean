/-
  What the specification's l12Own answers: a world of its own.
-/
import Derived.Test.YticgipmaflhplaaProg
import Derived.Test.YticgipmaflhplaaMagMath
import Derived.Test.YticgipmaflhplaaWorldMath
import Derived.Test.YticgipmaflhplaaInts
import Derived.Test.YticgipmaflhplaaDeep
import Derived.Test.YticgipmaflhplaaDeepRow
import Derived.Test.YticgipmaflhplaaDeepC
import Derived.Test.YticgipmaflhplaaDeepGrow
import Derived.Test.YticgipmaflhplaaOwnMath
import Derived.Test.YticgipmaflhplaaWorldSpec
import Derived.WalkKit
import Derived.WalkSpells
import Derived.Below
import Derived.Handy
import Derived.OwnWalk
import Derived.Deep.DeepFit
import Derived.Deep.RegionHeld3
import Derived.Deep.DeepCutAuto
namespace Go.Proofs.Yticgipmaflhplaa.walks
open Go.RowKit Go.Proofs.Yticgipmaflhplaa.math Go.Proofs.Yticgipmaflhplaa.ints Go.Proofs.Yticgipmaflhplaa.deep
set_option linter.unusedVariables false
set_option maxRecDepth 100000
set_option linter.unusedSimpArgs false

/-- The world that is being made: in the box at W.heap.size + 2. -/
structure OwnAt (W w : World) (st : Int) (cs : Nat → Dv) (k : Nat) (v : Value) (U : Nat → Value) (F : Nat → Prop) : Prop where
  box : w.rowIs (W.heap.size + 2) 29 2 (rowF [v, .int .i64 st])
  zero : w.rowIs (W.heap.size + 1) 29 2 (rowF [.slice none 0 0, .int .i64 0])
  rows : Grown w (W.heap.size + 3) 59 2 v k cs U F
  bel : Below W.heap.size W w
  big : W.heap.size + 3 ≤ w.heap.size
theorem OwnAt.kept {W w w' : World} {st : Int} {cs : Nat → Dv} {k : Nat} {v : Value} {U : Nat → Value} {F : Nat → Prop} (h : OwnAt W w st cs k v U F) (hb : Below w.heap.size w w') : OwnAt W w' st cs k v U F :=
  ⟨h.box.of_block (hb.block _ h.box.lt), h.zero.of_block (hb.block _ h.zero.lt), h.rows.kept hb, h.bel.trans (hb.mono h.bel.size), Nat.le_trans h.big hb.size⟩
theorem OwnAt.step {W Y w1 w3 : World} {st : Int} {cs : Nat → Dv} {n k : Nat} {v v1 v' : Value} {U : Nat → Value} {F : Nat → Prop} {e1 : Obj} (h : OwnAt W Y st cs k v U F) (hf : Fits shClassS (.l n 2 cs)) (hk : k < n) (hl : mlC cs k = 5)
    (h1 : w1.ownsRow Y.heap.size 3 1 v1 5 ((mtsC cs k).map (Value.int .i64))) (g1 : (Y.drew.alloc e1).grownBy w1 (some Y.heap.size))
    (h2 : w3.ownsRow (W.heap.size + 3) 59 2 v' (k + 1) ((List.range (k * 2)).map U ++ [.int .i64 (upC cs k), v1])) (g2 : (w1.alloc (.cells #[.int .i64 (upC cs k), v1] 59)).grownBy w3 v.ownBlock) (hv : v'.ownBlock = v.ownBlock ∨ v'.ownBlock = some (w1.alloc (.cells #[.int .i64 (upC cs k), v1] 59)).heap.size) :
    ∃ U' F', OwnAt W (w3.setCell ⟨W.heap.size + 2, 0, none⟩ v') st cs (k + 1) v' U' F' := by
  have sY := h.big
  have s1 : Y.heap.size + 1 ≤ w1.heap.size := by have := g1.size; simp at this; exact this
  have b1 : Below Y.heap.size Y w1 := (((Below.refl Y.heap.size Y).drew).alloc (Nat.le_refl _) e1).trans ⟨g1.os, g1.tape, g1.output, g1.size, fun x hx => g1.block x (by simp; omega) (by simp; omega)⟩
  have b2 : Below Y.heap.size Y (w1.alloc (.cells #[.int .i64 (upC cs k), v1] 59)) := b1.alloc (by omega) _
  have s2 : (w1.alloc (.cells #[.int .i64 (upC cs k), v1] 59)).heap.size = w1.heap.size + 1 := by simp
  have G2 := h.rows.kept b2
  have K1 := row_keep h1 ((Below.refl w1.heap.size w1).alloc (Nat.le_refl _) (.cells #[.int .i64 (upC cs k), v1] 59))
  obtain ⟨x, hx⟩ := (hf.cell hk (c := 0) (by decide)).int
  obtain ⟨m, es, he, hes⟩ := (hf.cell hk (c := 1) (by decide)).list
  have hx : cs (k * 2) = .n x := hx
  have he : cs (k * 2 + 1) = .l m 1 es := he
  have hm : m = 5 := by unfold mlC at hl; rw [he] at hl; exact hl
  subst hm
  have hu : upC cs k = x := by unfold upC; rw [hx]; rfl
  have lts : ∀ b, v1.ownBlock = some b → Y.heap.size ≤ b ∧ b < w1.heap.size := fun b e => World.ownsRow.lt h1 b e
  obtain ⟨a1, c1, e1', o1⟩ := ints_row K1 (es := es) (by rw [mts_len]; exact hl) (fun i hi => by
    obtain ⟨y, hy⟩ := (hes i (by omega)).int
    rw [hy]
    have q : (mtsC cs k).getD i 0 = y := by
      unfold mtsC mlC
      rw [he]
      show (intsOf (fun i => es i) 5).getD i 0 = y
      rw [intsOf_at _ hi, hy]; rfl
    rw [q])
  have hown : ∀ g, v.ownBlock = some g → g < Y.heap.size := fun g e => (World.ownsRow.lt h.rows.row g e).2
  have hn : Rowed (w1.alloc (.cells #[.int .i64 (upC cs k), v1] 59)) false (W.heap.size + 3) (fun i => cs (k * 2 + i)) (fun i => [Value.int .i64 (upC cs k), v1].getD i (.bool false)) 2 (fun x => v1.ownBlock = some x) := by
    refine (Rowed.nil _ _ _ _ _ (fun _ => False)).flat ?_ |>.snoc (H := fun x => v1.ownBlock = some x) ?_ (fun x q => q.elim) (fun x q => q.elim) (fun x q => q)
    · show Owns _ _ _ (cs (k * 2)) (Value.int .i64 (upC cs k)) _
      rw [hx, hu]; rfl
    · show Owns _ _ _ (cs (k * 2 + 1)) v1 _
      rw [he]
      have q := o1.low (show W.heap.size + 3 ≤ Y.heap.size from sY)
      rw [← e1'] at q
      exact q
  have G3 := G2.snoc (H := fun x => v1.ownBlock = some x) (news := [.int .i64 (upC cs k), v1]) rfl h2 g2 hv hn (fun x q r => by have := (h.rows.low x q).2; have := lts x r; omega) (fun g q r => by have := hown g q; have := lts g r; omega) (fun x r => by have := lts x r; omega)
  have s3 := g2.size
  have gb2 : ∀ x, x < W.heap.size + 3 → w3.heap[x]? = (w1.alloc (.cells #[.int .i64 (upC cs k), v1] 59)).heap[x]? := fun x hx => g2.block x (by rw [s2]; omega) (fun e => by have := (World.ownsRow.lt h.rows.row x e.symm).1; omega)
  have gb : ∀ x, x < W.heap.size + 3 → w3.heap[x]? = Y.heap[x]? := fun x hx => (gb2 x hx).trans (b2.block x (by omega))
  refine ⟨_, _, ?_, (h.zero.of_block (gb _ (by omega))).setOther (by show W.heap.size + 1 ≠ W.heap.size + 2; omega) _, G3.set_low (by omega) _, ?_, ?_⟩
  · refine ((h.box.of_block (gb _ (by omega))).set 0 v').congr (fun i hi => ?_)
    match i, hi with
    | 0, _ => rfl
    | 1, _ => rfl
    | i + 2, h => exact absurd h (by omega)
  · refine Below.setCell ?_ (by show W.heap.size ≤ W.heap.size + 2; omega) _
    exact h.bel.trans ((b2.mono h.bel.size).trans ⟨g2.os, g2.tape, g2.output, g2.size, fun x hx => gb2 x (by omega)⟩)
  · simp [World.setCell]; omega
theorem row_some {w : World} {B : Nat} {T : TypeId} {sz n : Nat} {v : Value} {xs : List Value} (h : w.ownsRow B T sz v n xs) (hn : 0 < n) : ∃ g c, v = .slice (some ⟨g, 0, none⟩) n c := by
  rcases h.2 with ⟨_, e⟩ | ⟨g, cap, _, e, _⟩
  · omega
  · exact ⟨g, cap, e⟩
theorem new_two (w : World) (x y : Value) (t : TypeId) : ∀ j u, [x, y][j]? = some u → (w.alloc (.cells #[x, y] t)).cell? ((⟨w.heap.size, 0, none⟩ : Addr).add j) = some u := by
  intro j u hj
  have q := row_of w #[x, y] t
  match j, hj with
  | 0, hj => obtain rfl := Option.some.inj hj; exact q.cell (i := 0) (by show 0 < 2; decide)
  | 1, hj => obtain rfl := Option.some.inj hj; exact q.cell (i := 1) (by show 1 < 2; decide)
  | j + 2, hj => simp at hj
theorem one_two (x y : Value) (hx : x.oneCell' = true) (hy : y.oneCell' = true) : ∀ u ∈ [x, y], u.oneCell' = true := by
  intro u hu
  simp at hu
  rcases hu with rfl | rfl
  · exact hx
  · exact hy
theorem qs_far {Y w2 w3 : World} {A B C : Nat} {v x y z : Value} (hs : C ≤ Y.heap.size ∧ B < Y.heap.size ∧ ∀ g, v.ownBlock = some g → g ≠ A ∧ g ≠ B ∧ g < Y.heap.size) (hb : Below Y.heap.size Y w2) (hg : w2.grownBy w3 v.ownBlock) {T : TypeId} {k : Nat} {xs : List Value} (hr : Y.ownsRow C T 2 v k xs) (q : w2.cell? ⟨A, 0, none⟩ = some x ∧ w2.cell? ⟨B, 0, none⟩ = some y ∧ w2.cell? ⟨B, 1, none⟩ = some z) : w3.cell? ⟨A, 0, none⟩ = some x ∧ w3.cell? ⟨B, 0, none⟩ = some y ∧ w3.cell? ⟨B, 1, none⟩ = some z := by
  have eA : w3.heap[A]? = w2.heap[A]? := hg.block A (World.block_lt_of_cell? w2 _ q.1) (fun e => (hs.2.2 A e.symm).1 rfl)
  have eB : w3.heap[B]? = w2.heap[B]? := hg.block B (World.block_lt_of_cell? w2 _ q.2.1) (fun e => (hs.2.2 B e.symm).2.1 rfl)
  exact ⟨(World.cell?_of_block eA).trans q.1, (World.cell?_of_block eB).trans q.2.1, (World.cell?_of_block eB).trans q.2.2⟩
theorem fz_far {Y w2 w3 : World} {A B C : Nat} {v x : Value} (hs : C ≤ Y.heap.size ∧ B < Y.heap.size ∧ ∀ g, v.ownBlock = some g → g ≠ A ∧ g ≠ B ∧ g < Y.heap.size) (hb : Below Y.heap.size Y w2) (hg : w2.grownBy w3 v.ownBlock) (hz : w2.frozen? ⟨A, 0, none⟩ = false) (q : w2.cell? ⟨A, 0, none⟩ = some x) : w3.frozen? ⟨A, 0, none⟩ = false := by
  have eA : w3.heap[A]? = w2.heap[A]? := hg.block A (World.block_lt_of_cell? w2 _ q) (fun e => (hs.2.2 A e.symm).1 rfl)
  exact (World.frozen?_of_block eA).trans hz
theorem far_set (W w3 : World) {A : Nat} {u y z : Value} {P : Prop} (h : A ≠ W.heap.size + 2) (q : P ∧ w3.cell? ⟨A, 0, none⟩ = some y ∧ w3.cell? ⟨A, 1, none⟩ = some z) : (w3.setCell ⟨W.heap.size + 2, 0, none⟩ u).cell? ⟨A, 0, none⟩ = some y ∧ (w3.setCell ⟨W.heap.size + 2, 0, none⟩ u).cell? ⟨A, 1, none⟩ = some z := by
  refine ⟨?_, ?_⟩
  · rw [World.cell?_setCell_other _ _ _ _ (by simp; try omega)]; exact q.2.1
  · rw [World.cell?_setCell_other _ _ _ _ (by simp; try omega)]; exact q.2.2
/-- What l12Own answers. -/
def OwnAns (W : World) (n : Nat) (cs : Nat → Dv) (st : Int) (e : Ending) (W' : World) : Prop := ∃ g d F, e = .returned (.agg #[.slice (some ⟨g, 0, none⟩) n d, .int .i64 st]) ∧ Owns W' false W.heap.size (.l n 2 cs) (.slice (some ⟨g, 0, none⟩) n d) F ∧ (∀ x, F x → W.heap.size ≤ x ∧ x < W'.heap.size) ∧ Below W.heap.size W W'
set_option maxHeartbeats 8000000 in
theorem spec_own (a : Option Addr) (n cap : Nat) (cs : Nat → Dv) (st : Int) (c : Bool) (W : World) (hf : Hid (Fits shClassS (.l n 2 cs))) (hw : Hid (worldB cs n st = true)) (h : Hid (Holds W c (.l n 2 cs) (.slice a n cap))) :
    Calls Try.prog 44 #[.agg #[.slice a n cap, .int .i64 st]] W fun e W' => OwnAns W n cs st e W' := by
  obtain ⟨⟨hn0, hn1⟩, _, hok⟩ := world_out hw.out
  have HOK : Hid (∀ k, k < n → ClassOk cs k) := hok
  clear hok
  obtain ⟨X, hX⟩ : ∃ X, Hid (((W.alloc (.cells #[.slice a n cap, .int .i64 st] 29)).alloc (.cells #[.slice none 0 0, .int .i64 0] 29)).alloc (.cells #[.slice none 0 0, .int .i64 st] 29) = X) := ⟨_, rfl⟩
  have HX : Hid (Below W.heap.size W X) := by show Below _ _ _; rw [← hX.out]; go_grown
  have HO0 : Hid (OwnAt W X st cs 0 (.slice none 0 0) (fun _ => .bool false) (fun _ => False)) := by
    have q := row_of (W.alloc (.cells #[.slice a n cap, .int .i64 st] 29)) #[.slice none 0 0, .int .i64 0] 29
    have q2 := row_of ((W.alloc (.cells #[.slice a n cap, .int .i64 st] 29)).alloc (.cells #[.slice none 0 0, .int .i64 0] 29)) #[.slice none 0 0, .int .i64 st] 29
    rw [show (W.alloc (.cells #[.slice a n cap, .int .i64 st] 29)).heap.size = W.heap.size + 1 by simp] at q
    rw [show ((W.alloc (.cells #[.slice a n cap, .int .i64 st] 29)).alloc (.cells #[.slice none 0 0, .int .i64 0] 29)).heap.size = W.heap.size + 2 by simp] at q2
    refine ⟨?_, ?_, Grown.nil _ _ _ _ _ _, HX.out, ?_⟩
    · rw [← hX.out]; exact q2
    · rw [← hX.out]; exact q.alloc _
    · rw [← hX.out]; simp
  go_enter Try.func44, Try.ntmps44
  go_wp2
  rw [hX.out]
  clear hX
  go_loopw [12] (fun vi wr => ∃ k : Nat, k ≤ n ∧ vi = .int .i64 k ∧ Hid (∃ v U F, OwnAt W wr st cs k v U F)) (fun vi _ => n - (intOf vi).toNat)
  case atStart => exact ⟨0, Nat.zero_le _, rfl, ⟨_, _, _, HO0.out⟩⟩
  case round =>
    obtain ⟨k, hk, rfl, HC⟩ := hrel
    obtain ⟨v, U, F, hC⟩ := HC.out
    have HA : Hid (OwnAt W wr st cs k v U F) := hC
    clear hC HC
    by_cases hlt : k < n
    rotate_left
    · have e : k = n := by omega
      subst e
      obtain ⟨g, d, rfl⟩ := row_some HA.out.rows.row (by omega)
      have x0 : wr.cell? ⟨W.heap.size + 2, 0, none⟩ = some (.slice (some ⟨g, 0, none⟩) k d) := HA.out.box.cell (i := 0) (by decide)
      have x1 : wr.cell? ⟨W.heap.size + 2, 1, none⟩ = some (.int .i64 st) := HA.out.box.cell (i := 1) (by decide)
      have z0 : wr.cell? ⟨W.heap.size + 1, 0, none⟩ = some (.slice none 0 0) := HA.out.zero.cell (i := 0) (by decide)
      have z1 : wr.cell? ⟨W.heap.size + 1, 1, none⟩ = some (.int .i64 0) := HA.out.zero.cell (i := 1) (by decide)
      have f0 : wr.frozen? ⟨W.heap.size + 1, 0, none⟩ = false := HA.out.zero.frozen 0
      have f1 : wr.frozen? ⟨W.heap.size + 1, 1, none⟩ = false := HA.out.zero.frozen 1
      have lZ := HA.out.zero.lt
      have HRS : Hid (∀ u0 u1, OwnAns W k cs st (.returned (.agg #[.slice (some ⟨g, 0, none⟩) k d, .int .i64 st])) ((wr.setCell ⟨W.heap.size + 1, 0, none⟩ u0).setCell ⟨W.heap.size + 1, 1, none⟩ u1)) := fun u0 u1 => by
        have G := (HA.out.rows.set_low (b := W.heap.size + 1) (i := 0) (by omega) u0).set_low (b := W.heap.size + 1) (i := 1) (by omega) u1
        obtain ⟨a', cap', e', o', lo⟩ := G.owns
        simp only [Value.slice.injEq, true_and] at e'
        obtain ⟨rfl, rfl⟩ := e'
        refine ⟨g, d, _, rfl, o'.low (by omega), fun x q => ?_, (HA.out.bel.setCell (by show W.heap.size ≤ W.heap.size + 1; omega) _).setCell (by show W.heap.size ≤ W.heap.size + 1; omega) _⟩
        have := lo x q
        omega
      go_wp2
      exact bodyPost_ret (v := .agg #[.slice (some ⟨g, 0, none⟩) k d, .int .i64 st]) (by simp only [results, Try.results44]; go_simp) rfl (HRS.out _ _)
    have hltI : (k : Int) < (n : Int) := by omega
    obtain ⟨b, o, ma, mc, ha, hbw, c0, c1, hI⟩ := class_at h.out hf.out HA.out.bel hlt
    obtain ⟨_, hl5, _⟩ := HOK.out k hlt
    have HL5 : Hid (mlC cs k = 5) := hl5
    have HML : Hid ((mtsC cs k).length = 5) := by show _ = _; rw [mts_len]; exact hl5
    rw [hl5] at c1
    obtain ⟨b', o', ha', _⟩ := hI.at (Below.refl _ _) (k := 0) (by rw [HML.out]; decide)
    subst ha ha'
    have hbl : b < wr.heap.size := by have := HA.out.bel.size; omega
    obtain ⟨u, HU1⟩ : ∃ u, Hid (upC cs k = u) := ⟨_, rfl⟩
    rw [HU1.out] at c0
    obtain ⟨Y, hY⟩ : ∃ Y, Hid (wr.alloc (.cells #[.int .i64 u, .slice (some ⟨b', o', none⟩) 5 mc] 59) = Y) := ⟨_, rfl⟩
    have HYB : Hid (Below wr.heap.size wr Y) := by show Below _ _ _; rw [← hY.out]; repeat (first | exact Below.refl _ _ | refine Below.drew ?_ | refine Below.setCell ?_ (by simp; try omega) _ | refine Below.alloc ?_ (by simp; try omega) _)
    have y0 : Y.cell? ⟨wr.heap.size, 0, none⟩ = some (.int .i64 u) := by rw [← hY.out]; go_simp
    have y1 : Y.cell? ⟨wr.heap.size, 1, none⟩ = some (.slice (some ⟨b', o', none⟩) 5 mc) := by rw [← hY.out]; go_simp
    have AY : Hid (OwnAt W Y st cs k v U F) := HA.out.kept HYB.out
    have v0 : Y.cell? ⟨W.heap.size + 2, 0, none⟩ = some v := AY.out.box.cell (i := 0) (by decide)
    go_upto_region 5 with fail
    rw [hY.out]
    obtain ⟨i3, hi3, hz30, hz31, hz32⟩ := parts_of (P := Try.prog) (e := 3) (z := .int .i64 0) (a := 1) (b := 8) (by kernel_rfl)
    obtain ⟨i5, hi5, hz50, hz51, hz52⟩ := parts_of (P := Try.prog) (e := 59) (z := .agg #[.int .i64 0, .slice none 0 0]) (a := 2) (b := 32) (by kernel_rfl)
    obtain ⟨D, HD⟩ : ∃ D, Hid ((mtsC cs k).map (Value.int .i64) = D) := ⟨_, rfl⟩
    have hDl : D.length = 5 * 1 := by rw [← HD.out]; simp; exact HML.out
    have HN1 : Hid (∀ w, Below Y.heap.size Y w → ∀ j u, D[j]? = some u → w.cell? ((⟨b', o', none⟩ : Addr).add j) = some u) := by
      intro w q j u hj
      rw [← HD.out, List.getElem?_map] at hj
      cases hw' : (mtsC cs k)[j]? with
      | none => rw [hw'] at hj; simp at hj
      | some x =>
        rw [hw'] at hj
        simp at hj
        subst hj
        have hlt' : j < (mtsC cs k).length := (List.getElem?_eq_some_iff.1 hw').1
        obtain ⟨b2, o2, e2, q2⟩ := hI.at (HYB.out.trans (q.mono HYB.out.size)) (k := j) hlt'
        simp only [Option.some.injEq, Addr.mk.injEq, and_true] at e2
        obtain ⟨rfl, rfl⟩ := e2
        rw [show (⟨b', o', none⟩ : Addr).add j = ⟨b', o' + j, none⟩ by unfold Addr.add; split <;> simp_all, q2]
        have := List.getElem?_eq_some_iff.1 hw'
        simp [List.getD, hw']
    have h1D : ∀ u ∈ D, u.oneCell' = true := by
      intro u hu
      rw [← HD.out] at hu
      simp at hu
      obtain ⟨x, _, rfl⟩ := hu
      rfl
    obtain ⟨xs, HXS⟩ : ∃ xs, Hid ((List.range (k * 2)).map U = xs) := ⟨_, rfl⟩
    have GR : Hid (Y.ownsRow (W.heap.size + 3) 59 2 v k xs) := by show World.ownsRow _ _ _ _ _ _ _; rw [← HXS.out]; exact AY.out.rows.row
    have bigY := AY.out.big
    have lyr : wr.heap.size < Y.heap.size := by rw [← hY.out]; simp
    have YD : Hid (Below Y.heap.size Y (Y.drew.alloc (.cells #[] 3))) := ((Below.refl Y.heap.size Y).drew).alloc (Nat.le_refl _) _
    have hS0 : Y.drew.cell? ⟨W.heap.size + 2, 0, none⟩ = some v ∧ Y.drew.cell? ⟨wr.heap.size, 0, none⟩ = some (.int .i64 u) ∧ Y.drew.cell? ⟨wr.heap.size, 1, none⟩ = some (.slice (some ⟨b', o', none⟩) 5 mc) := ⟨v0, y0, y1⟩
    have HS : Hid (∀ w, Below Y.heap.size Y w → w.cell? ⟨W.heap.size + 2, 0, none⟩ = some v ∧ w.cell? ⟨wr.heap.size, 0, none⟩ = some (.int .i64 u) ∧ w.cell? ⟨wr.heap.size, 1, none⟩ = some (.slice (some ⟨b', o', none⟩) 5 mc)) := fun w q => ⟨(q.cell (p := ⟨W.heap.size + 2, 0, none⟩) (by show W.heap.size + 2 < _; omega)).trans v0, (q.cell (p := ⟨wr.heap.size, 0, none⟩) lyr).trans y0, (q.cell (p := ⟨wr.heap.size, 1, none⟩) lyr).trans y1⟩
    have hS1 := HS.out _ YD.out
    have BG1 : Hid (∀ w1, (Y.drew.alloc (.cells #[] 3)).grownBy w1 (some Y.heap.size) → Below Y.heap.size Y w1) := fun w1 g => YD.out.trans ⟨g.os, g.tape, g.output, g.size, fun x hx => g.block x (by simp; omega) (by simp; omega)⟩
    have HSTEP : Hid (∀ (w1 w3 : World) (v1 v' : Value), w1.ownsRow Y.heap.size 3 1 v1 5 D → (Y.drew.alloc (.cells #[] 3)).grownBy w1 (some Y.heap.size) → w3.ownsRow (W.heap.size + 3) 59 2 v' (k + 1) (xs ++ [.int .i64 u, v1]) → (w1.alloc (.cells #[.int .i64 u, v1] 59)).grownBy w3 v.ownBlock → (v'.ownBlock = v.ownBlock ∨ v'.ownBlock = some (w1.alloc (.cells #[.int .i64 u, v1] 59)).heap.size) → ∃ v U F, OwnAt W (w3.setCell ⟨W.heap.size + 2, 0, none⟩ v') st cs (k + 1) v U F) := fun w1 w3 v1 v' q1 q2 q3 q4 q5 => by
      rw [← HD.out] at q1
      rw [← HXS.out] at q3
      obtain ⟨U', F', r⟩ := AY.out.step hf.out hlt HL5.out q1 q2 (by rw [HU1.out]; exact q3) (by rw [HU1.out]; exact q4) (by rw [HU1.out]; exact q5)
      exact ⟨v', U', F', r⟩
    have FZ : Hid (∀ w, Below Y.heap.size Y w → w.frozen? ⟨W.heap.size + 2, 0, none⟩ = false) := fun w q => (World.frozen?_of_block (q.block (W.heap.size + 2) (by omega))).trans (AY.out.box.frozen 0)
    have HSZ : Hid (W.heap.size + 3 ≤ Y.heap.size ∧ wr.heap.size < Y.heap.size ∧ ∀ g, v.ownBlock = some g → g ≠ W.heap.size + 2 ∧ g ≠ wr.heap.size ∧ g < Y.heap.size) := ⟨bigY, lyr, fun g e => by
      have q := World.ownsRow.lt HA.out.rows.row g e
      omega⟩
    have lt2 : W.heap.size + 2 < Y.heap.size := by omega
    have lnw : wr.heap.size ≠ W.heap.size + 2 := by have := HA.out.big; omega
    clear hI HA HML HL5 HXS HYB
    refine wp_region_noPanic ?_
    refine wp_region_held_drew (S := fun w' => w'.cell? ⟨wr.heap.size, 0, none⟩ = some (.int .i64 u) ∧ w'.cell? ⟨wr.heap.size, 1, none⟩ = some (.slice (some ⟨b', o', none⟩) 5 mc)) (by kernel_rfl) ?_ (fun hHeld => ?_)
    · (try dsimp only); exact hS0.2
    refine wpAnyH_take (i := 0) (v := ?v1) rfl (by kernel_rfl) (by kernel_rfl) (by kernel_rfl) (fun _ _ _ h => h) (Or.inl ⟨by rfl, ?hy1⟩) (by assumption) ?_
    case hy1 => (intro w hSw; (try dsimp only at hSw); go_simp; try with_reducible rfl)
    try simp only [Act.put, List.setIfInBounds_toArray, List.set_cons_zero, List.set_cons_succ]
    refine wpAnyH_take (i := 2) (v := ?v2) rfl (by kernel_rfl) (by kernel_rfl) (by kernel_rfl) (fun _ _ _ h => h) (Or.inl ⟨by rfl, ?hy2⟩) (by assumption) ?_
    case hy2 => (intro w hSw; (try dsimp only at hSw); go_simp; try with_reducible rfl)
    try simp only [Act.put, List.setIfInBounds_toArray, List.set_cons_zero, List.set_cons_succ]
    refine wpAnyH_take (i := 3) (v := ?v3) rfl (by kernel_rfl) (by kernel_rfl) (by kernel_rfl) (fun _ _ _ h => h) (Or.inl ⟨by rfl, ?hy3⟩) (by assumption) ?_
    case hy3 => (intro w hSw; (try dsimp only at hSw); go_simp; try with_reducible rfl)
    try simp only [Act.put, List.setIfInBounds_toArray, List.set_cons_zero, List.set_cons_succ]
    refine wpAnyH_take (i := 5) (v := ?v4) rfl (by kernel_rfl) (by kernel_rfl) (by kernel_rfl) (fun _ _ _ h => h) (Or.inl ⟨by rfl, ?hy4⟩) (by assumption) ?_
    case hy4 => (intro w hSw; (try dsimp only at hSw); go_simp; try with_reducible rfl)
    try simp only [Act.put, List.setIfInBounds_toArray, List.set_cons_zero, List.set_cons_succ]
    refine wpAnyH_take (i := 6) (v := ?v5) rfl (by kernel_rfl) (by kernel_rfl) (by kernel_rfl) (fun _ _ _ h => h) (Or.inl ⟨by rfl, ?hy5⟩) (by assumption) ?_
    case hy5 => (intro w hSw; (try dsimp only at hSw); go_simp; try with_reducible rfl)
    try simp only [Act.put, List.setIfInBounds_toArray, List.set_cons_zero, List.set_cons_succ]
    refine wpAnyH_ready (rs := [1, 4]) (by kernel_rfl) (by simp) ?_
    refine AllReadyH.cons rfl (fun K hK => ?_) ?_
    · go_simp
      refine hK.out _ _ ?_ (fun hHeld => ?_)
      · (try dsimp only); (first | assumption | exact hS0.2 | exact hS1.2 | exact qs1.2 | exact qs2.2 | exact qs3.2 | exact qs4)
      clear hK K
      try simp only [Act.put, List.setIfInBounds_toArray, List.set_cons_zero, List.set_cons_succ]
      refine wpAnyH_ready (rs := [4]) (by kernel_rfl) (by simp) ?_
      refine AllReadyH.cons rfl (fun K hK => ?_) AllReadyH.nil
      go_simp
      refine hK.out _ _ ?_ (fun hHeld => ?_)
      · (try dsimp only); (first | assumption | exact hS0.2 | exact hS1.2 | exact qs1.2 | exact qs2.2 | exact qs3.2 | exact qs4)
      clear hK K
      try simp only [Act.put, List.setIfInBounds_toArray, List.set_cons_zero, List.set_cons_succ]
      refine wpAnyH_ready (rs := [7]) (by kernel_rfl) (by simp) ?_
      refine AllReadyH.cons rfl (fun K hK => ?_) AllReadyH.nil
      (refine step_append_at _ (by rfl) _ _ 48 (by rfl) Y.heap.size 3 i3 _ 1 8 Try.underlying48 hi3 hz30 hz31 hz32 rfl (by decide) (.slice (some ⟨Y.heap.size, 0, none⟩) 0 0) 0 [] (by rfl) (World.ownsRow_made Y.drew #[] 0 (Nat.le_refl _) (Nat.zero_le _) rfl) ⟨b', o', none⟩ 5 mc D (by rfl) hDl (HN1.out _ YD.out) h1D (by unfold maxLen; omega) (by omega) (by simp) ?_; intro v1 w1 hown1 hgrow1 hnil1 hat1; obtain ⟨g1, c1, rfl⟩ := row_some hown1 (by decide); have B1 := (show Hid (Below Y.heap.size Y w1) from BG1.out w1 hgrow1); have qs1 := HS.out w1 B1.out; have qs1a := qs1.1; have lt3 := (show W.heap.size + 2 < w1.heap.size from Nat.lt_of_lt_of_le lt2 B1.out.size); have G1 := (show Hid (w1.ownsRow Y.heap.size 3 1 (.slice (some ⟨g1, 0, none⟩) 5 c1) 5 D) from hown1); have GG1 := (show Hid ((Y.drew.alloc (.cells #[] 3)).grownBy w1 (some Y.heap.size)) from hgrow1); clear hown1 hgrow1 hnil1 hat1; have B2 := (show Hid (Below Y.heap.size Y (w1.alloc (.cells #[.int .i64 u, .slice (some ⟨g1, 0, none⟩) 5 c1] 59))) from B1.out.alloc B1.out.size _); have qs2 := HS.out _ B2.out)
      refine hK.out _ _ ?_ (fun hHeld => ?_)
      · (try dsimp only); (first | assumption | exact hS0.2 | exact hS1.2 | exact qs1.2 | exact qs2.2 | exact qs3.2 | exact qs4)
      clear hK K
      try simp only [Act.put, List.setIfInBounds_toArray, List.set_cons_zero, List.set_cons_succ]
      refine wpAnyH_take (i := 8) (v := ?v6) rfl (by kernel_rfl) (by kernel_rfl) (by kernel_rfl) (fun _ _ _ h => h) (Or.inl ⟨by rfl, ?hy6⟩) (by assumption) ?_
      case hy6 => (intro w hSw; (try dsimp only at hSw); go_simp; try with_reducible rfl)
      try simp only [Act.put, List.setIfInBounds_toArray, List.set_cons_zero, List.set_cons_succ]
      refine wpAnyH_ready (rs := [9]) (by kernel_rfl) (by simp) ?_
      refine AllReadyH.cons rfl (fun K hK => ?_) AllReadyH.nil
      go_simp
      refine hK.out _ _ ?_ (fun hHeld => ?_)
      · (try dsimp only); (first | assumption | exact hS0.2 | exact hS1.2 | exact qs1.2 | exact qs2.2 | exact qs3.2 | exact qs4)
      clear hK K
      try simp only [Act.put, List.setIfInBounds_toArray, List.set_cons_zero, List.set_cons_succ]
      refine wpAnyH_ready (rs := [10]) (by kernel_rfl) (by simp) ?_
      refine AllReadyH.cons rfl (fun K hK => ?_) AllReadyH.nil
      (refine step_append_at _ (by rfl) _ _ 27 (by rfl) (W.heap.size + 3) 59 i5 _ 2 32 Try.underlying27 hi5 hz50 hz51 hz52 rfl (by decide) v k xs (by rfl) (row_keep GR.out B2.out) ⟨w1.heap.size, 0, none⟩ 1 1 [.int .i64 u, .slice (some ⟨g1, 0, none⟩) 5 c1] (by rfl) rfl (new_two w1 _ _ _) (one_two _ _ rfl rfl) (by unfold maxLen; omega) (by omega) (Nat.le_trans bigY B2.out.size) ?_; intro v2 w3 hown2 hgrow2 hnil2 hat2; obtain ⟨g2, c2, rfl⟩ := row_some hown2 (by omega); have qs3 := qs_far HSZ.out B2.out hgrow2 GR.out qs2; have fz3 := fz_far (A := W.heap.size + 2) HSZ.out B2.out hgrow2 (FZ.out _ B2.out) qs2.1; have HRES := (show Hid _ from HSTEP.out w1 w3 _ _ G1.out GG1.out hown2 hgrow2 hat2); clear hown2 hgrow2 hnil2 hat2)
      refine hK.out _ _ ?_ (fun hHeld => ?_)
      · (try dsimp only); (first | assumption | exact hS0.2 | exact hS1.2 | exact qs1.2 | exact qs2.2 | exact qs3.2 | exact qs4)
      clear hK K
      try simp only [Act.put, List.setIfInBounds_toArray, List.set_cons_zero, List.set_cons_succ]
      refine wpAnyH_take (i := 11) (v := ?v7) rfl (by kernel_rfl) (by kernel_rfl) (by kernel_rfl) (fun _ _ _ h => h) (Or.inl ⟨by rfl, ?hy7⟩) (by assumption) ?_
      case hy7 => (intro w hSw; (try dsimp only at hSw); go_simp; try with_reducible rfl)
      try simp only [Act.put, List.setIfInBounds_toArray, List.set_cons_zero, List.set_cons_succ]
      refine wpAnyH_ready (rs := [12]) (by kernel_rfl) (by simp) ?_
      refine AllReadyH.cons rfl (fun K hK => ?_) AllReadyH.nil
      have qs4 := far_set W w3 (u := .slice (some ⟨g2, 0, none⟩) (k + 1) c2) lnw qs3
      go_simp
      refine hK.out _ _ ?_ (fun hHeld => ?_)
      · (try dsimp only); (first | assumption | exact hS0.2 | exact hS1.2 | exact qs1.2 | exact qs2.2 | exact qs3.2 | exact qs4)
      clear hK K
      try simp only [Act.put, List.setIfInBounds_toArray, List.set_cons_zero, List.set_cons_succ]
      refine wpAnyH_done (by kernel_rfl) ?_ _
      refine NoPanic.normal ?_
      go_wp2
      go_roundw
      case rel => exact ⟨k + 1, by omega, by go_num, HRES⟩
      case measure => simp [intOf]; omega
    refine AllReadyH.cons rfl (fun K hK => ?_) AllReadyH.nil
    go_simp
    refine hK.out _ _ ?_ (fun hHeld => ?_)
    · (try dsimp only); (first | assumption | exact hS0.2 | exact hS1.2 | exact qs1.2 | exact qs2.2 | exact qs3.2 | exact qs4)
    clear hK K
    try simp only [Act.put, List.setIfInBounds_toArray, List.set_cons_zero, List.set_cons_succ]
    refine wpAnyH_ready (rs := [1, 7]) (by kernel_rfl) (by simp) ?_
    refine AllReadyH.cons rfl (fun K hK => ?_) ?_
    · go_simp
      refine hK.out _ _ ?_ (fun hHeld => ?_)
      · (try dsimp only); (first | assumption | exact hS0.2 | exact hS1.2 | exact qs1.2 | exact qs2.2 | exact qs3.2 | exact qs4)
      clear hK K
      try simp only [Act.put, List.setIfInBounds_toArray, List.set_cons_zero, List.set_cons_succ]
      refine wpAnyH_ready (rs := [7]) (by kernel_rfl) (by simp) ?_
      refine AllReadyH.cons rfl (fun K hK => ?_) AllReadyH.nil
      (refine step_append_at _ (by rfl) _ _ 48 (by rfl) Y.heap.size 3 i3 _ 1 8 Try.underlying48 hi3 hz30 hz31 hz32 rfl (by decide) (.slice (some ⟨Y.heap.size, 0, none⟩) 0 0) 0 [] (by rfl) (World.ownsRow_made Y.drew #[] 0 (Nat.le_refl _) (Nat.zero_le _) rfl) ⟨b', o', none⟩ 5 mc D (by rfl) hDl (HN1.out _ YD.out) h1D (by unfold maxLen; omega) (by omega) (by simp) ?_; intro v1 w1 hown1 hgrow1 hnil1 hat1; obtain ⟨g1, c1, rfl⟩ := row_some hown1 (by decide); have B1 := (show Hid (Below Y.heap.size Y w1) from BG1.out w1 hgrow1); have qs1 := HS.out w1 B1.out; have qs1a := qs1.1; have lt3 := (show W.heap.size + 2 < w1.heap.size from Nat.lt_of_lt_of_le lt2 B1.out.size); have G1 := (show Hid (w1.ownsRow Y.heap.size 3 1 (.slice (some ⟨g1, 0, none⟩) 5 c1) 5 D) from hown1); have GG1 := (show Hid ((Y.drew.alloc (.cells #[] 3)).grownBy w1 (some Y.heap.size)) from hgrow1); clear hown1 hgrow1 hnil1 hat1; have B2 := (show Hid (Below Y.heap.size Y (w1.alloc (.cells #[.int .i64 u, .slice (some ⟨g1, 0, none⟩) 5 c1] 59))) from B1.out.alloc B1.out.size _); have qs2 := HS.out _ B2.out)
      refine hK.out _ _ ?_ (fun hHeld => ?_)
      · (try dsimp only); (first | assumption | exact hS0.2 | exact hS1.2 | exact qs1.2 | exact qs2.2 | exact qs3.2 | exact qs4)
      clear hK K
      try simp only [Act.put, List.setIfInBounds_toArray, List.set_cons_zero, List.set_cons_succ]
      refine wpAnyH_take (i := 8) (v := ?v8) rfl (by kernel_rfl) (by kernel_rfl) (by kernel_rfl) (fun _ _ _ h => h) (Or.inl ⟨by rfl, ?hy8⟩) (by assumption) ?_
      case hy8 => (intro w hSw; (try dsimp only at hSw); go_simp; try with_reducible rfl)
      try simp only [Act.put, List.setIfInBounds_toArray, List.set_cons_zero, List.set_cons_succ]
      refine wpAnyH_ready (rs := [9]) (by kernel_rfl) (by simp) ?_
      refine AllReadyH.cons rfl (fun K hK => ?_) AllReadyH.nil
      go_simp
      refine hK.out _ _ ?_ (fun hHeld => ?_)
      · (try dsimp only); (first | assumption | exact hS0.2 | exact hS1.2 | exact qs1.2 | exact qs2.2 | exact qs3.2 | exact qs4)
      clear hK K
      try simp only [Act.put, List.setIfInBounds_toArray, List.set_cons_zero, List.set_cons_succ]
      refine wpAnyH_ready (rs := [10]) (by kernel_rfl) (by simp) ?_
      refine AllReadyH.cons rfl (fun K hK => ?_) AllReadyH.nil
      (refine step_append_at _ (by rfl) _ _ 27 (by rfl) (W.heap.size + 3) 59 i5 _ 2 32 Try.underlying27 hi5 hz50 hz51 hz52 rfl (by decide) v k xs (by rfl) (row_keep GR.out B2.out) ⟨w1.heap.size, 0, none⟩ 1 1 [.int .i64 u, .slice (some ⟨g1, 0, none⟩) 5 c1] (by rfl) rfl (new_two w1 _ _ _) (one_two _ _ rfl rfl) (by unfold maxLen; omega) (by omega) (Nat.le_trans bigY B2.out.size) ?_; intro v2 w3 hown2 hgrow2 hnil2 hat2; obtain ⟨g2, c2, rfl⟩ := row_some hown2 (by omega); have qs3 := qs_far HSZ.out B2.out hgrow2 GR.out qs2; have fz3 := fz_far (A := W.heap.size + 2) HSZ.out B2.out hgrow2 (FZ.out _ B2.out) qs2.1; have HRES := (show Hid _ from HSTEP.out w1 w3 _ _ G1.out GG1.out hown2 hgrow2 hat2); clear hown2 hgrow2 hnil2 hat2)
      refine hK.out _ _ ?_ (fun hHeld => ?_)
      · (try dsimp only); (first | assumption | exact hS0.2 | exact hS1.2 | exact qs1.2 | exact qs2.2 | exact qs3.2 | exact qs4)
      clear hK K
      try simp only [Act.put, List.setIfInBounds_toArray, List.set_cons_zero, List.set_cons_succ]
      refine wpAnyH_take (i := 11) (v := ?v9) rfl (by kernel_rfl) (by kernel_rfl) (by kernel_rfl) (fun _ _ _ h => h) (Or.inl ⟨by rfl, ?hy9⟩) (by assumption) ?_
      case hy9 => (intro w hSw; (try dsimp only at hSw); go_simp; try with_reducible rfl)
      try simp only [Act.put, List.setIfInBounds_toArray, List.set_cons_zero, List.set_cons_succ]
      refine wpAnyH_ready (rs := [12]) (by kernel_rfl) (by simp) ?_
      refine AllReadyH.cons rfl (fun K hK => ?_) AllReadyH.nil
      have qs4 := far_set W w3 (u := .slice (some ⟨g2, 0, none⟩) (k + 1) c2) lnw qs3
      go_simp
      refine hK.out _ _ ?_ (fun hHeld => ?_)
      · (try dsimp only); (first | assumption | exact hS0.2 | exact hS1.2 | exact qs1.2 | exact qs2.2 | exact qs3.2 | exact qs4)
      clear hK K
      try simp only [Act.put, List.setIfInBounds_toArray, List.set_cons_zero, List.set_cons_succ]
      refine wpAnyH_done (by kernel_rfl) ?_ _
      refine NoPanic.normal ?_
      go_wp2
      go_roundw
      case rel => exact ⟨k + 1, by omega, by go_num, HRES⟩
      case measure => simp [intOf]; omega
    refine AllReadyH.cons rfl (fun K hK => ?_) AllReadyH.nil
    (refine step_append_at _ (by rfl) _ _ 48 (by rfl) Y.heap.size 3 i3 _ 1 8 Try.underlying48 hi3 hz30 hz31 hz32 rfl (by decide) (.slice (some ⟨Y.heap.size, 0, none⟩) 0 0) 0 [] (by rfl) (World.ownsRow_made Y.drew #[] 0 (Nat.le_refl _) (Nat.zero_le _) rfl) ⟨b', o', none⟩ 5 mc D (by rfl) hDl (HN1.out _ YD.out) h1D (by unfold maxLen; omega) (by omega) (by simp) ?_; intro v1 w1 hown1 hgrow1 hnil1 hat1; obtain ⟨g1, c1, rfl⟩ := row_some hown1 (by decide); have B1 := (show Hid (Below Y.heap.size Y w1) from BG1.out w1 hgrow1); have qs1 := HS.out w1 B1.out; have qs1a := qs1.1; have lt3 := (show W.heap.size + 2 < w1.heap.size from Nat.lt_of_lt_of_le lt2 B1.out.size); have G1 := (show Hid (w1.ownsRow Y.heap.size 3 1 (.slice (some ⟨g1, 0, none⟩) 5 c1) 5 D) from hown1); have GG1 := (show Hid ((Y.drew.alloc (.cells #[] 3)).grownBy w1 (some Y.heap.size)) from hgrow1); clear hown1 hgrow1 hnil1 hat1; have B2 := (show Hid (Below Y.heap.size Y (w1.alloc (.cells #[.int .i64 u, .slice (some ⟨g1, 0, none⟩) 5 c1] 59))) from B1.out.alloc B1.out.size _); have qs2 := HS.out _ B2.out)
    refine hK.out _ _ ?_ (fun hHeld => ?_)
    · (try dsimp only); (first | assumption | exact hS0.2 | exact hS1.2 | exact qs1.2 | exact qs2.2 | exact qs3.2 | exact qs4)
    clear hK K
    try simp only [Act.put, List.setIfInBounds_toArray, List.set_cons_zero, List.set_cons_succ]
    refine wpAnyH_take (i := 8) (v := ?v10) rfl (by kernel_rfl) (by kernel_rfl) (by kernel_rfl) (fun _ _ _ h => h) (Or.inl ⟨by rfl, ?hy10⟩) (by assumption) ?_
    case hy10 => (intro w hSw; (try dsimp only at hSw); go_simp; try with_reducible rfl)
    try simp only [Act.put, List.setIfInBounds_toArray, List.set_cons_zero, List.set_cons_succ]
    refine wpAnyH_ready (rs := [1, 9]) (by kernel_rfl) (by simp) ?_
    refine AllReadyH.cons rfl (fun K hK => ?_) ?_
    · go_simp
      refine hK.out _ _ ?_ (fun hHeld => ?_)
      · (try dsimp only); (first | assumption | exact hS0.2 | exact hS1.2 | exact qs1.2 | exact qs2.2 | exact qs3.2 | exact qs4)
      clear hK K
      try simp only [Act.put, List.setIfInBounds_toArray, List.set_cons_zero, List.set_cons_succ]
      refine wpAnyH_ready (rs := [9]) (by kernel_rfl) (by simp) ?_
      refine AllReadyH.cons rfl (fun K hK => ?_) AllReadyH.nil
      go_simp
      refine hK.out _ _ ?_ (fun hHeld => ?_)
      · (try dsimp only); (first | assumption | exact hS0.2 | exact hS1.2 | exact qs1.2 | exact qs2.2 | exact qs3.2 | exact qs4)
      clear hK K
      try simp only [Act.put, List.setIfInBounds_toArray, List.set_cons_zero, List.set_cons_succ]
      refine wpAnyH_ready (rs := [10]) (by kernel_rfl) (by simp) ?_
      refine AllReadyH.cons rfl (fun K hK => ?_) AllReadyH.nil
      (refine step_append_at _ (by rfl) _ _ 27 (by rfl) (W.heap.size + 3) 59 i5 _ 2 32 Try.underlying27 hi5 hz50 hz51 hz52 rfl (by decide) v k xs (by rfl) (row_keep GR.out B2.out) ⟨w1.heap.size, 0, none⟩ 1 1 [.int .i64 u, .slice (some ⟨g1, 0, none⟩) 5 c1] (by rfl) rfl (new_two w1 _ _ _) (one_two _ _ rfl rfl) (by unfold maxLen; omega) (by omega) (Nat.le_trans bigY B2.out.size) ?_; intro v2 w3 hown2 hgrow2 hnil2 hat2; obtain ⟨g2, c2, rfl⟩ := row_some hown2 (by omega); have qs3 := qs_far HSZ.out B2.out hgrow2 GR.out qs2; have fz3 := fz_far (A := W.heap.size + 2) HSZ.out B2.out hgrow2 (FZ.out _ B2.out) qs2.1; have HRES := (show Hid _ from HSTEP.out w1 w3 _ _ G1.out GG1.out hown2 hgrow2 hat2); clear hown2 hgrow2 hnil2 hat2)
      refine hK.out _ _ ?_ (fun hHeld => ?_)
      · (try dsimp only); (first | assumption | exact hS0.2 | exact hS1.2 | exact qs1.2 | exact qs2.2 | exact qs3.2 | exact qs4)
      clear hK K
      try simp only [Act.put, List.setIfInBounds_toArray, List.set_cons_zero, List.set_cons_succ]
      refine wpAnyH_take (i := 11) (v := ?v11) rfl (by kernel_rfl) (by kernel_rfl) (by kernel_rfl) (fun _ _ _ h => h) (Or.inl ⟨by rfl, ?hy11⟩) (by assumption) ?_
      case hy11 => (intro w hSw; (try dsimp only at hSw); go_simp; try with_reducible rfl)
      try simp only [Act.put, List.setIfInBounds_toArray, List.set_cons_zero, List.set_cons_succ]
      refine wpAnyH_ready (rs := [12]) (by kernel_rfl) (by simp) ?_
      refine AllReadyH.cons rfl (fun K hK => ?_) AllReadyH.nil
      have qs4 := far_set W w3 (u := .slice (some ⟨g2, 0, none⟩) (k + 1) c2) lnw qs3
      go_simp
      refine hK.out _ _ ?_ (fun hHeld => ?_)
      · (try dsimp only); (first | assumption | exact hS0.2 | exact hS1.2 | exact qs1.2 | exact qs2.2 | exact qs3.2 | exact qs4)
      clear hK K
      try simp only [Act.put, List.setIfInBounds_toArray, List.set_cons_zero, List.set_cons_succ]
      refine wpAnyH_done (by kernel_rfl) ?_ _
      refine NoPanic.normal ?_
      go_wp2
      go_roundw
      case rel => exact ⟨k + 1, by omega, by go_num, HRES⟩
      case measure => simp [intOf]; omega
    refine AllReadyH.cons rfl (fun K hK => ?_) AllReadyH.nil
    go_simp
    refine hK.out _ _ ?_ (fun hHeld => ?_)
    · (try dsimp only); (first | assumption | exact hS0.2 | exact hS1.2 | exact qs1.2 | exact qs2.2 | exact qs3.2 | exact qs4)
    clear hK K
    try simp only [Act.put, List.setIfInBounds_toArray, List.set_cons_zero, List.set_cons_succ]
    refine wpAnyH_ready (rs := [1]) (by kernel_rfl) (by simp) ?_
    refine AllReadyH.cons rfl (fun K hK => ?_) AllReadyH.nil
    go_simp
    refine hK.out _ _ ?_ (fun hHeld => ?_)
    · (try dsimp only); (first | assumption | exact hS0.2 | exact hS1.2 | exact qs1.2 | exact qs2.2 | exact qs3.2 | exact qs4)
    clear hK K
    try simp only [Act.put, List.setIfInBounds_toArray, List.set_cons_zero, List.set_cons_succ]
    refine wpAnyH_ready (rs := [10]) (by kernel_rfl) (by simp) ?_
    refine AllReadyH.cons rfl (fun K hK => ?_) AllReadyH.nil
    (refine step_append_at _ (by rfl) _ _ 27 (by rfl) (W.heap.size + 3) 59 i5 _ 2 32 Try.underlying27 hi5 hz50 hz51 hz52 rfl (by decide) v k xs (by rfl) (row_keep GR.out B2.out) ⟨w1.heap.size, 0, none⟩ 1 1 [.int .i64 u, .slice (some ⟨g1, 0, none⟩) 5 c1] (by rfl) rfl (new_two w1 _ _ _) (one_two _ _ rfl rfl) (by unfold maxLen; omega) (by omega) (Nat.le_trans bigY B2.out.size) ?_; intro v2 w3 hown2 hgrow2 hnil2 hat2; obtain ⟨g2, c2, rfl⟩ := row_some hown2 (by omega); have qs3 := qs_far HSZ.out B2.out hgrow2 GR.out qs2; have fz3 := fz_far (A := W.heap.size + 2) HSZ.out B2.out hgrow2 (FZ.out _ B2.out) qs2.1; have HRES := (show Hid _ from HSTEP.out w1 w3 _ _ G1.out GG1.out hown2 hgrow2 hat2); clear hown2 hgrow2 hnil2 hat2)
    refine hK.out _ _ ?_ (fun hHeld => ?_)
    · (try dsimp only); (first | assumption | exact hS0.2 | exact hS1.2 | exact qs1.2 | exact qs2.2 | exact qs3.2 | exact qs4)
    clear hK K
    try simp only [Act.put, List.setIfInBounds_toArray, List.set_cons_zero, List.set_cons_succ]
    refine wpAnyH_take (i := 11) (v := ?v12) rfl (by kernel_rfl) (by kernel_rfl) (by kernel_rfl) (fun _ _ _ h => h) (Or.inl ⟨by rfl, ?hy12⟩) (by assumption) ?_
    case hy12 => (intro w hSw; (try dsimp only at hSw); go_simp; try with_reducible rfl)
    try simp only [Act.put, List.setIfInBounds_toArray, List.set_cons_zero, List.set_cons_succ]
    refine wpAnyH_ready (rs := [12]) (by kernel_rfl) (by simp) ?_
    refine AllReadyH.cons rfl (fun K hK => ?_) AllReadyH.nil
    have qs4 := far_set W w3 (u := .slice (some ⟨g2, 0, none⟩) (k + 1) c2) lnw qs3
    go_simp
    refine hK.out _ _ ?_ (fun hHeld => ?_)
    · (try dsimp only); (first | assumption | exact hS0.2 | exact hS1.2 | exact qs1.2 | exact qs2.2 | exact qs3.2 | exact qs4)
    clear hK K
    try simp only [Act.put, List.setIfInBounds_toArray, List.set_cons_zero, List.set_cons_succ]
    refine wpAnyH_done (by kernel_rfl) ?_ _
    refine NoPanic.normal ?_
    go_wp2
    go_roundw
    case rel => exact ⟨k + 1, by omega, by go_num, HRES⟩
    case measure => simp [intOf]; omega
end Go.Proofs.Yticgipmaflhplaa.walks
