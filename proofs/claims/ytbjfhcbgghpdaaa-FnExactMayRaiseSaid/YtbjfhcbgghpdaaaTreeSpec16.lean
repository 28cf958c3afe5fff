/-
  How many loops lie within one another in the specification's tree; l16Tree and GoodTree2.
-/
import Derived.Test.YtbjfhcbgghpdaaaProg
import Derived.Test.YtbjfhcbgghpdaaaMagMath
import Derived.Test.YtbjfhcbgghpdaaaInts
import Derived.Test.YtbjfhcbgghpdaaaDeep
import Derived.Test.YtbjfhcbgghpdaaaDeepRow
import Derived.Test.YtbjfhcbgghpdaaaTreeMath16
import Derived.Test.YtbjfhcbgghpdaaaDeepGrow
import Derived.Test.YtbjfhcbgghpdaaaOwnMath
import Derived.Test.YtbjfhcbgghpdaaaTreeMem16
import Derived.Test.YtbjfhcbgghpdaaaLineMath
import Derived.Test.YtbjfhcbgghpdaaaLineStep
import Derived.Test.YtbjfhcbgghpdaaaCellBase16
import Derived.Test.YtbjfhcbgghpdaaaReadSpec16
import Derived.Deep.RegionWith
import Derived.Deep.RegionHeld3
import Derived.Deep.DeepFit
import Derived.Deep.DeepCutAuto
import Derived.WalkKit
import Derived.WalkSpells
import Derived.Below
import Derived.Handy
import Derived.OwnWalk
namespace Go.Proofs.Ytbjfhcbgghpdaaa.walks
open Go.RowKit Go.Proofs.Ytbjfhcbgghpdaaa.math Go.Proofs.Ytbjfhcbgghpdaaa.ints Go.Proofs.Ytbjfhcbgghpdaaa.deep
set_option linter.unusedVariables false
set_option maxRecDepth 100000


set_option maxHeartbeats 4000000 in
theorem spec_loops (t : XT) : ∀ (W : World) (a : Option Addr) (cap : Nat) (hs : loopsX t ≤ 1000) (h : Hid (Holds W false (kidsD t) (.slice a t.kids.length cap))), Calls Try.prog 47 #[.agg #[.int .i64 t.kind, .int .i64 t.num, .slice a t.kids.length cap]] W fun e W' => e = .returned (.int .i64 (loopsX t : Int)) ∧ Below W.heap.size W W' := by
  refine XT.ind (P := fun t => ∀ (W : World) (a : Option Addr) (cap : Nat) (hs : loopsX t ≤ 1000) (h : Hid (Holds W false (kidsD t) (.slice a t.kids.length cap))), Calls Try.prog 47 #[.agg #[.int .i64 t.kind, .int .i64 t.num, .slice a t.kids.length cap]] W fun e W' => e = .returned (.int .i64 (loopsX t : Int)) ∧ Below W.heap.size W W') (fun t ih W a cap hs h => ?_) t
  obtain ⟨L, hL⟩ : ∃ L, Hid (t.kids.length = L) := ⟨_, rfl⟩
  obtain ⟨R, hR⟩ : ∃ R, Hid (loopsX t = R) := ⟨_, rfl⟩
  obtain ⟨k, hk⟩ : ∃ k, Hid (t.kind = k) := ⟨_, rfl⟩
  obtain ⟨n, hn⟩ : ∃ n, Hid (t.num = n) := ⟨_, rfl⟩
  have hL2 : L ≤ 2 := by rw [← hL.out]; exact kids_few t
  have HML : Hid (∀ i, i ≤ L → mostX t i ≤ 1000) := fun i hi => Nat.le_trans (most_le t i (by rw [hL.out]; exact hi)) hs
  have HRE : Hid (R = mostX t L + if k = 6 then 1 else 0) := by show _ = _; rw [← hR.out, loops_eq t, hL.out, hk.out]
  rw [hR.out, hk.out, hn.out, hL.out]
  go_enter Try.func47, Try.ntmps47
  go_wp2
  go_loopw [3, 10] (fun v3 vi wr => ∃ i : Nat, i ≤ L ∧ v3 = .int .i64 (mostX t i : Int) ∧ vi = .int .i64 (i : Int) ∧ Hid (wr.rowIs W.heap.size 53 3 (rowF [.int .i64 k, .int .i64 n, .slice a L cap])) ∧ Hid (Below W.heap.size W wr)) (fun _ vi _ => L - (intOf vi).toNat)
  case atStart => exact ⟨0, Nat.zero_le _, rfl, rfl, row_of W #[.int .i64 k, .int .i64 n, .slice a L cap] _, by show Below _ _ _; go_grown⟩
  case round =>
    obtain ⟨i, hi, rfl, rfl, HR, HB⟩ := hrel
    have r0 : wr.cell? ⟨W.heap.size, 0, none⟩ = some (.int .i64 k) := HR.out.cell (i := 0) (by decide)
    have rl := HR.out.lt
    by_cases hlt : i < L
    rotate_left
    · have e : i = L := by omega
      subst e
      have hm := HML.out i (Nat.le_refl _)
      generalize mostX t i = M at hm HRE
      by_cases h6 : k = 6
      · have HE : Hid (R = M + 1) := by show _ = _; rw [HRE.out, if_pos h6]
        subst h6
        go_wp2
        go_ret
        exact ⟨by rw [HE.out]; go_num, HB.out⟩
      · have HE : Hid (R = M) := by show _ = _; rw [HRE.out, if_neg h6]; rfl
        have d1 : (k == 6) = false := by simpa using h6
        have d2 : decide (k = 6) = false := decide_eq_false h6
        go_wp2
        go_ret
        exact ⟨by rw [HE.out]; rfl, HB.out⟩
    have hltI : (i : Int) < (L : Int) := by omega
    have hik : i < t.kids.length := by rw [hL.out]; exact hlt
    obtain ⟨b, o, la, lc, hab, hb, c0, c1, c2, hq⟩ := kid_at (by have q := h.out; exact q) HB.out hik
    subst hab
    have hbw : b < wr.heap.size := by have := HB.out.size; omega
    obtain ⟨X, hX⟩ : ∃ X, Hid (wr.alloc (.cells #[.int .i64 (t.kid i).kind, .int .i64 (t.kid i).num, .slice la (t.kid i).kids.length lc] 53) = X) := ⟨_, rfl⟩
    have HX : Hid (Below wr.heap.size wr X) := by show Below _ _ _; rw [← hX.out]; exact (Below.refl _ _).alloc (Nat.le_refl _) _
    have RX : Hid (X.rowIs wr.heap.size 53 3 (rowF [.int .i64 (t.kid i).kind, .int .i64 (t.kid i).num, .slice la (t.kid i).kids.length lc])) := by rw [← hX.out]; exact row_of wr _ _
    have ihc := ih i hik X la lc (Nat.le_trans (kid_loops t hik) hs) (hq.kept HX.out)
    have HMN : Hid (mostX t (i + 1) = max (mostX t i) (loopsX (t.kid i))) := rfl
    have hm1 := HML.out i hi
    have hm2 := HML.out (i + 1) hlt
    rw [HMN.out] at hm2
    clear hq
    generalize (t.kid i).kind = k2 at c0 ihc RX hX
    generalize (t.kid i).num = n2 at c1 ihc RX hX
    generalize (t.kid i).kids.length = l2 at c2 ihc RX hX
    obtain ⟨Q, hQ⟩ : ∃ Q, Hid (loopsX (t.kid i) = Q) := ⟨_, rfl⟩
    obtain ⟨M, hM⟩ : ∃ M, Hid (mostX t i = M) := ⟨_, rfl⟩
    rw [hQ.out] at ihc hm2
    rw [hM.out] at hm2 hm1
    have HBX : Hid (Below W.heap.size W X) := HB.out.trans (HX.out.mono HB.out.size)
    have HRX : Hid (X.rowIs W.heap.size 53 3 (rowF [.int .i64 k, .int .i64 n, .slice (some ⟨b, o, none⟩) L cap])) := HR.out.of_block (HX.out.block _ HR.out.lt)
    have x0 : X.cell? ⟨wr.heap.size, 0, none⟩ = some (.int .i64 k2) := RX.out.cell (i := 0) (by decide)
    have x1 : X.cell? ⟨wr.heap.size, 1, none⟩ = some (.int .i64 n2) := RX.out.cell (i := 1) (by decide)
    have x2 : X.cell? ⟨wr.heap.size, 2, none⟩ = some (.slice la l2 lc) := RX.out.cell (i := 2) (by decide)
    have xl := RX.out.lt
    rw [hM.out]
    go_upto_region 5 with fail
    rw [hX.out]
    clear hX
    by_cases hc : M < Q
    · have g1 : decide ((Q : Int) > (M : Int)) = true := decide_eq_true (by omega)
      have g2 : decide ((M : Int) < (Q : Int)) = true := decide_eq_true (by omega)
      have g3 : decide (M < Q) = true := decide_eq_true hc
      have HV : Hid (mostX t (i + 1) = Q) := by show _ = _; rw [HMN.out, hM.out, hQ.out]; omega
      go_wp2_with (go_at_call 47; refine ihc.mono ?_; rintro e w1 ⟨rfl, hB1⟩; have HB1 : Hid (Below X.heap.size X w1) := hB1; clear hB1)
      go_roundw
      case rel => exact ⟨i + 1, hlt, by rw [HV.out], by go_num, HRX.out.of_block (HB1.out.block _ HRX.out.lt), HBX.out.trans (HB1.out.mono HBX.out.size)⟩
      case measure => simp [intOf]; omega
    · have g1 : decide ((Q : Int) > (M : Int)) = false := decide_eq_false (by omega)
      have g2 : decide ((M : Int) < (Q : Int)) = false := decide_eq_false (by omega)
      have g3 : decide (M < Q) = false := decide_eq_false hc
      have HV : Hid (mostX t (i + 1) = M) := by show _ = _; rw [HMN.out, hM.out, hQ.out]; omega
      go_wp2_with (go_at_call 47; refine ihc.mono ?_; rintro e w1 ⟨rfl, hB1⟩; have HB1 : Hid (Below X.heap.size X w1) := hB1; clear hB1)
      go_roundw
      case rel => exact ⟨i + 1, hlt, by rw [HV.out], by go_num, HRX.out.of_block (HB1.out.block _ HRX.out.lt), HBX.out.trans (HB1.out.mono HBX.out.size)⟩
      case measure => simp [intOf]; omega
/-- What a tree is told as. -/
def TreeTo (W : World) (r : Option XT) (e : Ending) (W' : World) : Prop := Below W.heap.size W W' ∧ ∃ k n la l lc, e = .returned (.tuple #[.agg #[.int .i64 k, .int .i64 n, .slice la l lc], .bool r.isSome]) ∧ ∀ t, r = some t → k = t.kind ∧ n = t.num ∧ l = t.kids.length ∧ ∃ F, Owns W' false W.heap.size (kidsD t) (.slice la l lc) F ∧ ∀ x, F x → W.heap.size ≤ x ∧ x < W'.heap.size

theorem tree_zero {W Y w : World} (B : Below W.heap.size W Y) (u0 u1 u2 : Value) : Below W.heap.size W (((Y.setCell ⟨W.heap.size, 0, none⟩ u0).setCell ⟨W.heap.size, 1, none⟩ u1).setCell ⟨W.heap.size, 2, none⟩ u2) := by
  refine Below.trans B ?_
  iterate 3 refine Below.setCell ?_ (by show W.heap.size ≤ W.heap.size; omega) _
  exact Below.refl _ _
theorem far16 {w : World} {A b i : Nat} {x : Value} (h : w.cell? ⟨b, i, none⟩ = some x) (hne : b ≠ A) (u0 u1 u2 : Value) : (((w.setCell ⟨A, 0, none⟩ u0).setCell ⟨A, 1, none⟩ u1).setCell ⟨A, 2, none⟩ u2).cell? ⟨b, i, none⟩ = some x := by
  rw [World.cell?_of_block (show _ = w.heap[b]? by rw [Below.heap_setCell _ _ _ _ (by show b ≠ A; exact hne), Below.heap_setCell _ _ _ _ (by show b ≠ A; exact hne), Below.heap_setCell _ _ _ _ (by show b ≠ A; exact hne)])]
  exact h
theorem far16s {w : World} {A b : Nat} {x y z : Value} (h : w.cell? ⟨b, 0, none⟩ = some x ∧ w.cell? ⟨b, 1, none⟩ = some y ∧ w.cell? ⟨b, 2, none⟩ = some z) (hne : b ≠ A) (u0 u1 u2 : Value) : (((w.setCell ⟨A, 0, none⟩ u0).setCell ⟨A, 1, none⟩ u1).setCell ⟨A, 2, none⟩ u2).drew.cell? ⟨b, 0, none⟩ = some x ∧ (((w.setCell ⟨A, 0, none⟩ u0).setCell ⟨A, 1, none⟩ u1).setCell ⟨A, 2, none⟩ u2).drew.cell? ⟨b, 1, none⟩ = some y ∧ (((w.setCell ⟨A, 0, none⟩ u0).setCell ⟨A, 1, none⟩ u1).setCell ⟨A, 2, none⟩ u2).drew.cell? ⟨b, 2, none⟩ = some z := ⟨far16 h.1 hne _ _ _, far16 h.2.1 hne _ _ _, far16 h.2.2 hne _ _ _⟩
theorem far16n {w : World} {A b : Nat} {x y z : Value} (h : w.cell? ⟨b, 0, none⟩ = some x ∧ w.cell? ⟨b, 1, none⟩ = some y ∧ w.cell? ⟨b, 2, none⟩ = some z) (hne : b ≠ A) (u0 u1 u2 : Value) : (((w.setCell ⟨A, 0, none⟩ u0).setCell ⟨A, 1, none⟩ u1).setCell ⟨A, 2, none⟩ u2).cell? ⟨b, 0, none⟩ = some x ∧ (((w.setCell ⟨A, 0, none⟩ u0).setCell ⟨A, 1, none⟩ u1).setCell ⟨A, 2, none⟩ u2).cell? ⟨b, 1, none⟩ = some y ∧ (((w.setCell ⟨A, 0, none⟩ u0).setCell ⟨A, 1, none⟩ u1).setCell ⟨A, 2, none⟩ u2).cell? ⟨b, 2, none⟩ = some z := ⟨far16 h.1 hne _ _ _, far16 h.2.1 hne _ _ _, far16 h.2.2 hne _ _ _⟩
theorem treeX_no {kd nn : Nat → Int} {len : Nat} (h : len ≤ 30) (hr : readX kd nn len (len + 1) 0 = none) : treeX kd nn len = none := by
  unfold treeX; rw [if_pos h, hr]
theorem treeX_some {kd nn : Nat → Int} {len : Nat} (h : len ≤ 30) {t : XT} {e : Nat} (hr : readX kd nn len (len + 1) 0 = some (t, e)) : treeX kd nn len = if e = len ∧ loopsX t ≤ 3 then some t else none := by
  unfold treeX; rw [if_pos h, hr]
set_option linter.unusedSimpArgs false in
set_option maxHeartbeats 8000000 in
theorem spec_tree (a : Option Addr) (len cap : Nat) (zs : List Int) (W : World) (hz : Hid (zs.length = len * 2)) (hlen : len ≤ 1048576) (h : Hid (Ints W a zs)) (R : Option XT) (HR : Hid (treeX (kdX zs) (nnX zs) len = R)) :
    Calls Try.prog 25 #[.slice a len cap] W fun e W' => TreeTo W R e W' := by
  obtain ⟨X, hX⟩ : ∃ X, Hid (W.alloc (.cells #[.int .i64 0, .int .i64 0, .slice none 0 0] 53) = X) := ⟨_, rfl⟩
  have HX : Hid (Below W.heap.size W X) := by show Below _ _ _; rw [← hX.out]; exact (Below.refl _ _).alloc (Nat.le_refl _) _
  have RZ : Hid (X.rowIs W.heap.size 53 3 (rowF [.int .i64 0, .int .i64 0, .slice none 0 0])) := by rw [← hX.out]; exact row_of W _ _
  by_cases hl : len ≤ 30
  rotate_left
  · have d1 : decide ((len : Int) > 30) = true := decide_eq_true (by omega)
    have d2 : decide ((30 : Int) < (len : Int)) = true := decide_eq_true (by omega)
    have d3 : decide (30 < len) = true := decide_eq_true (by omega)
    have HE : Hid (R = none) := by show _ = _; rw [← HR.out]; unfold treeX; rw [if_neg hl]
    rw [HE.out]
    have z0 : X.cell? ⟨W.heap.size, 0, none⟩ = some (.int .i64 0) := RZ.out.cell (i := 0) (by decide)
    have z1 : X.cell? ⟨W.heap.size, 1, none⟩ = some (.int .i64 0) := RZ.out.cell (i := 1) (by decide)
    have z2 : X.cell? ⟨W.heap.size, 2, none⟩ = some (.slice none 0 0) := RZ.out.cell (i := 2) (by decide)
    have y0 := RZ.out.frozen 0
    have y1 := RZ.out.frozen 1
    have y2 := RZ.out.frozen 2
    have zl := RZ.out.lt
    clear hl HE
    go_enter Try.func25, Try.ntmps25
    go_upto_region 1 with fail
    rw [hX.out]
    go_wp2
    (try simp only [Exit.inBlock, Exit.then])
    refine bodyPost_ret (v := .tuple #[.agg #[.int .i64 0, .int .i64 0, .slice none 0 0], .bool false]) (by simp only [results, Try.results25]; go_simp) rfl ?_
    exact ⟨tree_zero (w := X) HX.out _ _ _, 0, 0, none, 0, 0, rfl, fun t q => by cases q⟩
  have d1 : decide ((len : Int) > 30) = false := decide_eq_false (by omega)
  have d2 : decide ((30 : Int) < (len : Int)) = false := decide_eq_false (by omega)
  have d3 : decide (30 < len) = false := decide_eq_false (by omega)
  have hread := spec_read a len cap zs hz hl (len + 1) 0 X (Nat.zero_le _) (by omega) (h.out.kept HX.out)
  cases hr : readX (kdX zs) (nnX zs) len (len + 1) 0 with
  | none =>
    have HE : Hid (R = none) := by show _ = _; rw [← HR.out]; exact treeX_no hl hr
    rw [HE.out]
    clear HE
    go_enter Try.func25, Try.ntmps25
    go_upto_region 1 with fail
    rw [hX.out]
    clear hX
    go_upto_region 4 with (go_at_call 46; refine hread.mono ?_; rintro e w2 ⟨hB2, hno, hyes⟩; obtain rfl := hno hr; have HB2 : Hid (Below X.heap.size X w2) := hB2; clear hB2 hno hyes)
    have Z2 : Hid (w2.rowIs W.heap.size 53 3 (rowF [.int .i64 0, .int .i64 0, .slice none 0 0])) := RZ.out.of_block (HB2.out.block _ RZ.out.lt)
    have Z3 := Z2.out.alloc (.cells #[.int .i64 0, .int .i64 0, .slice none 0 0] 53)
    obtain ⟨Y, hY⟩ : ∃ Y, Hid (w2.alloc (.cells #[.int .i64 0, .int .i64 0, .slice none 0 0] 53) = Y) := ⟨_, rfl⟩
    have HY : Hid (Below W.heap.size W Y) := by show Below _ _ _; rw [← hY.out]; exact (HX.out.trans (HB2.out.mono HX.out.size)).alloc (Nat.le_trans HX.out.size HB2.out.size) _
    have RY : Hid (Y.rowIs w2.heap.size 53 3 (rowF [.int .i64 0, .int .i64 0, .slice none 0 0])) := by rw [← hY.out]; exact row_of w2 _ _
    rw [hY.out] at Z3 ⊢
    clear hY
    have z0 : Y.cell? ⟨W.heap.size, 0, none⟩ = some (.int .i64 0) := Z3.cell (i := 0) (by decide)
    have z1 : Y.cell? ⟨W.heap.size, 1, none⟩ = some (.int .i64 0) := Z3.cell (i := 1) (by decide)
    have z2 : Y.cell? ⟨W.heap.size, 2, none⟩ = some (.slice none 0 0) := Z3.cell (i := 2) (by decide)
    have y0 := Z3.frozen 0
    have y1 := Z3.frozen 1
    have y2 := Z3.frozen 2
    have zl := Z3.lt
    have x0 : Y.cell? ⟨w2.heap.size, 0, none⟩ = some (.int .i64 0) := RY.out.cell (i := 0) (by decide)
    have x1 : Y.cell? ⟨w2.heap.size, 1, none⟩ = some (.int .i64 0) := RY.out.cell (i := 1) (by decide)
    have x2 : Y.cell? ⟨w2.heap.size, 2, none⟩ = some (.slice none 0 0) := RY.out.cell (i := 2) (by decide)
    have xl := RY.out.lt
    have q1 : Y.drew.cell? ⟨w2.heap.size, 0, none⟩ = some (.int .i64 0) ∧ Y.drew.cell? ⟨w2.heap.size, 1, none⟩ = some (.int .i64 0) ∧ Y.drew.cell? ⟨w2.heap.size, 2, none⟩ = some (.slice none 0 0) := ⟨x0, x1, x2⟩
    have hne : w2.heap.size ≠ W.heap.size := by have := Z2.out.lt; omega
    have q2 := fun u0 u1 u2 => far16s (A := W.heap.size) (w := Y) ⟨x0, x1, x2⟩ hne u0 u1 u2
    clear Z3
    refine wp_region_noPanic ?_
    refine wp_region_held_drew (S := (fun w' => w'.cell? ⟨w2.heap.size, 0, none⟩ = some (.int .i64 0) ∧ w'.cell? ⟨w2.heap.size, 1, none⟩ = some (.int .i64 0) ∧ w'.cell? ⟨w2.heap.size, 2, none⟩ = some (.slice none 0 0))) (by kernel_rfl) ?_ (fun hHeld => ?_)
    · (try dsimp only); exact q1
    refine wpAnyH_take (i := 0) (v := ?v1) rfl (by kernel_rfl) (by kernel_rfl) (by kernel_rfl) (fun _ _ _ h => h) (Or.inl ⟨by rfl, ?hy1⟩) (by assumption) ?_
    case hy1 => (intro w hSw; (try dsimp only at hSw); go_simp; try with_reducible rfl)
    try simp only [Act.put, List.setIfInBounds_toArray, List.set_cons_zero, List.set_cons_succ, List.getElem_toArray, List.getElem_cons_zero, List.getElem_cons_succ]
    refine wpAnyH_take (i := 1) (v := ?v2) rfl (by kernel_rfl) (by kernel_rfl) (by kernel_rfl) (fun _ _ _ h => h) (Or.inl ⟨by rfl, ?hy2⟩) (by assumption) ?_
    case hy2 => (intro w hSw; (try dsimp only at hSw); go_simp; try with_reducible rfl)
    try simp only [Act.put, List.setIfInBounds_toArray, List.set_cons_zero, List.set_cons_succ, List.getElem_toArray, List.getElem_cons_zero, List.getElem_cons_succ]
    refine wpAnyH_take (i := 2) (v := ?v3) rfl (by kernel_rfl) (by kernel_rfl) (by kernel_rfl) (fun _ _ _ h => h) (Or.inl ⟨by rfl, ?hy3⟩) (by assumption) ?_
    case hy3 => (intro w hSw; (try dsimp only at hSw); go_simp; try with_reducible rfl)
    try simp only [Act.put, List.setIfInBounds_toArray, List.set_cons_zero, List.set_cons_succ, List.getElem_toArray, List.getElem_cons_zero, List.getElem_cons_succ]
    refine wpAnyH_take (i := 3) (v := ?v4) rfl (by kernel_rfl) (by kernel_rfl) (by kernel_rfl) (fun _ _ _ h => h) (Or.inl ⟨by rfl, ?hy4⟩) (by assumption) ?_
    case hy4 => (intro w hSw; (try dsimp only at hSw); go_simp; try with_reducible rfl)
    try simp only [Act.put, List.setIfInBounds_toArray, List.set_cons_zero, List.set_cons_succ, List.getElem_toArray, List.getElem_cons_zero, List.getElem_cons_succ]
    refine wpAnyH_take (i := 4) (v := undef) rfl (by kernel_rfl) (by kernel_rfl) (by kernel_rfl) (fun _ _ _ h => h) (Or.inr ⟨by rfl, rfl⟩) (by assumption) ?_
    try simp only [Act.put, List.setIfInBounds_toArray, List.set_cons_zero, List.set_cons_succ, List.getElem_toArray, List.getElem_cons_zero, List.getElem_cons_succ]
    refine wpAnyH_take (i := 5) (v := undef) rfl (by kernel_rfl) (by kernel_rfl) (by kernel_rfl) (fun _ _ _ h => h) (Or.inr ⟨by rfl, rfl⟩) (by assumption) ?_
    try simp only [Act.put, List.setIfInBounds_toArray, List.set_cons_zero, List.set_cons_succ, List.getElem_toArray, List.getElem_cons_zero, List.getElem_cons_succ]
    refine wpAnyH_take (i := 6) (v := undef) rfl (by kernel_rfl) (by kernel_rfl) (by kernel_rfl) (fun _ _ _ h => h) (Or.inr ⟨by rfl, rfl⟩) (by assumption) ?_
    try simp only [Act.put, List.setIfInBounds_toArray, List.set_cons_zero, List.set_cons_succ, List.getElem_toArray, List.getElem_cons_zero, List.getElem_cons_succ]
    refine wpAnyH_take (i := 7) (v := undef) rfl (by kernel_rfl) (by kernel_rfl) (by kernel_rfl) (fun _ _ _ h => h) (Or.inr ⟨by rfl, rfl⟩) (by assumption) ?_
    try simp only [Act.put, List.setIfInBounds_toArray, List.set_cons_zero, List.set_cons_succ, List.getElem_toArray, List.getElem_cons_zero, List.getElem_cons_succ]
    refine wpAnyH_take (i := 8) (v := ?v5) rfl (by kernel_rfl) (by kernel_rfl) (by kernel_rfl) (fun _ _ _ h => h) (Or.inl ⟨by rfl, ?hy5⟩) (by assumption) ?_
    case hy5 => (intro w hSw; (try dsimp only at hSw); go_simp; try with_reducible rfl)
    try simp only [Act.put, List.setIfInBounds_toArray, List.set_cons_zero, List.set_cons_succ, List.getElem_toArray, List.getElem_cons_zero, List.getElem_cons_succ]
    refine wpAnyH_take (i := 9) (v := ?v6) rfl (by kernel_rfl) (by kernel_rfl) (by kernel_rfl) (fun _ _ _ h => h) (Or.inl ⟨by rfl, ?hy6⟩) (by assumption) ?_
    case hy6 => (intro w hSw; (try dsimp only at hSw); go_simp; try with_reducible rfl)
    try simp only [Act.put, List.setIfInBounds_toArray, List.set_cons_zero, List.set_cons_succ, List.getElem_toArray, List.getElem_cons_zero, List.getElem_cons_succ]
    refine wpAnyH_take (i := 10) (v := undef) rfl (by kernel_rfl) (by kernel_rfl) (by kernel_rfl) (fun _ _ _ h => h) (Or.inr ⟨by rfl, rfl⟩) (by assumption) ?_
    try simp only [Act.put, List.setIfInBounds_toArray, List.set_cons_zero, List.set_cons_succ, List.getElem_toArray, List.getElem_cons_zero, List.getElem_cons_succ]
    refine wpAnyH_take (i := 11) (v := undef) rfl (by kernel_rfl) (by kernel_rfl) (by kernel_rfl) (fun _ _ _ h => h) (Or.inr ⟨by rfl, rfl⟩) (by assumption) ?_
    try simp only [Act.put, List.setIfInBounds_toArray, List.set_cons_zero, List.set_cons_succ, List.getElem_toArray, List.getElem_cons_zero, List.getElem_cons_succ]
    refine wpAnyH_take (i := 12) (v := undef) rfl (by kernel_rfl) (by kernel_rfl) (by kernel_rfl) (fun _ _ _ h => h) (Or.inr ⟨by rfl, rfl⟩) (by assumption) ?_
    try simp only [Act.put, List.setIfInBounds_toArray, List.set_cons_zero, List.set_cons_succ, List.getElem_toArray, List.getElem_cons_zero, List.getElem_cons_succ]
    refine wpAnyH_take (i := 13) (v := ?v7) rfl (by kernel_rfl) (by kernel_rfl) (by kernel_rfl) (fun _ _ _ h => h) (Or.inl ⟨by rfl, ?hy7⟩) (by assumption) ?_
    case hy7 => (intro w hSw; (try dsimp only at hSw); go_simp; try with_reducible rfl)
    try simp only [Act.put, List.setIfInBounds_toArray, List.set_cons_zero, List.set_cons_succ, List.getElem_toArray, List.getElem_cons_zero, List.getElem_cons_succ]
    refine wpAnyH_ready (rs := [14]) (by kernel_rfl) (by simp) ?_
    refine AllReadyH.cons rfl (fun K hK => ?_) AllReadyH.nil
    go_simp
    refine hK.out _ _ ?_ (fun hHeld => ?_)
    · (try dsimp only); exact q2 _ _ _
    clear hK K
    try simp only [Act.put, List.setIfInBounds_toArray, List.set_cons_zero, List.set_cons_succ, List.getElem_toArray, List.getElem_cons_zero, List.getElem_cons_succ]
    refine wpAnyH_take (i := 15) (v := ?v8) rfl (by kernel_rfl) (by kernel_rfl) (by kernel_rfl) (fun _ _ _ h => h) (Or.inl ⟨by rfl, ?hy8⟩) (by assumption) ?_
    case hy8 => (intro w hSw; (try dsimp only at hSw); go_simp; try with_reducible rfl)
    try simp only [Act.put, List.setIfInBounds_toArray, List.set_cons_zero, List.set_cons_succ, List.getElem_toArray, List.getElem_cons_zero, List.getElem_cons_succ]
    refine wpAnyH_done (by kernel_rfl) ?_ _
    refine NoPanic.normal ?_
    go_wp2
    all_goals (try simp only [Exit.inBlock, Exit.then])
    all_goals refine bodyPost_ret (v := .tuple #[.agg #[.int .i64 0, .int .i64 0, .slice none 0 0], .bool false]) (by simp only [results, Try.results25]; go_simp) rfl ?_
    all_goals exact ⟨tree_zero (w := X) (Y := Y.drew) HY.out.drew _ _ _, 0, 0, none, 0, 0, rfl, fun t q => by cases q⟩
  | some p =>
    obtain ⟨t, e0⟩ := p
    have hT := treeX_some hl hr
    have he := readX_loops hr
    have hlo := readX_at hr
    rw [HR.out] at hT
    obtain ⟨k, hk⟩ : ∃ k, Hid (t.kind = k) := ⟨_, rfl⟩
    obtain ⟨n, hn⟩ : ∃ n, Hid (t.num = n) := ⟨_, rfl⟩
    obtain ⟨l, hkl⟩ : ∃ l, Hid (t.kids.length = l) := ⟨_, rfl⟩
    have HO0 : Hid (∀ t2, R = some t2 → t2 = t) := fun t2 q => by
      rw [hT] at q
      split at q
      · exact (Option.some.inj q).symm
      · cases q
    go_enter Try.func25, Try.ntmps25
    go_upto_region 1 with fail
    rw [hX.out]
    clear hX
    go_upto_region 4 with (go_at_call 46; refine hread.mono ?_; rintro e w2 ⟨hB2, hno, hyes⟩; obtain ⟨la, lc, H, rfl, hs, hH⟩ := hyes t e0 hr; have HB2 : Hid (Below X.heap.size X w2) := hB2; have HS : Hid (Owns w2 false X.heap.size (kidsD t) (.slice la t.kids.length lc) H) := hs; have HH : Hid (∀ x, H x → X.heap.size ≤ x ∧ x < w2.heap.size) := hH; clear hB2 hno hyes hs hH)
    rw [hk.out, hn.out, hkl.out]
    have Z2 : Hid (w2.rowIs W.heap.size 53 3 (rowF [.int .i64 0, .int .i64 0, .slice none 0 0])) := RZ.out.of_block (HB2.out.block _ RZ.out.lt)
    have Z3 := Z2.out.alloc (.cells #[.int .i64 k, .int .i64 n, .slice la l lc] 53)
    obtain ⟨Y, hY⟩ : ∃ Y, Hid (w2.alloc (.cells #[.int .i64 k, .int .i64 n, .slice la l lc] 53) = Y) := ⟨_, rfl⟩
    have HYw : Hid (Below w2.heap.size w2 Y) := by show Below _ _ _; rw [← hY.out]; exact (Below.refl _ _).alloc (Nat.le_refl _) _
    have HY : Hid (Below W.heap.size W Y) := (HX.out.trans (HB2.out.mono HX.out.size)).trans (HYw.out.mono (Nat.le_trans HX.out.size HB2.out.size))
    have RY : Hid (Y.rowIs w2.heap.size 53 3 (rowF [.int .i64 k, .int .i64 n, .slice la l lc])) := by rw [← hY.out]; exact row_of w2 _ _
    rw [hY.out] at Z3 ⊢
    clear hY
    have hWX := HX.out.size
    have HOY : Hid (Owns Y false W.heap.size (kidsD t) (.slice la l lc) H) := by have q := (HS.out.kept HYw.out).low hWX; rw [hkl.out] at q; exact q
    have HHN : Hid (∀ x, H x → W.heap.size < x ∧ x < Y.heap.size) := fun x q => by have := HH.out x q; have := HYw.out.size; have := RZ.out.lt; omega
    have z0 : Y.cell? ⟨W.heap.size, 0, none⟩ = some (.int .i64 0) := Z3.cell (i := 0) (by decide)
    have z1 : Y.cell? ⟨W.heap.size, 1, none⟩ = some (.int .i64 0) := Z3.cell (i := 1) (by decide)
    have z2 : Y.cell? ⟨W.heap.size, 2, none⟩ = some (.slice none 0 0) := Z3.cell (i := 2) (by decide)
    have y0 := Z3.frozen 0
    have y1 := Z3.frozen 1
    have y2 := Z3.frozen 2
    have zl := Z3.lt
    have x0 : Y.cell? ⟨w2.heap.size, 0, none⟩ = some (.int .i64 k) := RY.out.cell (i := 0) (by decide)
    have x1 : Y.cell? ⟨w2.heap.size, 1, none⟩ = some (.int .i64 n) := RY.out.cell (i := 1) (by decide)
    have x2 : Y.cell? ⟨w2.heap.size, 2, none⟩ = some (.slice la l lc) := RY.out.cell (i := 2) (by decide)
    have xl := RY.out.lt
    have q1 : Y.drew.cell? ⟨w2.heap.size, 0, none⟩ = some (.int .i64 k) ∧ Y.drew.cell? ⟨w2.heap.size, 1, none⟩ = some (.int .i64 n) ∧ Y.drew.cell? ⟨w2.heap.size, 2, none⟩ = some (.slice la l lc) := ⟨x0, x1, x2⟩
    have hne : w2.heap.size ≠ W.heap.size := by have := Z2.out.lt; omega
    have q2 := fun u0 u1 u2 => far16s (A := W.heap.size) (w := Y) ⟨x0, x1, x2⟩ hne u0 u1 u2
    have e1 : decide ((e0 : Int) > 0) = true := decide_eq_true (by omega)
    have e2 : decide ((0 : Int) < (e0 : Int)) = true := decide_eq_true (by omega)
    have e3 : decide (0 < e0) = true := decide_eq_true (by omega)
    obtain ⟨b1, hb1⟩ : ∃ b, Hid (decide (e0 = len) = b) := ⟨_, rfl⟩
    clear Z3 hread he hlo
    by_cases hel : e0 = len
    rotate_left
    · have HE : Hid (R = none) := by show _ = _; rw [hT, if_neg (fun q => hel q.1)]
      have g0 : ((e0 : Int) == (len : Int)) = false := by simp; omega
      have g1 : decide ((e0 : Int) = (len : Int)) = false := decide_eq_false (by omega)
      have g2 : (e0 == len) = false := by simpa using hel
      have g3 : decide (e0 = len) = false := decide_eq_false hel
      clear hT hb1
      refine wp_region_noPanic ?_
      refine wp_region_held_drew (S := (fun w' => w'.cell? ⟨w2.heap.size, 0, none⟩ = some (.int .i64 k) ∧ w'.cell? ⟨w2.heap.size, 1, none⟩ = some (.int .i64 n) ∧ w'.cell? ⟨w2.heap.size, 2, none⟩ = some (.slice la l lc))) (by kernel_rfl) ?_ (fun hHeld => ?_)
      · (try dsimp only); exact q1
      refine wpAnyH_take (i := 0) (v := ?v9) rfl (by kernel_rfl) (by kernel_rfl) (by kernel_rfl) (fun _ _ _ h => h) (Or.inl ⟨by rfl, ?hy9⟩) (by assumption) ?_
      case hy9 => (intro w hSw; (try dsimp only at hSw); go_simp; try with_reducible rfl)
      try simp only [Act.put, List.setIfInBounds_toArray, List.set_cons_zero, List.set_cons_succ, List.getElem_toArray, List.getElem_cons_zero, List.getElem_cons_succ]
      refine wpAnyH_take (i := 1) (v := ?v10) rfl (by kernel_rfl) (by kernel_rfl) (by kernel_rfl) (fun _ _ _ h => h) (Or.inl ⟨by rfl, ?hy10⟩) (by assumption) ?_
      case hy10 => (intro w hSw; (try dsimp only at hSw); go_simp; try with_reducible rfl)
      try simp only [Act.put, List.setIfInBounds_toArray, List.set_cons_zero, List.set_cons_succ, List.getElem_toArray, List.getElem_cons_zero, List.getElem_cons_succ]
      refine wpAnyH_take (i := 2) (v := ?v11) rfl (by kernel_rfl) (by kernel_rfl) (by kernel_rfl) (fun _ _ _ h => h) (Or.inl ⟨by rfl, ?hy11⟩) (by assumption) ?_
      case hy11 => (intro w hSw; (try dsimp only at hSw); go_simp; try with_reducible rfl)
      try simp only [Act.put, List.setIfInBounds_toArray, List.set_cons_zero, List.set_cons_succ, List.getElem_toArray, List.getElem_cons_zero, List.getElem_cons_succ]
      refine wpAnyH_take (i := 3) (v := ?v12) rfl (by kernel_rfl) (by kernel_rfl) (by kernel_rfl) (fun _ _ _ h => h) (Or.inl ⟨by rfl, ?hy12⟩) (by assumption) ?_
      case hy12 => (intro w hSw; (try dsimp only at hSw); go_simp; try with_reducible rfl)
      try simp only [Act.put, List.setIfInBounds_toArray, List.set_cons_zero, List.set_cons_succ, List.getElem_toArray, List.getElem_cons_zero, List.getElem_cons_succ]
      refine wpAnyH_take (i := 4) (v := ?v13) rfl (by kernel_rfl) (by kernel_rfl) (by kernel_rfl) (fun _ _ _ h => h) (Or.inl ⟨by rfl, ?hy13⟩) (by assumption) ?_
      case hy13 => (intro w hSw; (try dsimp only at hSw); go_simp; try with_reducible rfl)
      try simp only [Act.put, List.setIfInBounds_toArray, List.set_cons_zero, List.set_cons_succ, List.getElem_toArray, List.getElem_cons_zero, List.getElem_cons_succ]
      refine wpAnyH_take (i := 5) (v := ?v14) rfl (by kernel_rfl) (by kernel_rfl) (by kernel_rfl) (fun _ _ _ h => h) (Or.inl ⟨by rfl, ?hy14⟩) (by assumption) ?_
      case hy14 => (intro w hSw; (try dsimp only at hSw); go_simp; try with_reducible rfl)
      try simp only [Act.put, List.setIfInBounds_toArray, List.set_cons_zero, List.set_cons_succ, List.getElem_toArray, List.getElem_cons_zero, List.getElem_cons_succ]
      refine wpAnyH_take (i := 6) (v := ?v15) rfl (by kernel_rfl) (by kernel_rfl) (by kernel_rfl) (fun _ _ _ h => h) (Or.inl ⟨by rfl, ?hy15⟩) (by assumption) ?_
      case hy15 => (intro w hSw; (try dsimp only at hSw); go_simp; try with_reducible rfl)
      try simp only [Act.put, List.setIfInBounds_toArray, List.set_cons_zero, List.set_cons_succ, List.getElem_toArray, List.getElem_cons_zero, List.getElem_cons_succ]
      refine wpAnyH_take (i := 7) (v := ?v16) rfl (by kernel_rfl) (by kernel_rfl) (by kernel_rfl) (fun _ _ _ h => h) (Or.inl ⟨by rfl, ?hy16⟩) (by assumption) ?_
      case hy16 => (intro w hSw; (try dsimp only at hSw); go_simp; try with_reducible rfl)
      try simp only [Act.put, List.setIfInBounds_toArray, List.set_cons_zero, List.set_cons_succ, List.getElem_toArray, List.getElem_cons_zero, List.getElem_cons_succ]
      refine wpAnyH_take (i := 8) (v := ?v17) rfl (by kernel_rfl) (by kernel_rfl) (by kernel_rfl) (fun _ _ _ h => h) (Or.inl ⟨by rfl, ?hy17⟩) (by assumption) ?_
      case hy17 => (intro w hSw; (try dsimp only at hSw); go_simp; try with_reducible rfl)
      try simp only [Act.put, List.setIfInBounds_toArray, List.set_cons_zero, List.set_cons_succ, List.getElem_toArray, List.getElem_cons_zero, List.getElem_cons_succ]
      refine wpAnyH_take (i := 9) (v := ?v18) rfl (by kernel_rfl) (by kernel_rfl) (by kernel_rfl) (fun _ _ _ h => h) (Or.inl ⟨by rfl, ?hy18⟩) (by assumption) ?_
      case hy18 => (intro w hSw; (try dsimp only at hSw); go_simp; try with_reducible rfl)
      try simp only [Act.put, List.setIfInBounds_toArray, List.set_cons_zero, List.set_cons_succ, List.getElem_toArray, List.getElem_cons_zero, List.getElem_cons_succ]
      refine wpAnyH_take (i := 10) (v := undef) rfl (by kernel_rfl) (by kernel_rfl) (by kernel_rfl) (fun _ _ _ h => h) (Or.inr ⟨by rfl, rfl⟩) (by assumption) ?_
      try simp only [Act.put, List.setIfInBounds_toArray, List.set_cons_zero, List.set_cons_succ, List.getElem_toArray, List.getElem_cons_zero, List.getElem_cons_succ]
      refine wpAnyH_take (i := 11) (v := undef) rfl (by kernel_rfl) (by kernel_rfl) (by kernel_rfl) (fun _ _ _ h => h) (Or.inr ⟨by rfl, rfl⟩) (by assumption) ?_
      try simp only [Act.put, List.setIfInBounds_toArray, List.set_cons_zero, List.set_cons_succ, List.getElem_toArray, List.getElem_cons_zero, List.getElem_cons_succ]
      refine wpAnyH_take (i := 12) (v := undef) rfl (by kernel_rfl) (by kernel_rfl) (by kernel_rfl) (fun _ _ _ h => h) (Or.inr ⟨by rfl, rfl⟩) (by assumption) ?_
      try simp only [Act.put, List.setIfInBounds_toArray, List.set_cons_zero, List.set_cons_succ, List.getElem_toArray, List.getElem_cons_zero, List.getElem_cons_succ]
      refine wpAnyH_take (i := 13) (v := ?v19) rfl (by kernel_rfl) (by kernel_rfl) (by kernel_rfl) (fun _ _ _ h => h) (Or.inl ⟨by rfl, ?hy19⟩) (by assumption) ?_
      case hy19 => (intro w hSw; (try dsimp only at hSw); go_simp; try with_reducible rfl)
      try simp only [Act.put, List.setIfInBounds_toArray, List.set_cons_zero, List.set_cons_succ, List.getElem_toArray, List.getElem_cons_zero, List.getElem_cons_succ]
      refine wpAnyH_ready (rs := [14]) (by kernel_rfl) (by simp) ?_
      refine AllReadyH.cons rfl (fun K hK => ?_) AllReadyH.nil
      go_simp
      refine hK.out _ _ ?_ (fun hHeld => ?_)
      · (try dsimp only); exact q2 _ _ _
      clear hK K
      try simp only [Act.put, List.setIfInBounds_toArray, List.set_cons_zero, List.set_cons_succ, List.getElem_toArray, List.getElem_cons_zero, List.getElem_cons_succ]
      refine wpAnyH_take (i := 15) (v := ?v20) rfl (by kernel_rfl) (by kernel_rfl) (by kernel_rfl) (fun _ _ _ h => h) (Or.inl ⟨by rfl, ?hy20⟩) (by assumption) ?_
      case hy20 => (intro w hSw; (try dsimp only at hSw); go_simp; try with_reducible rfl)
      try simp only [Act.put, List.setIfInBounds_toArray, List.set_cons_zero, List.set_cons_succ, List.getElem_toArray, List.getElem_cons_zero, List.getElem_cons_succ]
      refine wpAnyH_done (by kernel_rfl) ?_ _
      refine NoPanic.normal ?_
      go_wp2
      all_goals (try simp only [Exit.inBlock, Exit.then])
      all_goals refine bodyPost_ret (v := .tuple #[.agg #[.int .i64 k, .int .i64 n, .slice la l lc], .bool false]) (by simp only [results, Try.results25]; go_simp) rfl ?_
      all_goals exact ⟨tree_zero (w := X) (Y := Y.drew) HY.out.drew _ _ _, k, n, la, l, lc, by rw [HE.out]; rfl, fun t q => by rw [HE.out] at q; cases q⟩
    subst hel
    have g0 : ((e0 : Int) == (e0 : Int)) = true := by simp
    have g1 : decide ((e0 : Int) = (e0 : Int)) = true := by simp
    have hl3 : loopsX t ≤ 1000 := by have := readX_loops hr; omega
    obtain ⟨Q, hQ⟩ : ∃ Q, Hid (loopsX t = Q) := ⟨_, rfl⟩
    have hloop : Hid (∀ w, Hid (Holds w false (kidsD t) (.slice la l lc)) → Calls Try.prog 47 #[.agg #[.int .i64 k, .int .i64 n, .slice la l lc]] w fun e W' => e = .returned (.int .i64 (Q : Int)) ∧ Below w.heap.size w W') := fun w q => by
      have r := spec_loops t w la lc hl3 (by rw [hkl.out]; exact q)
      rw [hk.out, hn.out, hkl.out, hQ.out] at r
      exact r
    have HDY : Hid (Below Y.heap.size Y Y.drew) := (Below.refl Y.heap.size Y).drew
    have HHY : Hid (Holds Y.drew false (kidsD t) (.slice la l lc)) := HOY.out.holds.kept HDY.out
    have HEND : Hid (∀ w, Below W.heap.size W w → Owns w false W.heap.size (kidsD t) (.slice la l lc) H → Y.heap.size ≤ w.heap.size → TreeTo W R (.returned (.tuple #[.agg #[.int .i64 k, .int .i64 n, .slice la l lc], .bool (decide (Q ≤ 3))])) w) := fun w q1 q2 q3 => by
      refine ⟨q1, k, n, la, l, lc, ?_, fun t2 q => ?_⟩
      · congr 4
        rw [hT, ← hQ.out]
        by_cases h3 : loopsX t ≤ 3
        · rw [if_pos ⟨rfl, h3⟩, decide_eq_true h3]; rfl
        · rw [if_neg (fun q => h3 q.2), decide_eq_false h3]; rfl
      · rw [HO0.out t2 q]
        exact ⟨hk.out.symm, hn.out.symm, hkl.out.symm, H, q2, fun x hx => by have := HHN.out x hx; omega⟩
    clear hT HO0 hb1
    refine wp_region_noPanic ?_
    refine wp_region_held_drew (S := (fun w' => w'.cell? ⟨w2.heap.size, 0, none⟩ = some (.int .i64 k) ∧ w'.cell? ⟨w2.heap.size, 1, none⟩ = some (.int .i64 n) ∧ w'.cell? ⟨w2.heap.size, 2, none⟩ = some (.slice la l lc))) (by kernel_rfl) ?_ (fun hHeld => ?_)
    · (try dsimp only); exact q1
    refine wpAnyH_take (i := 0) (v := ?v21) rfl (by kernel_rfl) (by kernel_rfl) (by kernel_rfl) (fun _ _ _ h => h) (Or.inl ⟨by rfl, ?hy21⟩) (by assumption) ?_
    case hy21 => (intro w hSw; (try dsimp only at hSw); go_simp; try with_reducible rfl)
    try simp only [Act.put, List.setIfInBounds_toArray, List.set_cons_zero, List.set_cons_succ, List.getElem_toArray, List.getElem_cons_zero, List.getElem_cons_succ]
    refine wpAnyH_take (i := 1) (v := ?v22) rfl (by kernel_rfl) (by kernel_rfl) (by kernel_rfl) (fun _ _ _ h => h) (Or.inl ⟨by rfl, ?hy22⟩) (by assumption) ?_
    case hy22 => (intro w hSw; (try dsimp only at hSw); go_simp; try with_reducible rfl)
    try simp only [Act.put, List.setIfInBounds_toArray, List.set_cons_zero, List.set_cons_succ, List.getElem_toArray, List.getElem_cons_zero, List.getElem_cons_succ]
    refine wpAnyH_take (i := 2) (v := ?v23) rfl (by kernel_rfl) (by kernel_rfl) (by kernel_rfl) (fun _ _ _ h => h) (Or.inl ⟨by rfl, ?hy23⟩) (by assumption) ?_
    case hy23 => (intro w hSw; (try dsimp only at hSw); go_simp; try with_reducible rfl)
    try simp only [Act.put, List.setIfInBounds_toArray, List.set_cons_zero, List.set_cons_succ, List.getElem_toArray, List.getElem_cons_zero, List.getElem_cons_succ]
    refine wpAnyH_take (i := 3) (v := ?v24) rfl (by kernel_rfl) (by kernel_rfl) (by kernel_rfl) (fun _ _ _ h => h) (Or.inl ⟨by rfl, ?hy24⟩) (by assumption) ?_
    case hy24 => (intro w hSw; (try dsimp only at hSw); go_simp; try with_reducible rfl)
    try simp only [Act.put, List.setIfInBounds_toArray, List.set_cons_zero, List.set_cons_succ, List.getElem_toArray, List.getElem_cons_zero, List.getElem_cons_succ]
    refine wpAnyH_take (i := 4) (v := ?v25) rfl (by kernel_rfl) (by kernel_rfl) (by kernel_rfl) (fun _ _ _ h => h) (Or.inl ⟨by rfl, ?hy25⟩) (by assumption) ?_
    case hy25 => (intro w hSw; (try dsimp only at hSw); go_simp; try with_reducible rfl)
    try simp only [Act.put, List.setIfInBounds_toArray, List.set_cons_zero, List.set_cons_succ, List.getElem_toArray, List.getElem_cons_zero, List.getElem_cons_succ]
    refine wpAnyH_take (i := 5) (v := ?v26) rfl (by kernel_rfl) (by kernel_rfl) (by kernel_rfl) (fun _ _ _ h => h) (Or.inl ⟨by rfl, ?hy26⟩) (by assumption) ?_
    case hy26 => (intro w hSw; (try dsimp only at hSw); go_simp; try with_reducible rfl)
    try simp only [Act.put, List.setIfInBounds_toArray, List.set_cons_zero, List.set_cons_succ, List.getElem_toArray, List.getElem_cons_zero, List.getElem_cons_succ]
    refine wpAnyH_take (i := 6) (v := ?v27) rfl (by kernel_rfl) (by kernel_rfl) (by kernel_rfl) (fun _ _ _ h => h) (Or.inl ⟨by rfl, ?hy27⟩) (by assumption) ?_
    case hy27 => (intro w hSw; (try dsimp only at hSw); go_simp; try with_reducible rfl)
    try simp only [Act.put, List.setIfInBounds_toArray, List.set_cons_zero, List.set_cons_succ, List.getElem_toArray, List.getElem_cons_zero, List.getElem_cons_succ]
    refine wpAnyH_take (i := 7) (v := ?v28) rfl (by kernel_rfl) (by kernel_rfl) (by kernel_rfl) (fun _ _ _ h => h) (Or.inl ⟨by rfl, ?hy28⟩) (by assumption) ?_
    case hy28 => (intro w hSw; (try dsimp only at hSw); go_simp; try with_reducible rfl)
    try simp only [Act.put, List.setIfInBounds_toArray, List.set_cons_zero, List.set_cons_succ, List.getElem_toArray, List.getElem_cons_zero, List.getElem_cons_succ]
    refine wpAnyH_take (i := 8) (v := ?v29) rfl (by kernel_rfl) (by kernel_rfl) (by kernel_rfl) (fun _ _ _ h => h) (Or.inl ⟨by rfl, ?hy29⟩) (by assumption) ?_
    case hy29 => (intro w hSw; (try dsimp only at hSw); go_simp; try with_reducible rfl)
    try simp only [Act.put, List.setIfInBounds_toArray, List.set_cons_zero, List.set_cons_succ, List.getElem_toArray, List.getElem_cons_zero, List.getElem_cons_succ]
    refine wpAnyH_take (i := 9) (v := ?v30) rfl (by kernel_rfl) (by kernel_rfl) (by kernel_rfl) (fun _ _ _ h => h) (Or.inl ⟨by rfl, ?hy30⟩) (by assumption) ?_
    case hy30 => (intro w hSw; (try dsimp only at hSw); go_simp; try with_reducible rfl)
    try simp only [Act.put, List.setIfInBounds_toArray, List.set_cons_zero, List.set_cons_succ, List.getElem_toArray, List.getElem_cons_zero, List.getElem_cons_succ]
    refine wpAnyH_take (i := 10) (v := ?v31) rfl (by kernel_rfl) (by kernel_rfl) (by kernel_rfl) (fun _ _ _ h => h) (Or.inl ⟨by rfl, ?hy31⟩) (by assumption) ?_
    case hy31 => (intro w hSw; (try dsimp only at hSw); go_simp; try with_reducible rfl)
    try simp only [Act.put, List.setIfInBounds_toArray, List.set_cons_zero, List.set_cons_succ, List.getElem_toArray, List.getElem_cons_zero, List.getElem_cons_succ]
    refine wpAnyH_ready (rs := [11]) (by kernel_rfl) (by simp) ?_
    refine AllReadyH.cons rfl (fun K hK => ?_) AllReadyH.nil
    go_simp
    refine (hloop.out _ HHY).mono ?_; rintro e w5 ⟨rfl, hB5⟩; have B5 : Hid (Below Y.heap.size Y w5) := HDY.out.trans (hB5.mono HDY.out.size); clear hB5; have q5 : w5.cell? ⟨w2.heap.size, 0, none⟩ = some (.int .i64 k) ∧ w5.cell? ⟨w2.heap.size, 1, none⟩ = some (.int .i64 n) ∧ w5.cell? ⟨w2.heap.size, 2, none⟩ = some (.slice la l lc) := ⟨(B5.out.cell (p := ⟨w2.heap.size, 0, none⟩) xl).trans x0, (B5.out.cell (p := ⟨w2.heap.size, 1, none⟩) xl).trans x1, (B5.out.cell (p := ⟨w2.heap.size, 2, none⟩) xl).trans x2⟩; have o0 := (B5.out.cell (p := ⟨W.heap.size, 0, none⟩) zl).trans z0; have o1 := (B5.out.cell (p := ⟨W.heap.size, 1, none⟩) zl).trans z1; have o2 := (B5.out.cell (p := ⟨W.heap.size, 2, none⟩) zl).trans z2; have p0 := (World.frozen?_of_block (a := ⟨W.heap.size, 0, none⟩) (B5.out.block _ zl)).trans y0; have p1 := (World.frozen?_of_block (a := ⟨W.heap.size, 1, none⟩) (B5.out.block _ zl)).trans y1; have p2 := (World.frozen?_of_block (a := ⟨W.heap.size, 2, none⟩) (B5.out.block _ zl)).trans y2; have ol := Nat.lt_of_lt_of_le zl B5.out.size; go_wp2_with fail
    refine hK.out _ _ ?_ (fun hHeld => ?_)
    · (try dsimp only); exact q5
    clear hK K
    try simp only [Act.put, List.setIfInBounds_toArray, List.set_cons_zero, List.set_cons_succ, List.getElem_toArray, List.getElem_cons_zero, List.getElem_cons_succ]
    have q6 := fun u0 u1 u2 => far16n (A := W.heap.size) (w := w5) q5 hne u0 u1 u2
    refine wpAnyH_take (i := 12) (v := ?v32) rfl (by kernel_rfl) (by kernel_rfl) (by kernel_rfl) (fun _ _ _ h => h) (Or.inl ⟨by rfl, ?hy32⟩) (by assumption) ?_
    case hy32 => (intro w hSw; (try dsimp only at hSw); go_simp; try with_reducible rfl)
    try simp only [Act.put, List.setIfInBounds_toArray, List.set_cons_zero, List.set_cons_succ, List.getElem_toArray, List.getElem_cons_zero, List.getElem_cons_succ]
    refine wpAnyH_take (i := 13) (v := ?v33) rfl (by kernel_rfl) (by kernel_rfl) (by kernel_rfl) (fun _ _ _ h => h) (Or.inl ⟨by rfl, ?hy33⟩) (by assumption) ?_
    case hy33 => (intro w hSw; (try dsimp only at hSw); go_simp; try with_reducible rfl)
    try simp only [Act.put, List.setIfInBounds_toArray, List.set_cons_zero, List.set_cons_succ, List.getElem_toArray, List.getElem_cons_zero, List.getElem_cons_succ]
    refine wpAnyH_ready (rs := [14]) (by kernel_rfl) (by simp) ?_
    refine AllReadyH.cons rfl (fun K hK => ?_) AllReadyH.nil
    go_simp
    refine hK.out _ _ ?_ (fun hHeld => ?_)
    · (try dsimp only); exact q6 _ _ _
    clear hK K
    try simp only [Act.put, List.setIfInBounds_toArray, List.set_cons_zero, List.set_cons_succ, List.getElem_toArray, List.getElem_cons_zero, List.getElem_cons_succ]
    refine wpAnyH_take (i := 15) (v := ?v34) rfl (by kernel_rfl) (by kernel_rfl) (by kernel_rfl) (fun _ _ _ h => h) (Or.inl ⟨by rfl, ?hy34⟩) (by assumption) ?_
    case hy34 => (intro w hSw; (try dsimp only at hSw); go_simp; try with_reducible rfl)
    try simp only [Act.put, List.setIfInBounds_toArray, List.set_cons_zero, List.set_cons_succ, List.getElem_toArray, List.getElem_cons_zero, List.getElem_cons_succ]
    refine wpAnyH_done (by kernel_rfl) ?_ _
    refine NoPanic.normal ?_
    go_wp2
    (try simp only [Exit.inBlock, Exit.then])
    refine bodyPost_ret (v := .tuple #[.agg #[.int .i64 k, .int .i64 n, .slice la l lc], .bool (decide (Q ≤ 3))]) (by simp only [results, Try.results25]; go_simp; omega) rfl ?_
    refine HEND.out _ (tree_zero (w := X) (Y := w5) (HY.out.trans (B5.out.mono HY.out.size)) _ _ _) ?_ ?_
    · refine (HOY.out.kept B5.out).agree (by simp [World.setCell]) (fun y hy _ => ?_)
      have hny : y ≠ W.heap.size := by have := (HHN.out y hy).1; omega
      exact (Below.heap_setCell _ _ _ _ (by show y ≠ W.heap.size; exact hny)).trans ((Below.heap_setCell _ _ _ _ (by show y ≠ W.heap.size; exact hny)).trans (Below.heap_setCell _ _ _ _ (by show y ≠ W.heap.size; exact hny)))
    · have := B5.out.size; simpa [World.setCell] using this

theorem spec_goodtree2 (a : Option Addr) (len cap : Nat) (zs : List Int) (W : World) (hz : Hid (zs.length = len * 2)) (hlen : len ≤ 1048576) (h : Hid (Ints W a zs)) :
    Calls Try.prog 8 #[.slice a len cap] W fun e W' => e = .returned (.bool (goodX (kdX zs) (nnX zs) len)) ∧ Below W.heap.size W W' := by
  obtain ⟨R, HR⟩ : ∃ R, Hid (treeX (kdX zs) (nnX zs) len = R) := ⟨_, rfl⟩
  have ht := spec_tree a len cap zs W hz hlen h R HR
  obtain ⟨G, HG⟩ : ∃ G, Hid (R.isSome = G) := ⟨_, rfl⟩
  rw [show goodX (kdX zs) (nnX zs) len = G by unfold goodX; rw [HR.out, HG.out]]
  go_enter Try.func8, Try.ntmps8
  go_wp2_with (go_at_call 25; refine ht.mono ?_; rintro e w2 ⟨hB, k, n, la, l, lc, rfl, hh⟩; rw [HG.out]; have HB : Hid (Below W.heap.size W w2) := hB; clear hB hh)
  go_ret
  exact ⟨rfl, HB.out.alloc HB.out.size _⟩
end Go.Proofs.Ytbjfhcbgghpdaaa.walks
