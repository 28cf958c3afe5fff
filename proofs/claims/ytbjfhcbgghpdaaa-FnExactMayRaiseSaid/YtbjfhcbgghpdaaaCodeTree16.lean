/-
  What the program's codeTreeOf and GoodTree2 answer.
-/
import Derived.Test.YtbjfhcbgghpdaaaProg
import Derived.Test.YtbjfhcbgghpdaaaMagMath
import Derived.Test.YtbjfhcbgghpdaaaInts
import Derived.Test.YtbjfhcbgghpdaaaDeep
import Derived.Test.YtbjfhcbgghpdaaaDeepRow
import Derived.Test.YtbjfhcbgghpdaaaTreeMath16
import Derived.Test.YtbjfhcbgghpdaaaDeepGrow
import Derived.Test.YtbjfhcbgghpdaaaOwnMath
import Derived.Test.YtbjfhcbgghpdaaaTreeMem16
import Derived.Test.YtbjfhcbgghpdaaaLineMath
import Derived.Test.YtbjfhcbgghpdaaaLineStep
import Derived.Test.YtbjfhcbgghpdaaaCellBase16
import Derived.Test.YtbjfhcbgghpdaaaReadSpec16
import Derived.Test.YtbjfhcbgghpdaaaTreeSpec16
import Derived.Test.YtbjfhcbgghpdaaaFromImpl16
import Derived.Deep.RegionWith
import Derived.Deep.RegionHeld3
import Derived.Deep.DeepFit
import Derived.Deep.DeepCutAuto
import Derived.WalkKit
import Derived.WalkSpells
import Derived.Below
import Derived.Handy
import Derived.OwnWalk
namespace Go.Proofs.Ytbjfhcbgghpdaaa.walks
open Go.RowKit Go.Proofs.Ytbjfhcbgghpdaaa.math Go.Proofs.Ytbjfhcbgghpdaaa.ints Go.Proofs.Ytbjfhcbgghpdaaa.deep
set_option linter.unusedVariables false
set_option maxRecDepth 100000


theorem treeX_readI {kd nn : Nat → Int} {len : Nat} (h : len ≤ 30) : treeX kd nn len = (match readI kd nn len (len + 1) 0 0 with
      | none => none
      | some (t, e) => if e = len then some t else none) := by
  unfold treeX
  rw [if_pos h, readI_eq]
  cases hr : readX kd nn len (len + 1) 0 with
  | none => rfl
  | some p =>
    obtain ⟨t, e⟩ := p
    simp only [lim, Nat.zero_add]
    by_cases h3 : loopsX t ≤ 3
    · rw [if_pos h3]
      by_cases he : e = len
      · simp [h3, he]
      · simp [he]
    · rw [if_neg h3]; simp [h3]
set_option maxHeartbeats 4000000 in
theorem impl_tree (a : Option Addr) (len cap : Nat) (zs : List Int) (W : World) (hz : Hid (zs.length = len * 2)) (hc1 : len ≤ cap) (hc2 : cap ≤ 1048576) (h : Hid (Ints W a zs)) (R : Option XT) (HR : Hid (treeX (kdX zs) (nnX zs) len = R)) :
    Calls Try.prog 27 #[.slice a len cap] W fun e W' => TreeTo W R e W' := by
  obtain ⟨X, hX⟩ : ∃ X, Hid (W.alloc (.cells #[.int .i64 0, .int .i64 0, .slice none 0 0] 62) = X) := ⟨_, rfl⟩
  have HX : Hid (Below W.heap.size W X) := by show Below _ _ _; rw [← hX.out]; exact (Below.refl _ _).alloc (Nat.le_refl _) _
  have RZ : Hid (X.rowIs W.heap.size 62 3 (rowF [.int .i64 0, .int .i64 0, .slice none 0 0])) := by rw [← hX.out]; exact row_of W _ _
  by_cases hl : len ≤ 30
  rotate_left
  · have d1 : decide ((len : Int) > 30) = true := decide_eq_true (by omega)
    have d2 : decide ((30 : Int) < (len : Int)) = true := decide_eq_true (by omega)
    have d3 : decide (30 < len) = true := decide_eq_true (by omega)
    have HE : Hid (R = none) := by show _ = _; rw [← HR.out]; unfold treeX; rw [if_neg hl]
    rw [HE.out]
    have z0 : X.cell? ⟨W.heap.size, 0, none⟩ = some (.int .i64 0) := RZ.out.cell (i := 0) (by decide)
    have z1 : X.cell? ⟨W.heap.size, 1, none⟩ = some (.int .i64 0) := RZ.out.cell (i := 1) (by decide)
    have z2 : X.cell? ⟨W.heap.size, 2, none⟩ = some (.slice none 0 0) := RZ.out.cell (i := 2) (by decide)
    have y0 := RZ.out.frozen 0
    have y1 := RZ.out.frozen 1
    have y2 := RZ.out.frozen 2
    have zl := RZ.out.lt
    clear hl HE
    go_enter Try.func27, Try.ntmps27
    go_upto_region 1 with fail
    rw [hX.out]
    go_wp2
    (try simp only [Exit.inBlock, Exit.then])
    refine bodyPost_ret (v := .tuple #[.agg #[.int .i64 0, .int .i64 0, .slice none 0 0], .bool false]) (by simp only [results, Try.results27]; go_simp) rfl ?_
    exact ⟨tree_zero (w := X) HX.out _ _ _, 0, 0, none, 0, 0, rfl, fun t q => by cases q⟩
  have d1 : decide ((len : Int) > 30) = false := decide_eq_false (by omega)
  have d2 : decide ((30 : Int) < (len : Int)) = false := decide_eq_false (by omega)
  have d3 : decide (30 < len) = false := decide_eq_false (by omega)
  have hread := impl_tfrom zs len hz hl (len + 1) 0 len 0 W X HX a cap (by omega) (by omega) (by omega) hc1 hc2 (by simpa using h)
  have hT := treeX_readI (kd := kdX zs) (nn := nnX zs) hl
  rw [HR.out] at hT
  cases hr : readI (kdX zs) (nnX zs) len (len + 1) 0 0 with
  | none =>
    have HE : Hid (R = none) := by show _ = _; rw [hT, hr]
    rw [HE.out]
    clear HE hT
    go_enter Try.func27, Try.ntmps27
    go_upto_region 1 with fail
    rw [hX.out]
    clear hX
    go_upto_region 4 with (go_at_call 48; refine hread.mono ?_; rintro e w2 ⟨hB2, hno, hyes⟩; obtain rfl := hno hr; have HB2 : Hid (Below X.heap.size X w2) := hB2; clear hB2 hno hyes)
    have Z2 : Hid (w2.rowIs W.heap.size 62 3 (rowF [.int .i64 0, .int .i64 0, .slice none 0 0])) := RZ.out.of_block (HB2.out.block _ RZ.out.lt)
    have Z3 := Z2.out.alloc (.cells #[.int .i64 0, .int .i64 0, .slice none 0 0] 62)
    obtain ⟨Y, hY⟩ : ∃ Y, Hid (w2.alloc (.cells #[.int .i64 0, .int .i64 0, .slice none 0 0] 62) = Y) := ⟨_, rfl⟩
    have HY : Hid (Below W.heap.size W Y) := by show Below _ _ _; rw [← hY.out]; exact (HX.out.trans (HB2.out.mono HX.out.size)).alloc (Nat.le_trans HX.out.size HB2.out.size) _
    have RY : Hid (Y.rowIs w2.heap.size 62 3 (rowF [.int .i64 0, .int .i64 0, .slice none 0 0])) := by rw [← hY.out]; exact row_of w2 _ _
    rw [hY.out] at Z3 ⊢
    clear hY
    have z0 : Y.cell? ⟨W.heap.size, 0, none⟩ = some (.int .i64 0) := Z3.cell (i := 0) (by decide)
    have z1 : Y.cell? ⟨W.heap.size, 1, none⟩ = some (.int .i64 0) := Z3.cell (i := 1) (by decide)
    have z2 : Y.cell? ⟨W.heap.size, 2, none⟩ = some (.slice none 0 0) := Z3.cell (i := 2) (by decide)
    have y0 := Z3.frozen 0
    have y1 := Z3.frozen 1
    have y2 := Z3.frozen 2
    have zl := Z3.lt
    have x0 : Y.cell? ⟨w2.heap.size, 0, none⟩ = some (.int .i64 0) := RY.out.cell (i := 0) (by decide)
    have x1 : Y.cell? ⟨w2.heap.size, 1, none⟩ = some (.int .i64 0) := RY.out.cell (i := 1) (by decide)
    have x2 : Y.cell? ⟨w2.heap.size, 2, none⟩ = some (.slice none 0 0) := RY.out.cell (i := 2) (by decide)
    have xl := RY.out.lt
    clear Z3
    go_wp2
    (try simp only [Exit.inBlock, Exit.then])
    refine bodyPost_ret (v := .tuple #[.agg #[.int .i64 0, .int .i64 0, .slice none 0 0], .bool false]) (by simp only [results, Try.results27]; go_simp) rfl ?_
    exact ⟨tree_zero (w := X) (Y := Y) HY.out _ _ _, 0, 0, none, 0, 0, rfl, fun t q => by cases q⟩
  | some p =>
    obtain ⟨t, e0⟩ := p
    rw [hr] at hT
    simp only at hT
    obtain ⟨k, hk⟩ : ∃ k, Hid (t.kind = k) := ⟨_, rfl⟩
    obtain ⟨n, hn⟩ : ∃ n, Hid (t.num = n) := ⟨_, rfl⟩
    obtain ⟨l, hkl⟩ : ∃ l, Hid (t.kids.length = l) := ⟨_, rfl⟩
    go_enter Try.func27, Try.ntmps27
    go_upto_region 1 with fail
    rw [hX.out]
    clear hX
    go_upto_region 4 with (go_at_call 48; refine hread.mono ?_; rintro e w2 ⟨hB2, hno, hyes⟩; obtain ⟨la, lc, H, a4, m4, c4, rfl, ⟨hs, hH⟩, hm4, hi4, hc5, hc6⟩ := hyes t e0 hr; have HB2 : Hid (Below X.heap.size X w2) := hB2; have HS : Hid (Owns w2 false X.heap.size (kidsD t) (.slice la t.kids.length lc) H) := hs; have HH : Hid (∀ x, H x → X.heap.size ≤ x ∧ x < w2.heap.size) := hH; clear hB2 hno hyes hs hH hi4)
    rw [hk.out, hn.out, hkl.out]
    have Z2 : Hid (w2.rowIs W.heap.size 62 3 (rowF [.int .i64 0, .int .i64 0, .slice none 0 0])) := RZ.out.of_block (HB2.out.block _ RZ.out.lt)
    have Z3 := Z2.out.alloc (.cells #[.int .i64 k, .int .i64 n, .slice la l lc] 62)
    obtain ⟨Y, hY⟩ : ∃ Y, Hid (w2.alloc (.cells #[.int .i64 k, .int .i64 n, .slice la l lc] 62) = Y) := ⟨_, rfl⟩
    have HYw : Hid (Below w2.heap.size w2 Y) := by show Below _ _ _; rw [← hY.out]; exact (Below.refl _ _).alloc (Nat.le_refl _) _
    have HY : Hid (Below W.heap.size W Y) := (HX.out.trans (HB2.out.mono HX.out.size)).trans (HYw.out.mono (Nat.le_trans HX.out.size HB2.out.size))
    have RY : Hid (Y.rowIs w2.heap.size 62 3 (rowF [.int .i64 k, .int .i64 n, .slice la l lc])) := by rw [← hY.out]; exact row_of w2 _ _
    rw [hY.out] at Z3 ⊢
    clear hY
    have hWX := HX.out.size
    have HOY : Hid (Owns Y false W.heap.size (kidsD t) (.slice la l lc) H) := by have q := (HS.out.kept HYw.out).low hWX; rw [hkl.out] at q; exact q
    have HHN : Hid (∀ x, H x → W.heap.size < x ∧ x < Y.heap.size) := fun x q => by have := HH.out x q; have := HYw.out.size; have := RZ.out.lt; omega
    have z0 : Y.cell? ⟨W.heap.size, 0, none⟩ = some (.int .i64 0) := Z3.cell (i := 0) (by decide)
    have z1 : Y.cell? ⟨W.heap.size, 1, none⟩ = some (.int .i64 0) := Z3.cell (i := 1) (by decide)
    have z2 : Y.cell? ⟨W.heap.size, 2, none⟩ = some (.slice none 0 0) := Z3.cell (i := 2) (by decide)
    have y0 := Z3.frozen 0
    have y1 := Z3.frozen 1
    have y2 := Z3.frozen 2
    have zl := Z3.lt
    have x0 : Y.cell? ⟨w2.heap.size, 0, none⟩ = some (.int .i64 k) := RY.out.cell (i := 0) (by decide)
    have x1 : Y.cell? ⟨w2.heap.size, 1, none⟩ = some (.int .i64 n) := RY.out.cell (i := 1) (by decide)
    have x2 : Y.cell? ⟨w2.heap.size, 2, none⟩ = some (.slice la l lc) := RY.out.cell (i := 2) (by decide)
    have xl := RY.out.lt
    clear Z3 hread
    by_cases hel : e0 = len
    rotate_left
    · have HE : Hid (R = none) := by show _ = _; rw [hT, if_neg hel]
      have g0 : ((m4 : Int) == 0) = false := by simp; omega
      have g1 : decide ((m4 : Int) = 0) = false := decide_eq_false (by omega)
      have g2 : (m4 == 0) = false := by simp; omega
      have g3 : decide (m4 = 0) = false := decide_eq_false (by omega)
      clear hT
      go_wp2
      (try simp only [Exit.inBlock, Exit.then])
      refine bodyPost_ret (v := .tuple #[.agg #[.int .i64 k, .int .i64 n, .slice la l lc], .bool false]) (by simp only [results, Try.results27]; go_simp) rfl ?_
      exact ⟨tree_zero (w := X) (Y := Y) HY.out _ _ _, k, n, la, l, lc, by rw [HE.out]; rfl, fun t q => by rw [HE.out] at q; cases q⟩
    · have HE : Hid (R = some t) := by show _ = _; rw [hT, if_pos hel]
      obtain rfl : m4 = 0 := by omega
      clear hT
      go_wp2
      (try simp only [Exit.inBlock, Exit.then])
      refine bodyPost_ret (v := .tuple #[.agg #[.int .i64 k, .int .i64 n, .slice la l lc], .bool true]) (by simp only [results, Try.results27]; go_simp) rfl ?_
      refine ⟨tree_zero (w := X) (Y := Y) HY.out _ _ _, k, n, la, l, lc, by rw [HE.out]; rfl, fun t2 q => ?_⟩
      rw [HE.out] at q
      have q := Option.some.inj q
      rw [← q]
      refine ⟨hk.out.symm, hn.out.symm, hkl.out.symm, H, ?_, fun x hx => ⟨by have := (HHN.out x hx).1; omega, by simpa [World.setCell] using (HHN.out x hx).2⟩⟩
      refine HOY.out.agree (by simp [World.setCell]) (fun y hy _ => ?_)
      have hny : y ≠ W.heap.size := by have := (HHN.out y hy).1; omega
      exact (Below.heap_setCell _ _ _ _ (by show y ≠ W.heap.size; exact hny)).trans ((Below.heap_setCell _ _ _ _ (by show y ≠ W.heap.size; exact hny)).trans (Below.heap_setCell _ _ _ _ (by show y ≠ W.heap.size; exact hny)))
theorem impl_goodtree2 (a : Option Addr) (len cap : Nat) (zs : List Int) (W : World) (hz : Hid (zs.length = len * 2)) (hc1 : len ≤ cap) (hc2 : cap ≤ 1048576) (h : Hid (Ints W a zs)) :
    Calls Try.prog 10 #[.slice a len cap] W fun e W' => e = .returned (.bool (goodX (kdX zs) (nnX zs) len)) ∧ Below W.heap.size W W' := by
  obtain ⟨R, HR⟩ : ∃ R, Hid (treeX (kdX zs) (nnX zs) len = R) := ⟨_, rfl⟩
  have ht := impl_tree a len cap zs W hz hc1 hc2 h R HR
  obtain ⟨G, HG⟩ : ∃ G, Hid (R.isSome = G) := ⟨_, rfl⟩
  rw [show goodX (kdX zs) (nnX zs) len = G by unfold goodX; rw [HR.out, HG.out]]
  go_enter Try.func10, Try.ntmps10
  go_wp2_with (go_at_call 27; refine ht.mono ?_; rintro e w2 ⟨hB, k, n, la, l, lc, rfl, hh⟩; rw [HG.out]; have HB : Hid (Below W.heap.size W w2) := hB; clear hB hh)
  go_ret
  exact ⟨rfl, HB.out.alloc HB.out.size _⟩
end Go.Proofs.Ytbjfhcbgghpdaaa.walks
