/-
  The tree that the program's treeFrom reads.
-/
import Derived.Test.YtbjfhcbgghpdaaaProg
import Derived.Test.YtbjfhcbgghpdaaaMagMath
import Derived.Test.YtbjfhcbgghpdaaaInts
import Derived.Test.YtbjfhcbgghpdaaaDeep
import Derived.Test.YtbjfhcbgghpdaaaDeepRow
import Derived.Test.YtbjfhcbgghpdaaaTreeMath16
import Derived.Test.YtbjfhcbgghpdaaaDeepGrow
import Derived.Test.YtbjfhcbgghpdaaaOwnMath
import Derived.Test.YtbjfhcbgghpdaaaTreeMem16
import Derived.Test.YtbjfhcbgghpdaaaLineMath
import Derived.Test.YtbjfhcbgghpdaaaLineStep
import Derived.Test.YtbjfhcbgghpdaaaCellBase16
import Derived.Test.YtbjfhcbgghpdaaaReadSpec16
import Derived.Deep.RegionWith
import Derived.Deep.RegionHeld3
import Derived.Deep.DeepFit
import Derived.Deep.DeepCutAuto
import Derived.WalkKit
import Derived.WalkSpells
import Derived.Below
import Derived.Handy
import Derived.OwnWalk
namespace Go.Proofs.Ytbjfhcbgghpdaaa.walks
open Go.RowKit Go.Proofs.Ytbjfhcbgghpdaaa.math Go.Proofs.Ytbjfhcbgghpdaaa.ints Go.Proofs.Ytbjfhcbgghpdaaa.deep
set_option linter.unusedVariables false
set_option maxRecDepth 100000


theorem drop_len (zs : List Int) {at' m len : Nat} (hz : zs.length = len * 2) (hm : at' + m = len) : (zs.drop (at' * 2)).length = m * 2 := by
  rw [List.length_drop, hz]; omega
theorem drop_at (zs : List Int) (at' i : Nat) : (zs.drop (at' * 2)).getD i 0 = zs.getD (at' * 2 + i) 0 := by
  simp [List.getD_eq_getElem?_getD]
/-- The first cell of what is left. -/
theorem xcell_first {W wr : World} {a : Option Addr} {zs : List Int} {at' m len : Nat} (h : Ints W a (zs.drop (at' * 2))) (hz : zs.length = len * 2) (hm : at' + m = len) (hB : Below W.heap.size W wr) (hp : 0 < m) : ∃ b o, a = some ⟨b, o, none⟩ ∧ b < W.heap.size ∧ wr.cell? ⟨b, o, none⟩ = some (.int .i64 (kdX zs at')) ∧ wr.cell? ⟨b, o + 1, none⟩ = some (.int .i64 (nnX zs at')) := by
  have hl := drop_len zs hz hm
  rcases h with h | ⟨b, o, rfl, hb, hc⟩
  · rw [h] at hl; simp at hl; omega
  · refine ⟨b, o, rfl, hb, ?_, ?_⟩
    · have q := hc 0 (by omega)
      rw [drop_at] at q
      exact (hB.cell (p := ⟨b, o, none⟩) hb).trans q
    · have q := hc 1 (by omega)
      rw [drop_at] at q
      exact (hB.cell (p := ⟨b, o + 1, none⟩) hb).trans q
/-- What is left behind it. -/
theorem ints_next {W : World} {b o : Nat} {zs : List Int} {at' m len cap : Nat} (h : Ints W (some ⟨b, o, none⟩) (zs.drop (at' * 2))) (hz : zs.length = len * 2) (hm : at' + m = len) (hp : 0 < m) (hc : m ≤ cap) : Ints W (if cap = 1 then some ⟨b, o, none⟩ else some ⟨b, o + 2, none⟩) (zs.drop ((at' + 1) * 2)) := by
  have hl := drop_len zs hz hm
  have hl2 := drop_len zs hz (show (at' + 1) + (m - 1) = len by omega)
  by_cases h1 : cap = 1
  · exact Or.inl (List.eq_nil_of_length_eq_zero (by omega))
  · rw [if_neg h1]
    rcases h with h | ⟨b2, o2, e, hb, hc⟩
    · rw [h] at hl; simp at hl; omega
    · simp only [Option.some.injEq, Addr.mk.injEq, and_true] at e
      obtain ⟨rfl, rfl⟩ := e
      refine Or.inr ⟨b, o + 2, rfl, hb, fun i hi => ?_⟩
      have q := hc (2 + i) (by omega)
      rw [drop_at] at q ⊢
      rw [show (at' + 1) * 2 + i = at' * 2 + (2 + i) by omega, Nat.add_assoc]
      exact q
/-- What a reading comes to. -/
def FromTo (V W : World) (zs : List Int) (len : Nat) (r : Option (XT × Nat)) (e : Ending) (W' : World) : Prop := Below W.heap.size W W' ∧ (r = none → e = .returned (.tuple #[.agg #[.int .i64 0, .int .i64 0, .slice none 0 0], .slice none 0 0, .bool false])) ∧ ∀ t x, r = some (t, x) → ∃ la lc F a2 m2 c2, e = .returned (.tuple #[.agg #[.int .i64 t.kind, .int .i64 t.num, .slice la t.kids.length lc], .slice a2 m2 c2, .bool true]) ∧ (Owns W' false W.heap.size (kidsD t) (.slice la t.kids.length lc) F ∧ ∀ x, F x → W.heap.size ≤ x ∧ x < W'.heap.size) ∧ x + m2 = len ∧ Ints V a2 (zs.drop (x * 2)) ∧ m2 ≤ c2 ∧ c2 ≤ 1048576
theorem readI_no {kd nn : Nat → Int} {len f at' l : Nat} (h : ¬ (at' < len ∧ cellX (kd at') (nn at') = true)) : readI kd nn len (f + 1) at' l = none := by
  unfold readI; rw [if_neg h]
theorem readI_many {kd nn : Nat → Int} {len f at' l : Nat} (h : ¬ l + (if kd at' = 6 then 1 else 0) ≤ 3) : readI kd nn len (f + 1) at' l = none := by
  unfold readI
  by_cases hc : at' < len ∧ cellX (kd at') (nn at') = true
  · rw [if_pos hc, if_neg h]
  · rw [if_neg hc]
theorem readI_yes {kd nn : Nat → Int} {len f at' l l2 : Nat} (h : at' < len) (hc : cellX (kd at') (nn at') = true) (hl : l + (if kd at' = 6 then 1 else 0) = l2) (h3 : l2 ≤ 3) : readI kd nn len (f + 1) at' l = (match readK (fun x => readI kd nn len f x l2) (arX (kd at')) (at' + 1) with
       | none => none
       | some (ts, e) => some (mkX (kd at') (nn at') ts, e)) := by
  subst hl
  rw [readI, if_pos ⟨h, hc⟩, if_pos h3]; rfl
theorem readI_at {kd nn : Nat → Int} {len f at' l : Nat} {t : XT} {e : Nat} (h : readI kd nn len f at' l = some (t, e)) : at' < e ∧ e ≤ len := by
  rw [readI_eq] at h
  cases hr : readX kd nn len f at' with
  | none => rw [hr] at h; cases h
  | some p =>
    obtain ⟨t1, e1⟩ := p
    rw [hr] at h
    unfold lim at h
    split at h
    · cases h
    · rename_i q
      split at h
      · simp only [Option.some.injEq, Prod.mk.injEq] at q h
        have := readX_at hr
        omega
      · cases h

set_option maxHeartbeats 8000000 in
theorem impl_tfrom (zs : List Int) (len : Nat) (hz : Hid (zs.length = len * 2)) (hlen : len ≤ 30) : ∀ (f at' m l : Nat) (V W : World) (hV : Hid (Below V.heap.size V W)) (a : Option Addr) (cap : Nat) (hm : at' + m = len) (hf : len < at' + f) (hl : l ≤ 3) (hc1 : m ≤ cap) (hc2 : cap ≤ 1048576) (h : Hid (Ints V a (zs.drop (at' * 2)))),
    Calls Try.prog 48 #[.slice a m cap, .int .i64 l] W fun e W' => FromTo V W zs len (readI (kdX zs) (nnX zs) len f at' l) e W'
  | 0, at', m, l, V, W, hV, a, cap, hm, hf, hl, hc1, hc2, h => by omega
  | f + 1, at', m, l, V, W, hV, a, cap, hm, hf, hl, hc1, hc2, h => by
    obtain ⟨i0, hi0, hz0, hz1, hz2⟩ := parts_of (P := Try.prog) (e := 62) (z := .agg #[.int .i64 0, .int .i64 0, .slice none 0 0]) (a := 3) (b := 40) (by kernel_rfl)
    obtain ⟨X, hX⟩ : ∃ X, Hid (W.alloc (.cells #[.int .i64 0, .int .i64 0, .slice none 0 0] 62) = X) := ⟨_, rfl⟩
    have HX : Hid (Below W.heap.size W X) := by show Below _ _ _; rw [← hX.out]; exact (Below.refl _ _).alloc (Nat.le_refl _) _
    have RZ : Hid (X.rowIs W.heap.size 62 3 (rowF [.int .i64 0, .int .i64 0, .slice none 0 0])) := by rw [← hX.out]; exact row_of W #[.int .i64 0, .int .i64 0, .slice none 0 0] _
    by_cases hp : 0 < m
    rotate_left
    · obtain rfl : m = 0 := by omega
      have HE : Hid (readI (kdX zs) (nnX zs) len (f + 1) at' l = none) := readI_no (fun q => by have := q.1; omega)
      rw [HE.out]
      have z0 : X.cell? ⟨W.heap.size, 0, none⟩ = some (.int .i64 0) := RZ.out.cell (i := 0) (by decide)
      have z1 : X.cell? ⟨W.heap.size, 1, none⟩ = some (.int .i64 0) := RZ.out.cell (i := 1) (by decide)
      have z2 : X.cell? ⟨W.heap.size, 2, none⟩ = some (.slice none 0 0) := RZ.out.cell (i := 2) (by decide)
      have y0 := RZ.out.frozen 0
      have y1 := RZ.out.frozen 1
      have y2 := RZ.out.frozen 2
      have zl := RZ.out.lt
      clear hp HE hi0 hz0 hz1 hz2
      go_enter Try.func48, Try.ntmps48
      go_upto_region 1 with fail
      rw [hX.out]
      go_wp2
      (try simp only [Exit.inBlock, Exit.then])
      refine bodyPost_ret (v := .tuple #[.agg #[.int .i64 0, .int .i64 0, .slice none 0 0], .slice none 0 0, .bool false]) (by simp only [results, Try.results48]; go_simp) rfl ?_
      refine ⟨?_, fun _ => rfl, fun t x q => by cases q⟩
      refine Below.trans HX.out ?_
      iterate 3 refine Below.setCell ?_ (by show W.heap.size ≤ W.heap.size; omega) _
      exact Below.refl _ _
    have p0 : ((m : Int) == 0) = false := by simp; omega
    have p1 : decide ((m : Int) = 0) = false := decide_eq_false (by omega)
    have p2 : (m == 0) = false := by simp; omega
    have p3 : decide (m = 0) = false := decide_eq_false (by omega)
    have p4 : (0 : Int) < (m : Int) := by omega
    obtain ⟨b, o, hab, hb, c0, c1⟩ := xcell_first h.out hz.out hm (hV.out.trans (HX.out.mono hV.out.size)) hp
    subst hab
    have hcell := impl_cell16 (kdX zs at') (nnX zs at') X
    have hbX : b < X.heap.size := by have := HX.out.size; have := hV.out.size; omega
    obtain ⟨k, ek⟩ : ∃ k, Hid (kdX zs at' = k) := ⟨_, rfl⟩
    obtain ⟨n, en⟩ : ∃ n, Hid (nnX zs at' = n) := ⟨_, rfl⟩
    rw [ek.out, en.out] at hcell
    rw [ek.out] at c0
    rw [en.out] at c1
    cases hcb : cellX k n
    · have HE : Hid (readI (kdX zs) (nnX zs) len (f + 1) at' l = none) := readI_no (fun q => by rw [ek.out, en.out, hcb] at q; cases q.2)
      rw [HE.out]
      rw [hcb] at hcell
      clear HE hi0 hz0 hz1 hz2
      go_enter Try.func48, Try.ntmps48
      go_upto_region 1 with fail
      rw [hX.out]
      clear hX
      go_upto_region 2 with (go_at_call 62; refine hcell.mono ?_; rintro e w1 ⟨rfl, hB⟩; have B1 : Hid (Below W.heap.size W w1) := HX.out.trans (hB.mono HX.out.size); have Z1 : Hid (w1.rowIs W.heap.size 62 3 (rowF [.int .i64 0, .int .i64 0, .slice none 0 0])) := RZ.out.of_block (hB.block _ RZ.out.lt); clear hB)
      have z0 : w1.cell? ⟨W.heap.size, 0, none⟩ = some (.int .i64 0) := Z1.out.cell (i := 0) (by decide)
      have z1 : w1.cell? ⟨W.heap.size, 1, none⟩ = some (.int .i64 0) := Z1.out.cell (i := 1) (by decide)
      have z2 : w1.cell? ⟨W.heap.size, 2, none⟩ = some (.slice none 0 0) := Z1.out.cell (i := 2) (by decide)
      have y0 := Z1.out.frozen 0
      have y1 := Z1.out.frozen 1
      have y2 := Z1.out.frozen 2
      have zl := Z1.out.lt
      go_wp2
      (try simp only [Exit.inBlock, Exit.then])
      refine bodyPost_ret (v := .tuple #[.agg #[.int .i64 0, .int .i64 0, .slice none 0 0], .slice none 0 0, .bool false]) (by simp only [results, Try.results48]; go_simp) rfl ?_
      refine ⟨?_, fun _ => rfl, fun t x q => by cases q⟩
      refine Below.trans B1.out ?_
      iterate 3 refine Below.setCell ?_ (by show W.heap.size ≤ W.heap.size; omega) _
      exact Below.refl _ _
    rw [hcb] at hcell
    obtain ⟨d, hd⟩ : ∃ d : Nat, Hid ((if k = 6 then 1 else 0) = d) := ⟨_, rfl⟩
    have hd1 : d ≤ 1 := by rw [← hd.out]; split <;> omega
    have hone : Hid (∀ w, Calls Try.prog 63 #[.bool (decide (k = 6))] w fun e w' => e = .returned (.int .i64 (d : Int)) ∧ w' = w) := fun w => by
      have q := impl_oneif (decide (k = 6)) w
      rw [show (if decide (k = 6) = true then (1 : Int) else 0) = (d : Int) by rw [← hd.out]; by_cases h6 : k = 6 <;> simp [h6]] at q
      exact q
    obtain ⟨mk, em⟩ : ∃ m, Hid (arX k = m) := ⟨_, rfl⟩
    have hm2 : mk ≤ 2 := by rw [← em.out]; exact arX_few k
    have har : Hid (∀ w, Calls Try.prog 64 #[.int .i64 k] w fun e w' => e = .returned (.int .i64 (mk : Int)) ∧ w' = w) := fun w => by
      have q := impl_parts k w
      rw [em.out] at q
      exact q
    obtain ⟨R, HR⟩ : ∃ R, Hid (readI (kdX zs) (nnX zs) len (f + 1) at' l = R) := ⟨_, rfl⟩
    have HRK : Hid (∀ l2, l + d = l2 → l2 ≤ 3 → (match readK (fun x => readI (kdX zs) (nnX zs) len f x l2) mk (at' + 1) with | none => none | some (ts, e) => some (mkX k n ts, e)) = R) := fun l2 e h3 => by
      rw [← HR.out, readI_yes (l2 := l2) (by omega) (by rw [ek.out, en.out]; exact hcb) (by rw [ek.out, hd.out]; exact e) h3, ek.out, en.out, em.out]
    have HRN : Hid (¬ l + d ≤ 3 → R = none) := fun q => by rw [← HR.out]; exact readI_many (by rw [ek.out, hd.out]; exact q)
    rw [HR.out]
    clear HR
    have ih := impl_tfrom zs len hz hlen f
    have hnx := ints_next h.out hz.out hm hp hc1
    go_enter Try.func48, Try.ntmps48
    go_upto_region 1 with fail
    rw [hX.out]
    clear hX
    go_upto_region 3 with (go_at_call 62; refine hcell.mono ?_; rintro e w1 ⟨rfl, hB⟩; have B1 : Hid (Below W.heap.size W w1) := HX.out.trans (hB.mono HX.out.size); have Z1 : Hid (w1.rowIs W.heap.size 62 3 (rowF [.int .i64 0, .int .i64 0, .slice none 0 0])) := RZ.out.of_block (hB.block _ RZ.out.lt); have k0 := (hB.cell (p := ⟨b, o, none⟩) hbX).trans c0; have k1 := (hB.cell (p := ⟨b, o + 1, none⟩) hbX).trans c1; have sz1 := hB.size; clear hB hcell c0 c1)
    have kl : b < w1.heap.size := by omega
    obtain ⟨a2, ha2⟩ : ∃ a2, Hid ((if cap = 1 then some (⟨b, o, none⟩ : Addr) else some ⟨b, o + 2, none⟩) = a2) := ⟨_, rfl⟩
    rw [ha2.out] at hnx
    have HNX : Hid (Ints V a2 (zs.drop ((at' + 1) * 2))) := hnx
    clear hnx
    go_cut [7, 8] (fun v7 v8 wx => v7 = .pointer (some ⟨w1.heap.size, 0, none⟩) ∧ v8 = .slice a2 (m - 1) (cap - 1) ∧ wx.rowIs w1.heap.size 62 3 (rowF [.int .i64 k, .int .i64 n, .slice none 0 0]) ∧ Below w1.heap.size w1 wx)
    case first =>
      by_cases h1 : cap = 1
      · subst h1
        have e2 : a2 = some ⟨b, o, none⟩ := by rw [← ha2.out, if_pos rfl]
        subst e2
        go_region_with fail
        all_goals go_wp2_with fail
        all_goals (simp only [Act.put, List.setIfInBounds_toArray, List.set_cons_zero, List.set_cons_succ, List.getElem_toArray, List.getElem_cons_zero, List.getElem_cons_succ])
        all_goals go_meet
        all_goals exact ⟨rfl, by rw [show m - 1 = 0 by omega], row_of w1 #[.int .i64 k, .int .i64 n, .slice none 0 0] _, ((Below.refl _ _).alloc (Nat.le_refl _) _).drew⟩
      · have e2 : a2 = some ⟨b, o + 2, none⟩ := by rw [← ha2.out, if_neg h1]
        subst e2
        go_region_with fail
        all_goals go_wp2_with fail
        all_goals (simp only [Act.put, List.setIfInBounds_toArray, List.set_cons_zero, List.set_cons_succ, List.getElem_toArray, List.getElem_cons_zero, List.getElem_cons_succ])
        all_goals go_meet
        all_goals exact ⟨rfl, rfl, row_of w1 #[.int .i64 k, .int .i64 n, .slice none 0 0] _, ((Below.refl _ _).alloc (Nat.le_refl _) _).drew⟩
    case rest =>
      obtain ⟨rfl, rfl, hR6, hB6⟩ := hcut
      have B6 : Hid (Below W.heap.size W wc) := B1.out.trans (hB6.mono B1.out.size)
      have Z6 : Hid (wc.rowIs W.heap.size 62 3 (rowF [.int .i64 0, .int .i64 0, .slice none 0 0])) := Z1.out.of_block (hB6.block _ Z1.out.lt)
      have P6 : Hid (PartT wc w1.heap.size wc.heap.size 62 62 k n [] (.slice none 0 0)) := PartT.start hR6 hR6.lt (Nat.le_refl _)
      have hgz : W.heap.size < w1.heap.size := Z1.out.lt
      have hBW : W.heap.size ≤ wc.heap.size := B6.out.size
      have t0 : wc.cell? ⟨w1.heap.size, 0, none⟩ = some (.int .i64 k) := hR6.cell (i := 0) (by decide)
      have tl : w1.heap.size < wc.heap.size := hR6.lt
      clear hR6 hB6 Z1 B1 k0 k1 sz1 kl RZ HX ha2
      obtain ⟨gt, hgt⟩ : ∃ gt, w1.heap.size = gt := ⟨_, rfl⟩
      rw [hgt] at P6 hgz t0 tl ⊢
      clear hgt
      by_cases h3 : l + d ≤ 3
      rotate_left
      · have HE : Hid (R = none) := HRN.out h3
        have g1 : decide ((l : Int) + (d : Int) > 3) = true := decide_eq_true (by omega)
        have g2 : decide ((3 : Int) < (l : Int) + (d : Int)) = true := decide_eq_true (by omega)
        have g3 : decide (3 < l + d) = true := decide_eq_true (by omega)
        have z0 : wc.cell? ⟨W.heap.size, 0, none⟩ = some (.int .i64 0) := Z6.out.cell (i := 0) (by decide)
        have z1 : wc.cell? ⟨W.heap.size, 1, none⟩ = some (.int .i64 0) := Z6.out.cell (i := 1) (by decide)
        have z2 : wc.cell? ⟨W.heap.size, 2, none⟩ = some (.slice none 0 0) := Z6.out.cell (i := 2) (by decide)
        have y0 := Z6.out.frozen 0
        have y1 := Z6.out.frozen 1
        have y2 := Z6.out.frozen 2
        have zl := Z6.out.lt
        go_wp2_with (go_at_call 63; refine (hone.out _).mono ?_; rintro e w' ⟨rfl, hw⟩; rw [hw]; clear hw w')
        (try simp only [Exit.inBlock, Exit.then])
        refine bodyPost_ret (v := .tuple #[.agg #[.int .i64 0, .int .i64 0, .slice none 0 0], .slice none 0 0, .bool false]) (by simp only [results, Try.results48]; go_simp) rfl ?_
        refine ⟨?_, fun _ => rfl, fun t x q => by rw [HE.out] at q; cases q⟩
        refine Below.trans B6.out ?_
        iterate 3 refine Below.setCell ?_ (by show W.heap.size ≤ W.heap.size; omega) _
        exact Below.refl _ _
      have g1 : decide ((l : Int) + (d : Int) > 3) = false := decide_eq_false (by omega)
      have g2 : decide ((3 : Int) < (l : Int) + (d : Int)) = false := decide_eq_false (by omega)
      have g3 : decide (3 < l + d) = false := decide_eq_false (by omega)
      obtain ⟨l2, hl2⟩ : ∃ l2, Hid (l + d = l2) := ⟨_, rfl⟩
      have hl23 : l2 ≤ 3 := by rw [← hl2.out]; exact h3
      have hl2I : ((l2 : Nat) : Int) = (l : Int) + (d : Int) := by rw [← hl2.out]; omega
      have HRK2 : Hid ((match readK (fun x => readI (kdX zs) (nnX zs) len f x l2) mk (at' + 1) with | none => none | some (ts, e) => some (mkX k n ts, e)) = R) := HRK.out l2 hl2.out hl23
      clear HRK HRN
      go_upto_region 7 with (go_at_call 63; refine (hone.out _).mono ?_; rintro e w' ⟨rfl, hw⟩; rw [hw]; clear hw w')
      go_wp2_with (go_at_call 64; refine (har.out _).mono ?_; rintro e w' ⟨rfl, hw⟩; rw [hw]; clear hw w')
      clear t0 tl hone har
      obtain ⟨B, hB0⟩ : ∃ B, wc.heap.size = B := ⟨_, rfl⟩
      rw [hB0] at P6 hBW
      clear hB0
      go_loopw [43, 8] (fun v43 v8 wr => ∃ (i : Nat) (done : List XT) (at2 m2 : Nat) (a3 : Option Addr) (c3 : Nat) (v : Value), i ≤ mk ∧ done.length = i ∧ v43 = .int .i64 (i : Int) ∧ v8 = .slice a3 m2 c3 ∧ at2 + m2 = len ∧ m2 ≤ c3 ∧ c3 ≤ 1048576 ∧ at' < at2 ∧ Hid (Ints V a3 (zs.drop (at2 * 2))) ∧ Hid (readK (fun x => readI (kdX zs) (nnX zs) len f x l2) mk (at' + 1) = prep done (readK (fun x => readI (kdX zs) (nnX zs) len f x l2) (mk - i) at2)) ∧ Hid (PartT wr gt B 62 62 k n done v) ∧ Hid (wr.rowIs W.heap.size 62 3 (rowF [.int .i64 0, .int .i64 0, .slice none 0 0])) ∧ Hid (Below W.heap.size W wr)) (fun v43 _ _ => mk - (intOf v43).toNat)
      case atStart => exact ⟨0, [], at' + 1, m - 1, _, cap - 1, _, Nat.zero_le _, rfl, rfl, rfl, by omega, by omega, by omega, by omega, HNX, (prep_nil _).symm, P6, Z6, B6⟩
      case round =>
        clear HNX P6 Z6 B6
        obtain ⟨i, done, at2, m2, a3, c3, v, hi, hdn, rfl, rfl, hm3, hc3, hc4, hlo, HI, HK, HP, HZ, HB⟩ := hrel
        have PB := HP.out.box
        have t0 : wr.cell? ⟨gt, 0, none⟩ = some (.int .i64 k) := PB.cell (i := 0) (by decide)
        have t1 : wr.cell? ⟨gt, 1, none⟩ = some (.int .i64 n) := PB.cell (i := 1) (by decide)
        have t2 : wr.cell? ⟨gt, 2, none⟩ = some v := PB.cell (i := 2) (by decide)
        have tl := PB.lt
        have z0 : wr.cell? ⟨W.heap.size, 0, none⟩ = some (.int .i64 0) := HZ.out.cell (i := 0) (by decide)
        have z1 : wr.cell? ⟨W.heap.size, 1, none⟩ = some (.int .i64 0) := HZ.out.cell (i := 1) (by decide)
        have z2 : wr.cell? ⟨W.heap.size, 2, none⟩ = some (.slice none 0 0) := HZ.out.cell (i := 2) (by decide)
        have y0 := HZ.out.frozen 0
        have y1 := HZ.out.frozen 1
        have y2 := HZ.out.frozen 2
        have zl := HZ.out.lt
        by_cases hlt : i < mk
        rotate_left
        · have HE : Hid (R = some (mkX k n done, at2)) := by
            show _ = _
            rw [← HRK2.out, HK.out, show mk - i = 0 by omega]; simp [readK, prep]
          obtain ⟨la, lc, F, ev, hO, hF⟩ := HP.out.owns (by omega)
          obtain ⟨L, hL⟩ : ∃ L, Hid ((mkX k n done).kids.length = L) := ⟨_, rfl⟩
          rw [hL.out] at ev hO
          subst ev
          have HO : Hid (Owns wr false B (kidsD (mkX k n done)) (.slice la L lc) F) := hO
          have HF : Hid (∀ x, F x → B ≤ x ∧ x < wr.heap.size) := hF
          have hlow := HP.out.low
          clear hO hF PB HP HK
          go_wp2
          (try simp only [Exit.inBlock, Exit.then])
          refine bodyPost_ret (v := .tuple #[.agg #[.int .i64 k, .int .i64 n, .slice la L lc], .slice a3 m2 c3, .bool true]) (by simp only [results, Try.results48]; go_simp) rfl ?_
          refine ⟨?_, fun q => ?_, fun t x q => ?_⟩
          · refine Below.trans HB.out ?_
            iterate 3 refine Below.setCell ?_ (by show W.heap.size ≤ W.heap.size; omega) _
            exact Below.refl _ _
          · rw [HE.out] at q; cases q
          · rw [HE.out] at q
            simp only [Option.some.injEq, Prod.mk.injEq] at q
            rw [← q.1, ← q.2, mk_kind, mk_num, hL.out]
            refine ⟨la, lc, F, a3, m2, c3, rfl, ⟨?_, fun y hy => ⟨by have := (HF.out y hy).1; omega, by simpa [World.setCell] using (HF.out y hy).2⟩⟩, hm3, HI.out, hc3, hc4⟩
            · refine (HO.out.low hBW).agree (by simp [World.setCell]) (fun y hy _ => ?_)
              have hne : y ≠ W.heap.size := fun e => by have := (HF.out y hy).1; omega
              rw [Below.heap_setCell _ _ _ _ (by show y ≠ W.heap.size; exact hne), Below.heap_setCell _ _ _ _ (by show y ≠ W.heap.size; exact hne), Below.heap_setCell _ _ _ _ (by show y ≠ W.heap.size; exact hne)]
        · have ihc := ih at2 m2 l2 V wr (hV.out.trans (HB.out.mono hV.out.size)) a3 c3 hm3 (by omega) hl23 hc3 hc4 HI
          rw [hl2I] at ihc
          have jp : (i : Int) < (mk : Int) := by omega
          obtain ⟨j, hj⟩ : ∃ j, mk - i = j + 1 := ⟨mk - i - 1, by omega⟩
          rw [hj] at HK
          cases hr : readI (kdX zs) (nnX zs) len f at2 l2 with
          | none =>
            have HE : Hid (R = none) := by
              show _ = _
              rw [← HRK2.out, HK.out, prep_no (rd := (fun x => readI (kdX zs) (nnX zs) len f x l2)) hr]
            clear PB HK t0 t1 t2
            go_upto_region 10 with (go_at_call 48; refine ihc.mono ?_; rintro e w2 ⟨hB2, hno, hyes⟩; obtain rfl := hno hr; have HB2 : Hid (Below wr.heap.size wr w2) := hB2; clear hB2 hno hyes z0 z1 z2 y0 y1 y2 zl tl)
            have Z2 : Hid (w2.rowIs W.heap.size 62 3 (rowF [.int .i64 0, .int .i64 0, .slice none 0 0])) := HZ.out.of_block (HB2.out.block _ HZ.out.lt)
            have Z3 := Z2.out.alloc (.cells #[.int .i64 0, .int .i64 0, .slice none 0 0] 62)
            obtain ⟨Y, hY⟩ : ∃ Y, Hid (w2.alloc (.cells #[.int .i64 0, .int .i64 0, .slice none 0 0] 62) = Y) := ⟨_, rfl⟩
            have HY : Hid (Below W.heap.size W Y) := by show Below _ _ _; rw [← hY.out]; exact (HB.out.trans (HB2.out.mono HB.out.size)).alloc (Nat.le_trans HB.out.size HB2.out.size) _
            rw [hY.out] at Z3 ⊢
            have z0 : Y.cell? ⟨W.heap.size, 0, none⟩ = some (.int .i64 0) := Z3.cell (i := 0) (by decide)
            have z1 : Y.cell? ⟨W.heap.size, 1, none⟩ = some (.int .i64 0) := Z3.cell (i := 1) (by decide)
            have z2 : Y.cell? ⟨W.heap.size, 2, none⟩ = some (.slice none 0 0) := Z3.cell (i := 2) (by decide)
            have y0 := Z3.frozen 0
            have y1 := Z3.frozen 1
            have y2 := Z3.frozen 2
            have zl := Z3.lt
            clear Z3
            go_wp2
            (try simp only [Exit.inBlock, Exit.then])
            refine bodyPost_ret (v := .tuple #[.agg #[.int .i64 0, .int .i64 0, .slice none 0 0], .slice none 0 0, .bool false]) (by simp only [results, Try.results48]; go_simp) rfl ?_
            refine ⟨?_, fun _ => rfl, fun t x q => by rw [HE.out] at q; cases q⟩
            refine Below.trans HY.out ?_
            iterate 3 refine Below.setCell ?_ (by show W.heap.size ≤ W.heap.size; omega) _
            exact Below.refl _ _
          | some p =>
            obtain ⟨s, e2⟩ := p
            have he2 := readI_at hr
            have HKN : Hid (readK (fun x => readI (kdX zs) (nnX zs) len f x l2) mk (at' + 1) = prep (done ++ [s]) (readK (fun x => readI (kdX zs) (nnX zs) len f x l2) (mk - (i + 1)) e2)) := by
              show _ = _
              rw [HK.out, prep_yes (rd := (fun x => readI (kdX zs) (nnX zs) len f x l2)) hr, show mk - (i + 1) = j by omega]
            clear HK PB z0 z1 z2 y0 y1 y2 zl t0 t1 t2 tl
            go_upto_region 10 with (go_at_call 48; refine ihc.mono ?_; rintro e w2 ⟨hB2, hno, hyes⟩; obtain ⟨la, lc, H, a4, m4, c4, rfl, ⟨hs, hH⟩, hm4, hi4, hc5, hc6⟩ := hyes s e2 hr; have HB2 : Hid (Below wr.heap.size wr w2) := hB2; have HS : Hid (Owns w2 false wr.heap.size (kidsD s) (.slice la s.kids.length lc) H) := hs; have HH : Hid (∀ x, H x → wr.heap.size ≤ x ∧ x < w2.heap.size) := hH; have HI4 : Hid (Ints V a4 (zs.drop (e2 * 2))) := hi4; clear hB2 hno hyes hs hH hi4)
            obtain ⟨U, F, hG⟩ := HP.out.kids
            have HG : Hid (Grown wr B 62 3 v done.length (kcs done) U F) := hG
            clear hG
            obtain ⟨k2, hk2⟩ : ∃ x, Hid (s.kind = x) := ⟨_, rfl⟩
            obtain ⟨n2, hn2⟩ : ∃ x, Hid (s.num = x) := ⟨_, rfl⟩
            obtain ⟨ls, hls⟩ : ∃ x, Hid (s.kids.length = x) := ⟨_, rfl⟩
            rw [hk2.out, hn2.out, hls.out]
            obtain ⟨Y, hY⟩ : ∃ Y, Hid (w2.alloc (.cells #[.int .i64 k2, .int .i64 n2, .slice la ls lc] 62) = Y) := ⟨_, rfl⟩
            have HY2 : Hid (Below w2.heap.size w2 Y) := by show Below _ _ _; rw [← hY.out]; exact (Below.refl _ _).alloc (Nat.le_refl _) _
            have HYR : Hid (Below wr.heap.size wr Y) := HB2.out.trans (HY2.out.mono HB2.out.size)
            have PY : Hid (PartT Y gt B 62 62 k n done v) := HP.out.kept HYR.out
            have RY : Hid (Y.rowIs w2.heap.size 62 3 (rowF [.int .i64 k2, .int .i64 n2, .slice la ls lc])) := by rw [← hY.out]; exact row_of w2 _ _
            rw [hY.out]
            have t2 : Y.cell? ⟨gt, 2, none⟩ = some v := PY.out.box.cell (i := 2) (by decide)
            have tl := PY.out.box.lt
            have x0 : Y.cell? ⟨w2.heap.size, 0, none⟩ = some (.int .i64 k2) := RY.out.cell (i := 0) (by decide)
            have x1 : Y.cell? ⟨w2.heap.size, 1, none⟩ = some (.int .i64 n2) := RY.out.cell (i := 1) (by decide)
            have x2 : Y.cell? ⟨w2.heap.size, 2, none⟩ = some (.slice la ls lc) := RY.out.cell (i := 2) (by decide)
            have xl := RY.out.lt
            have hdl : done.length ≤ 2 := by omega
            have hBY : B ≤ Y.heap.size := PY.out.top
            have HGY : Hid (Y.ownsRow B 62 3 v done.length ((List.range (done.length * 3)).map U)) := (HG.out.kept HYR.out).row
            obtain ⟨dl, hdlq⟩ : ∃ x, Hid (done.length = x) := ⟨_, rfl⟩
            obtain ⟨XS, hXS⟩ : ∃ x, Hid ((List.range (done.length * 3)).map U = x) := ⟨_, rfl⟩
            rw [hXS.out, hdlq.out] at HGY
            rw [hdlq.out] at hdl
            go_upto_region 12 with fail
            go_wp2_with (at_builtin; refine wpList_append_own_at _ rfl _ _ 60 rfl B 62 i0 (.agg #[.int .i64 0, .int .i64 0, .slice none 0 0]) 3 40 Try.underlying60 hi0 hz0 hz1 hz2 rfl (by decide) v dl XS rfl (World.ownsRow.alloc HGY.out _) ⟨Y.heap.size, 0, none⟩ 1 1 [.int .i64 k2, .int .i64 n2, .slice la ls lc] rfl rfl (new_three Y _ _ _ _) (three_one _ _ _ _ _) ?c3 ?c4 ?c5 ?_)
            case c3 => unfold maxLen; omega
            case c4 => omega
            case c5 => first | omega | (simp; omega)
            intro v' w3 hown hgrow hnil hat
            obtain ⟨g3, c3', rfl⟩ := row_some16 hown (Nat.succ_pos dl)
            have hown2 : w3.ownsRow B 62 3 (.slice (some ⟨g3, 0, none⟩) (dl + 1) c3') (done.length + 1) ((List.range (done.length * 3)).map U ++ newsT s la lc) := by
              unfold newsT
              rw [hk2.out, hn2.out, hls.out, hdlq.out, ← hdlq.out, hXS.out, hdlq.out]
              exact hown
            have bW : Below w2.heap.size w2 (Y.alloc (.cells #[.int .i64 k2, .int .i64 n2, .slice la ls lc] 62)) := HY2.out.alloc HY2.out.size _
            have b12 : Below wr.heap.size wr (Y.alloc (.cells #[.int .i64 k2, .int .i64 n2, .slice la ls lc] 62)) := HB2.out.trans (bW.mono HB2.out.size)
            have PN : Hid (PartT (w3.setCell ⟨gt, 2, none⟩ (.slice (some ⟨g3, 0, none⟩) (dl + 1) c3')) gt B 62 62 k n (done ++ [s]) (.slice (some ⟨g3, 0, none⟩) (dl + 1) c3')) := HP.out.snoc HG.out (by rw [hls.out]; have q := HS.out; rw [hls.out] at q; exact q) HH.out HB2.out bW hown2 hgrow (by simpa using hat)
            have bG : Below B (Y.alloc (.cells #[.int .i64 k2, .int .i64 n2, .slice la ls lc] 62)) w3 := (HG.out.kept b12).below hgrow (Nat.le_trans hBY (by simp))
            have BN : Hid (Below W.heap.size W (w3.setCell ⟨gt, 2, none⟩ (.slice (some ⟨g3, 0, none⟩) (dl + 1) c3'))) := (HB.out.trans ((b12.mono HB.out.size).trans (bG.mono hBW))).setCell (by show W.heap.size ≤ gt; omega) _
            have bz : w3.heap[W.heap.size]? = wr.heap[W.heap.size]? := (bG.block _ (by have := HP.out.low; omega)).trans (b12.block _ HZ.out.lt)
            have ZN : Hid ((w3.setCell ⟨gt, 2, none⟩ (.slice (some ⟨g3, 0, none⟩) (dl + 1) c3')).rowIs W.heap.size 62 3 (rowF [.int .i64 0, .int .i64 0, .slice none 0 0])) := (HZ.out.of_block bz).of_block (Below.heap_setCell _ _ _ _ (by show W.heap.size ≠ gt; omega))
            have T3 : w3.rowIs gt 62 3 (rowF [.int .i64 k, .int .i64 n, v]) := HP.out.box.of_block ((bG.block _ HP.out.low).trans (b12.block _ HP.out.box.lt))
            have q2 : w3.cell? ⟨gt, 2, none⟩ = some v := T3.cell (i := 2) (by decide)
            have qf := T3.frozen 2
            have ql := T3.lt
            clear T3 bz bG b12 bW hown2 hown hgrow hnil hat t2 tl x0 x1 x2 xl hi0 hz0 hz1 hz2
            go_wp2
            go_roundw
            case rel => exact ⟨i + 1, done ++ [s], e2, m4, a4, c4, _, by omega, by simp; omega, by go_num, rfl, hm4, hc5, hc6, by omega, HI4, HKN, PN, ZN, BN⟩
            case measure => simp [intOf]; omega

end Go.Proofs.Ytbjfhcbgghpdaaa.walks
