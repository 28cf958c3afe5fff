/-
  What NewMarker answers, on both sides.
-/
import Derived.Test.YtokaibpkajloeaaProg
import Derived.Test.YtokaibpkajloeaaInts
import Derived.Test.YtokaibpkajloeaaOwnInts
import Derived.Test.YtokaibpkajloeaaDeep
import Derived.Test.YtokaibpkajloeaaDeepRow
import Derived.Test.YtokaibpkajloeaaDeepM
import Derived.Test.YtokaibpkajloeaaDeepGrow
import Derived.Test.YtokaibpkajloeaaOwnMath
import Derived.Test.YtokaibpkajloeaaHasIn
import Derived.Test.YtokaibpkajloeaaMarkMath
import Derived.Test.YtokaibpkajloeaaMarkRun
import Derived.Test.YtokaibpkajloeaaMarkOut
import Derived.Test.YtokaibpkajloeaaNewRun
import Derived.WalkKit
import Derived.WalkSpells
import Derived.Below
import Derived.Handy
import Derived.OwnWalk
import Derived.Deep.DeepFit
import Derived.Deep.DeepCutAuto
import Derived.Deep.OwnRows
namespace Go.Proofs.Ytokaibpkajloeaa.walks
open Go.RowKit Go.Proofs.Ytokaibpkajloeaa.math Go.Proofs.Ytokaibpkajloeaa.ints Go.Proofs.Ytokaibpkajloeaa.deep
set_option linter.unusedVariables false
set_option maxRecDepth 100000
set_option linter.unusedSimpArgs false

theorem owns_set {w : World} {c : Bool} {B b i : Nat} {d : Dv} {v u : Value} {F : Nat → Prop} (h : Owns w c B d v F) (hb : ¬ F b) : Owns (w.setCell ⟨b, i, none⟩ u) c B d v F := h.agree (by simp [World.setCell]) (fun x hx _ => Below.heap_setCell _ _ _ _ (by show x ≠ b; rintro rfl; exact hb hx))
/-- .. put into a result's box that lies ahead. -/
theorem OutM.boxed {W W1 W2 : World} {n : Nat} {s : Mst} {v : Value} (h : OutM W1 W2 n s v) (hb : Below W.heap.size W W1) (hl : W.heap.size < W1.heap.size) (u0 u1 u2 : Value) : OutM W (((W2.setCell ⟨W.heap.size, 0, none⟩ u0).setCell ⟨W.heap.size, 1, none⟩ u1).setCell ⟨W.heap.size, 2, none⟩ u2) n s v := by
  obtain ⟨g0, d0, g1, d1, F0, F1, e, o0, l0, o1, l1, dd, b⟩ := h
  have n0 : ¬ F0 W.heap.size := fun q => by have := (l0 _ q).1; omega
  have n1 : ¬ F1 W.heap.size := fun q => by have := (l1 _ q).1; omega
  refine ⟨g0, d0, g1, d1, F0, F1, e, (owns_set (owns_set (owns_set o0 n0) n0) n0).low (by omega), fun x q => ?_, (owns_set (owns_set (owns_set o1 n1) n1) n1).low (by omega), fun x q => ?_, dd, ?_⟩
  · have := l0 x q
    simp [World.setCell]; omega
  · have := l1 x q
    simp [World.setCell]; omega
  · iterate 3 refine Below.setCell ?_ (by simp) _
    exact hb.trans (b.mono (by omega))
/-- What NewMarker answers. -/
def NewAns (n : Int) (W : World) (e : Ending) (W' : World) : Prop := (¬ (2 ≤ n ∧ n ≤ 10) ∧ e = .returned (.tuple #[.agg #[.slice none 0 0, .slice none 0 0, .bool false], .bool false]) ∧ Below W.heap.size W W') ∨ ∃ (k : Nat) (v : Value), n = (k : Int) ∧ 2 ≤ k ∧ k ≤ 10 ∧ e = .returned (.tuple #[v, .bool true]) ∧ OutM W W' k newS v
theorem box_zero {W w1 : World} (h : w1.rowIs W.heap.size 25 3 (rowF [.slice none 0 0, .slice none 0 0, .bool false])) : (w1.cell? ⟨W.heap.size, 0, none⟩ = some (.slice none 0 0) ∧ w1.cell? ⟨W.heap.size, 1, none⟩ = some (.slice none 0 0) ∧ w1.cell? ⟨W.heap.size, 2, none⟩ = some (.bool false)) ∧ w1.frozen? ⟨W.heap.size, 0, none⟩ = false ∧ w1.frozen? ⟨W.heap.size, 1, none⟩ = false ∧ w1.frozen? ⟨W.heap.size, 2, none⟩ = false ∧ W.heap.size < w1.heap.size := ⟨⟨h.cell (i := 0) (by decide), h.cell (i := 1) (by decide), h.cell (i := 2) (by decide)⟩, h.frozen 0, h.frozen 1, h.frozen 2, h.lt⟩
set_option maxHeartbeats 4000000 in
theorem impl_newmarker (n : Int) (W : World) : Calls Try.prog 10 #[.int .i64 n] W fun e W' => NewAns n W e W' := by
  obtain ⟨Z, hZ⟩ : ∃ Z, Hid (W.alloc (.cells #[.slice none 0 0, .slice none 0 0, .bool false] 25) = Z) := ⟨_, rfl⟩
  have HZ : Hid (Below W.heap.size W Z) := by show Below _ _ _; rw [← hZ.out]; exact (Below.refl _ _).alloc (Nat.le_refl _) _
  have HZR : Hid (Z.rowIs W.heap.size 25 3 (rowF [.slice none 0 0, .slice none 0 0, .bool false])) := by show World.rowIs _ _ _ _ _; rw [← hZ.out]; exact row_of W #[.slice none 0 0, .slice none 0 0, .bool false] 25
  have hnr := impl_newrun n Z
  go_enter Try.func10, Try.ntmps10
  go_wp2_with fail
  rw [hZ.out]
  clear hZ
  refine hnr.mono ?_
  rintro e w1 hr
  clear hnr
  rcases hr with ⟨h0, rfl, hB⟩ | ⟨k, rp, cp, op, rfl, k2, k10, rfl, hR, hB⟩
  · have HR1 : Hid (w1.rowIs W.heap.size 25 3 (rowF [.slice none 0 0, .slice none 0 0, .bool false])) := HZR.out.of_block (hB.block _ HZR.out.lt)
    obtain ⟨⟨z0, z1, z2⟩, f0, f1, f2, zl⟩ := box_zero HR1.out
    have HA : Hid (∀ u0 u1 u2, NewAns n W (.returned (.tuple #[.agg #[.slice none 0 0, .slice none 0 0, .bool false], .bool false])) (((w1.setCell ⟨W.heap.size, 0, none⟩ u0).setCell ⟨W.heap.size, 1, none⟩ u1).setCell ⟨W.heap.size, 2, none⟩ u2)) := fun u0 u1 u2 => Or.inl ⟨h0, rfl, by
      iterate 3 refine Below.setCell ?_ (by simp) _
      exact HZ.out.trans (hB.mono HZ.out.size)⟩
    clear h0 hB HZ HZR HR1
    go_wp2
    exact bodyPost_ret (v := .tuple #[.agg #[.slice none 0 0, .slice none 0 0, .bool false], .bool false]) (by simp only [results, Try.results10]; go_simp) rfl (HA.out _ _ _)
  · have HR1 : Hid (w1.rowIs W.heap.size 25 3 (rowF [.slice none 0 0, .slice none 0 0, .bool false])) := HZR.out.of_block (hB.block _ HZR.out.lt)
    have B1 : Hid (Below W.heap.size W w1) := HZ.out.trans (hB.mono HZ.out.size)
    have hm := impl_marker Z.heap.size rp cp op k k k newS w1 k2 k10 hR
    clear hR hB HZ HZR
    go_wp2_with fail
    refine hm.mono ?_
    rintro e w2 ⟨v, rfl, hO⟩
    obtain ⟨g0, d0, g1, d1, F0, F1, rfl, o0, l0, o1, l1, dd, b⟩ := hO
    have HR2 : Hid (w2.rowIs W.heap.size 25 3 (rowF [.slice none 0 0, .slice none 0 0, .bool false])) := HR1.out.of_block (b.block _ HR1.out.lt)
    have HO : Hid (OutM w1 w2 k newS (.agg #[.slice g0 k d0, .slice g1 2 d1, .bool false])) := ⟨g0, d0, g1, d1, F0, F1, rfl, o0, l0, o1, l1, dd, b⟩
    clear o0 l0 o1 l1 dd b hm
    obtain ⟨⟨z0, z1, z2⟩, f0, f1, f2, zl⟩ := box_zero HR2.out
    have HA : Hid (∀ u0 u1 u2, NewAns (k : Int) W (.returned (.tuple #[.agg #[.slice g0 k d0, .slice g1 2 d1, .bool false], .bool true])) (((w2.setCell ⟨W.heap.size, 0, none⟩ u0).setCell ⟨W.heap.size, 1, none⟩ u1).setCell ⟨W.heap.size, 2, none⟩ u2)) := fun u0 u1 u2 => Or.inr ⟨k, _, rfl, k2, k10, rfl, HO.out.boxed B1.out HR1.out.lt u0 u1 u2⟩
    have hon : newS.on = false := rfl
    rw [hon]
    clear HO HR2 HR1 B1
    go_wp2
    exact bodyPost_ret (v := .tuple #[.agg #[.slice g0 k d0, .slice g1 2 d1, .bool false], .bool true]) (by simp only [results, Try.results10]; go_simp) rfl (HA.out _ _ _)
set_option maxHeartbeats 8000000 in
theorem spec_newmarker (n : Int) (W : World) : Calls Try.prog 9 #[.int .i64 n] W fun e W' => NewAns n W e W' := by
  obtain ⟨Z, hZ⟩ : ∃ Z, Hid (W.alloc (.cells #[.slice none 0 0, .slice none 0 0, .bool false] 25) = Z) := ⟨_, rfl⟩
  have HZ : Hid (Below W.heap.size W Z) := by show Below _ _ _; rw [← hZ.out]; exact (Below.refl _ _).alloc (Nat.le_refl _) _
  have HZS : Hid (Z.heap.size = W.heap.size + 1) := by show _ = _; rw [← hZ.out]; simp
  have HZR : Hid (Z.rowIs W.heap.size 25 3 (rowF [.slice none 0 0, .slice none 0 0, .bool false])) := by show World.rowIs _ _ _ _ _; rw [← hZ.out]; exact row_of W #[.slice none 0 0, .slice none 0 0, .bool false] 25
  have hin := range_quiet (n := n) (lo := 2) (hi := 10) rfl Z
  by_cases hn : 2 ≤ n ∧ n ≤ 10
  rotate_left
  · rw [decide_eq_false hn] at hin
    obtain ⟨⟨z0, z1, z2⟩, f0, f1, f2, zl⟩ := box_zero HZR.out
    have HA : Hid (∀ u0 u1 u2, NewAns n W (.returned (.tuple #[.agg #[.slice none 0 0, .slice none 0 0, .bool false], .bool false])) (((Z.setCell ⟨W.heap.size, 0, none⟩ u0).setCell ⟨W.heap.size, 1, none⟩ u1).setCell ⟨W.heap.size, 2, none⟩ u2)) := fun u0 u1 u2 => Or.inl ⟨hn, rfl, by
      iterate 3 refine Below.setCell ?_ (by simp) _
      exact HZ.out⟩
    clear hn HZS HZ HZR
    go_enter Try.func9, Try.ntmps9
    go_wp2_with fail
    rw [hZ.out]
    refine hin.mono ?_
    rintro e w' ⟨rfl, hw⟩
    rw [hw]
    clear hw w'
    go_wp2
    exact bodyPost_ret (v := .tuple #[.agg #[.slice none 0 0, .slice none 0 0, .bool false], .bool false]) (by simp only [results, Try.results9]; go_simp) rfl (HA.out _ _ _)
  rw [decide_eq_true hn] at hin
  obtain ⟨m, rfl⟩ : ∃ m : Nat, n = (m : Int) := ⟨n.toNat, by omega⟩
  have hm2 : 2 ≤ m := by omega
  have hm10 : m ≤ 10 := by omega
  obtain ⟨X, hX⟩ : ∃ X, Hid ((Z.alloc (.cells #[.int .i64 0, .int .i64 (-1)] 3)).alloc (.cells #[.slice none 0 0, .slice (some ⟨Z.heap.size, 0, none⟩) 2 2, .bool false] 25) = X) := ⟨_, rfl⟩
  have HO : Hid (OutAt W X X newS (Z.heap.size + 1) Z.heap.size 2 0 (.slice none 0 0) (fun _ => .bool false) (fun _ => False)) := by
    show OutAt _ _ _ _ _ _ _ _ _ _ _
    have hs := HZS.out
    have e1 : (Z.alloc (.cells #[.int .i64 0, .int .i64 (-1)] 3)).heap.size = Z.heap.size + 1 := by simp
    have q := row_of (Z.alloc (.cells #[.int .i64 0, .int .i64 (-1)] 3)) #[.slice none 0 0, .slice (some ⟨Z.heap.size, 0, none⟩) 2 2, .bool false] 25
    rw [e1, hX.out] at q
    have sX : X.heap.size = Z.heap.size + 2 := by rw [← hX.out]; simp
    have r := (row_of Z #[.int .i64 0, .int .i64 (-1)] 3).alloc (.cells #[.slice none 0 0, .slice (some ⟨Z.heap.size, 0, none⟩) 2 2, .bool false] 25)
    rw [hX.out] at r
    have hb : Below W.heap.size W X := by rw [← hX.out]; exact (HZ.out.alloc HZ.out.size _).alloc (by simp; omega) _
    have hz := (HZR.out.alloc (.cells #[.int .i64 0, .int .i64 (-1)] 3)).alloc (.cells #[.slice none 0 0, .slice (some ⟨Z.heap.size, 0, none⟩) 2 2, .bool false] 25)
    rw [hX.out] at hz
    refine ⟨q, hz, (CellsAt.of_row r (Nat.le_refl _)).congr (fun i hi => ?_), Grown.nil _ _ _ _ _ _, hb, ⟨by omega, by omega, by omega, by omega, by omega, by omega⟩⟩
    match i, hi with
    | 0, _ => rfl
    | 1, _ => rfl
  go_enter Try.func9, Try.ntmps9
  go_upto_region 2 with (go_at_call 30; rw [hZ.out]; refine hin.mono ?_; rintro e w' ⟨rfl, hw⟩; rw [hw]; clear hw w')
  clear hn hin
  go_upto_region 4 with fail
  rw [hX.out]
  clear hX hZ HZ HZS HZR
  generalize Z.heap.size = zz at HO ⊢
  obtain ⟨i5, hi5, hz50, hz51, hz52⟩ := parts_of (P := Try.prog) (e := 52) (z := .agg #[.slice none 0 0, .int .i64 0, .bool false]) (a := 3) (b := 40) (by kernel_rfl)
  go_wp2
  go_loopw [5] (fun vi wr => ∃ (k : Nat) (v : Value) (U : Nat → Value) (F : Nat → Prop), k ≤ m ∧ vi = .int .i64 k ∧ Hid (OutAt W X wr newS (zz + 1) zz 2 k v U F)) (fun vi _ => m - (intOf vi).toNat)
  case atStart => exact ⟨0, _, _, _, Nat.zero_le _, rfl, HO⟩
  case round =>
    obtain ⟨k, v, U, F, hk, rfl, HA⟩ := hrel
    by_cases hlt : k < m
    rotate_left
    · have e : k = m := by omega
      subst e
      obtain ⟨g, d, rfl⟩ := row_some15 HA.out.rows.row (by omega)
      have x0 : wr.cell? ⟨zz + 1, 0, none⟩ = some (.slice (some ⟨g, 0, none⟩) k d) := HA.out.box.cell (i := 0) (by decide)
      have x1 : wr.cell? ⟨zz + 1, 1, none⟩ = some (.slice (some ⟨zz, 0, none⟩) 2 2) := HA.out.box.cell (i := 1) (by decide)
      have x2 : wr.cell? ⟨zz + 1, 2, none⟩ = some (.bool false) := HA.out.box.cell (i := 2) (by decide)
      obtain ⟨⟨z0, z1, z2⟩, f0, f1, f2, zl⟩ := box_zero HA.out.zero
      have lM := HA.out.box.lt
      have HRS : Hid (∀ u0 u1 u2, NewAns (k : Int) W (.returned (.tuple #[.agg #[.slice (some ⟨g, 0, none⟩) k d, .slice (some ⟨zz, 0, none⟩) 2 2, .bool false], .bool true])) (((wr.setCell ⟨W.heap.size, 0, none⟩ u0).setCell ⟨W.heap.size, 1, none⟩ u1).setCell ⟨W.heap.size, 2, none⟩ u2)) := fun u0 u1 u2 => Or.inr ⟨k, _, rfl, hm2, hm10, rfl, HA.out.end_ u0 u1 u2⟩
      go_wp2
      exact bodyPost_ret (v := .tuple #[.agg #[.slice (some ⟨g, 0, none⟩) k d, .slice (some ⟨zz, 0, none⟩) 2 2, .bool false], .bool true]) (by simp only [results, Try.results9]; go_simp) rfl (HRS.out _ _ _)
    have hltI : (k : Int) < (m : Int) := by omega
    obtain ⟨z, Hz⟩ : ∃ z, Hid (decide (0 < k) = z) := ⟨_, rfl⟩
    have d0 : decide (0 < k) = z := Hz.out
    have d1 : decide ((k : Int) > 0) = z := by
      rw [← Hz.out]
      by_cases q : 0 < k
      · rw [decide_eq_true q, decide_eq_true (by omega)]
      · rw [decide_eq_false q, decide_eq_false (by omega)]
    have HF : Hid (newS.fr k = z) := Hz.out
    have d2 : decide ((0 : Int) < (k : Int)) = z := d1
    obtain ⟨o1, o2, o3, o4, o5, o6⟩ := HA.out.ord
    have v0 : wr.cell? ⟨zz + 1, 0, none⟩ = some v := HA.out.box.cell (i := 0) (by decide)
    have lM := HA.out.box.lt
    obtain ⟨w1, hw1⟩ : ∃ w1, Hid (wr.alloc (.cells #[.int .i64 (-1), .int .i64 (-1)] 3) = w1) := ⟨_, rfl⟩
    have B1 : Hid (Below wr.heap.size wr w1) := by show Below _ _ _; rw [← hw1.out]; exact (Below.refl _ _).alloc (Nat.le_refl _) _
    have C1 : Hid (CellsAt w1 wr.heap.size 2 (fun j => .int .i64 (newS.lk k j))) := by
      show CellsAt _ _ _ _
      rw [← hw1.out]
      refine (CellsAt.of_row (row_of wr #[.int .i64 (-1), .int .i64 (-1)] 3) (Nat.le_refl _)).congr (fun i hi => ?_)
      match i, hi with
      | 0, _ => rfl
      | 1, _ => rfl
    have w1s : w1.heap.size = wr.heap.size + 1 := by rw [← hw1.out]; simp
    have B2 : Hid (Below wr.heap.size wr (w1.alloc (.cells #[.slice (some ⟨wr.heap.size, 0, none⟩) 2 2, .int .i64 0, .bool z] 52))) := B1.out.alloc B1.out.size _
    obtain ⟨xs, HXS⟩ : ∃ xs, Hid ((List.range (k * 3)).map U = xs) := ⟨_, rfl⟩
    have GR : Hid (wr.ownsRow X.heap.size 52 3 v k xs) := by show World.ownsRow _ _ _ _ _ _ _; rw [← HXS.out]; exact HA.out.rows.row
    have HSTEP : Hid (∀ (w3 : World) (v' : Value), w3.ownsRow X.heap.size 52 3 v' (k + 1) (xs ++ [.slice (some ⟨wr.heap.size, 0, none⟩) 2 2, .int .i64 0, .bool z]) → (w1.alloc (.cells #[.slice (some ⟨wr.heap.size, 0, none⟩) 2 2, .int .i64 0, .bool z] 52)).grownBy w3 v.ownBlock → (v'.ownBlock = v.ownBlock ∨ v'.ownBlock = some (w1.alloc (.cells #[.slice (some ⟨wr.heap.size, 0, none⟩) 2 2, .int .i64 0, .bool z] 52)).heap.size) → ∃ v U F, OutAt W X (w3.setCell ⟨zz + 1, 0, none⟩ v') newS (zz + 1) zz 2 (k + 1) v U F) := fun w3 v' q3 q4 q5 => by
      rw [← HXS.out, ← HF.out] at q3
      rw [← HF.out] at q4 q5
      obtain ⟨U', F', r⟩ := HA.out.step (C1.out) (Nat.le_refl _) B1.out q3 q4 q5
      exact ⟨v', U', F', r⟩
    have HM : Hid (∀ w' : World, (w1.alloc (.cells #[.slice (some ⟨wr.heap.size, 0, none⟩) 2 2, .int .i64 0, .bool z] 52)).grownBy w' v.ownBlock → w'.cell? ⟨zz + 1, 0, none⟩ = some v ∧ w'.frozen? ⟨zz + 1, 0, none⟩ = false ∧ zz + 1 < w'.heap.size) := fun w' g => by
      have e := g.block (zz + 1) (by have := B2.out.size; omega) (fun e => by have := World.ownsRow.lt HA.out.rows.row _ e.symm; omega)
      exact ⟨(World.cell?_of_block (a := ⟨zz + 1, 0, none⟩) e).trans ((B2.out.cell (p := ⟨zz + 1, 0, none⟩) lM).trans v0), (World.frozen?_of_block (a := ⟨zz + 1, 0, none⟩) e).trans ((World.frozen?_of_block (a := ⟨zz + 1, 0, none⟩) (B2.out.block _ lM)).trans (HA.out.box.frozen 0)), by have := g.size; have := B2.out.size; omega⟩
    clear HXS Hz HF HA C1
    go_wp2_with (first
      | (at_builtin; rw [hw1.out]; refine wpList_append_own_at _ rfl _ _ 22 rfl X.heap.size 52 i5 _ 3 40 Try.underlying22 hi5 hz50 hz51 hz52 rfl (by decide) v k xs rfl (row_keep GR.out B2.out) ⟨wr.heap.size + 1, 0, none⟩ 1 1 [.slice (some ⟨wr.heap.size, 0, none⟩) 2 2, .int .i64 0, .bool z] rfl rfl (by rw [← w1s]; exact new_three w1 _ _ _ _) (one_three _ _ _ rfl rfl rfl) (by unfold maxLen; omega) (by omega) (Nat.le_trans o6 B2.out.size) ?_))
    intro v5 w5 hown hgrow _ hat
    have HRES := HSTEP.out w5 v5 hown hgrow (by rw [World.size_alloc, w1s]; exact hat)
    have HR2 : Hid (∃ v U F, OutAt W X (w5.setCell ⟨zz + 1, 0, none⟩ v5) newS (zz + 1) zz 2 (k + 1) v U F) := HRES
    obtain ⟨m5, fz5, l5⟩ := HM.out w5 hgrow
    obtain ⟨g5, c5, rfl⟩ := row_some15 hown (Nat.succ_pos _)
    clear hown hgrow hat HRES v0 lM HM HSTEP
    go_wp2
    go_roundw
    case rel =>
      obtain ⟨v', U', F', r⟩ := HR2.out
      exact ⟨k + 1, v', U', F', by omega, by go_num, r⟩
    case measure => simp [intOf]; omega
end Go.Proofs.Ytokaibpkajloeaa.walks
