/-
  What the specification's RunCode answers, at every list of steps and every list of words: what is told and the words in the end.
-/
import Derived.Test.YtfejfbafoaiidaaProg
import Derived.Test.YtfejfbafoaiidaaMagMath
import Derived.Test.YtfejfbafoaiidaaCodeMath
import Derived.Test.YtfejfbafoaiidaaRunMath
import Derived.Test.YtfejfbafoaiidaaInts
import Derived.Test.YtfejfbafoaiidaaOwnInts
import Derived.Test.YtfejfbafoaiidaaRecsInstr
import Derived.Test.YtfejfbafoaiidaaCodeGood
import Derived.Test.YtfejfbafoaiidaaCodeRun
import Derived.WalkKit
import Derived.WalkSpells
import Derived.Below
import Derived.Handy
import Derived.Deep.RegionHeld3
namespace Go.Proofs.Ytfejfbafoaiidaa.walks
open Go.RowKit Go.Proofs.Ytfejfbafoaiidaa.math Go.Proofs.Ytfejfbafoaiidaa.ints
set_option linter.unusedVariables false
set_option linter.unusedSimpArgs false

theorem set_new_box (W : World) (a : Addr) (v : Value) (c : Array Value) (t : TypeId) (i : Nat) : ((W.setCell a v).alloc (.cells c t)).cell? ⟨W.heap.size, i, none⟩ = c[i]? := World.cell?_alloc_at _ _ _ _ (by simp [World.setCell])
set_option maxHeartbeats 4000000 in
theorem spec_run (a : Option Addr) (len cap cv g off B : Nat) (zs ws : List Int) (W : World) (hz : Hid (zs.length = len * 5)) (hlen : len ≤ 30) (h : Hid (Ints W a zs)) (hgood : Hid (∀ k, k < len → stepB zs k = true)) (hw : Hid (wordsB ws = true))
    (hv : Hid (Mine W B (some ⟨g, off, none⟩) ws)) (hgl : g < W.heap.size) (hne : Hid (0 < len → ∀ b o, a = some ⟨b, o, none⟩ → b ≠ g)) :
    Calls Try.prog 23 #[.slice a len cap, .slice (some ⟨g, off, none⟩) 8 cv, .slice none 0 0] W fun e W' => ∃ a' c', e = .returned (.slice a' (toldTo zs ws len).length c') ∧ Mine W' W.heap.size a' (toldTo zs ws len) ∧ Mine W' B (some ⟨g, off, none⟩) (runW zs ws len) ∧ W.grownBy W' (some g) := by
  obtain ⟨i0, hi, hz0, hz1, hz2⟩ := info_parts row_info
  go_enter Try.func23, Try.ntmps23
  go_wp2
  go_loopw [2, 11] (fun vt vi wr => ∃ k : Nat, k ≤ len ∧ vi = .int .i64 k ∧ Hid (Own wr W.heap.size vt (toldTo zs ws k)) ∧ Hid (Mine wr B (some ⟨g, off, none⟩) (runW zs ws k)) ∧ Hid (W.grownBy wr (some g))) (fun _ vi _ => len - (intOf vi).toNat)
  case atStart => exact ⟨0, Nat.zero_le _, rfl, own_nil _ _, hv, grow_refl _ _⟩
  case round =>
    obtain ⟨k, hk, rfl, HO, HM, HG⟩ := hrel
    by_cases hlt : k < len
    · have HI : Hid (Ints wr a zs) := ints_far (B := B) h.out (hne.out (by omega)) HG.out
      obtain ⟨b, o', ha, hb, c0, c1, c2, c3, c4⟩ := Instr_at HI.out hz.out (Below.refl _ _) hlt
      subst ha
      have hsz := HG.out.size
      have hgr : g < wr.heap.size := by omega
      have HW : Hid (wordsB (runW zs ws k) = true) := run_words hw.out hgood.out k hk
      have hg := hgood.out k hlt
      unfold stepB at hg
      have HS : Hid (runW zs ws (k + 1) = stepW (runW zs ws k) (zs.getD (k * 5) 0) (zs.getD (k * 5 + 1) 0) (zs.getD (k * 5 + 2) 0) (zs.getD (k * 5 + 3) 0) (zs.getD (k * 5 + 4) 0)) := rfl
      have HT : Hid (toldTo zs ws (k + 1) = toldTo zs ws k ++ toldBy (runW zs ws k) (zs.getD (k * 5) 0) (zs.getD (k * 5 + 2) 0)) := rfl
      generalize zs.getD (k * 5) 0 = o at c0 hg HS HT
      generalize zs.getD (k * 5 + 1) 0 = d at c1 hg HS
      generalize zs.getD (k * 5 + 2) 0 = x at c2 hg HS HT
      generalize zs.getD (k * 5 + 3) 0 = y at c3 hg HS
      generalize zs.getD (k * 5 + 4) 0 = n at c4 hg HS
      have hl8 : (runW zs ws k).length = 8 := (words_out HW.out).1
      have HC : Hid (∀ i, i < 8 → wr.cell? ⟨g, off + i, none⟩ = some (.int .i64 ((runW zs ws k).getD i 0)) ∧ wr.frozen? ⟨g, off + i, none⟩ = false) := by
        rcases HM.out with e | ⟨g', off', e, _, _, hc⟩
        · rw [e] at hl8; simp at hl8
        · simp only [Option.some.injEq, Addr.mk.injEq] at e
          obtain ⟨rfl, rfl, _⟩ := e
          intro i hi
          exact hc i (by omega)
      have HL8 : Hid ((runW zs ws k).length = 8) := hl8
      clear hl8
      rcases good_cases hg with ⟨rfl, ⟨d0, d1⟩, n0, n1⟩ | ⟨rfl, ⟨d0, d1⟩, x0, x1⟩ | ⟨rfl, x0, x1⟩ | ⟨⟨o3, o7⟩, ⟨d0, d1⟩, ⟨x0, x1⟩, y0, y1⟩
      · obtain ⟨dn, rfl⟩ := Int.eq_ofNat_of_zero_le d0
        obtain ⟨e0, f0⟩ := HC.out dn (by omega)
        have HN : Hid (runW zs ws (k + 1) = (runW zs ws k).set dn n) := HS.out
        have HU : Hid (toldTo zs ws (k + 1) = toldTo zs ws k) := by show toldTo zs ws (k + 1) = toldTo zs ws k; rw [HT.out]; simp [toldBy]
        clear hg HS HT
        go_wp2
        go_roundw
        case rel =>
          obtain ⟨q0, q1, q2⟩ := rel_set HO.out HM.out HG.out hgl (j := dn) (by have := HL8.out; omega) n (.cells #[.int .i64 1, .int .i64 (dn : Int), .int .i64 x, .int .i64 y, .int .i64 n] 55)
          exact ⟨k + 1, by omega, by go_num, by rw [HU.out]; exact q0, by rw [HN.out]; exact q1, q2⟩
        case measure => simp [intOf]; omega
      · obtain ⟨dn, rfl⟩ := Int.eq_ofNat_of_zero_le d0
        obtain ⟨xn, rfl⟩ := Int.eq_ofNat_of_zero_le x0
        obtain ⟨e0, f0⟩ := HC.out dn (by omega)
        obtain ⟨e1, _⟩ := HC.out xn (by omega)
        have HN : Hid (runW zs ws (k + 1) = (runW zs ws k).set dn ((runW zs ws k).getD xn 0)) := HS.out
        have HU : Hid (toldTo zs ws (k + 1) = toldTo zs ws k) := by show toldTo zs ws (k + 1) = toldTo zs ws k; rw [HT.out]; simp [toldBy]
        clear hg HS HT
        go_wp2
        go_region
        go_wp2
        go_roundw
        case rel =>
          obtain ⟨q0, q1, q2⟩ := rel_set HO.out HM.out HG.out hgl (j := dn) (by have := HL8.out; omega) ((runW zs ws k).getD xn 0) (.cells #[.int .i64 2, .int .i64 (dn : Int), .int .i64 (xn : Int), .int .i64 y, .int .i64 n] 55)
          rw [List.getD_eq_getElem?_getD] at q0 q1 q2 HN
          exact ⟨k + 1, by omega, by go_num, by rw [HU.out]; exact World.ownsRow.drew q0, by rw [HN.out]; exact q1.kept (Below.drew (Below.refl _ _)), grow_drew q2⟩
        case measure => simp [intOf]; omega
      · obtain ⟨xn, rfl⟩ := Int.eq_ofNat_of_zero_le x0
        obtain ⟨e1, _⟩ := HC.out xn (by omega)
        have HN : Hid (runW zs ws (k + 1) = runW zs ws k) := HS.out
        have HU : Hid (toldTo zs ws (k + 1) = toldTo zs ws k ++ [(runW zs ws k).getD xn 0]) := HT.out
        generalize (runW zs ws k).getD xn 0 = tv at e1 HU
        have htl := told_len zs ws k
        clear hg HS HT
        go_wp2_with (first
          | (at_builtin; refine wpList_append_own _ rfl _ _ 24 rfl W.heap.size 3 i0 (.int .i64 0) 1 8 Try.underlying24 hi hz0 hz1 hz2 rfl (by decide) _ _ _ rfl (World.ownsRow.alloc (World.ownsRow.alloc HO.out _) _) ⟨wr.heap.size + 1, 0, none⟩ 1 1 [.int .i64 tv] rfl rfl ?c1 ?c2 ?c3 ?c4 ?c5 ?_)
          | go_in)
        case c1 =>
          intro j u hj
          match j, hj with
          | 0, hj => simp at hj; subst hj; simp [Addr.add]
        case c2 => exact one_of _
        case c3 => unfold maxLen; omega
        case c4 => omega
        case c5 => simp; omega
        · intro v' w1 hown' hgrow _
          obtain ⟨q0, q1, q2⟩ := rel_told HO.out HM.out HG.out hgl hown' hgrow
          have Q0 : Hid (Own w1 W.heap.size v' (toldTo zs ws k ++ [tv])) := q0
          have Q1 : Hid (Mine w1 B (some ⟨g, off, none⟩) (runW zs ws k)) := q1
          have Q2 : Hid (W.grownBy w1 (some g)) := q2
          clear hown' hgrow q0 q1 q2
          go_wp2
          go_roundw
          case rel => exact ⟨k + 1, by omega, by go_num, by rw [HU.out]; exact Q0, by rw [HN.out]; exact Q1, Q2⟩
          case measure => simp [intOf]; omega
      · obtain ⟨dn, rfl⟩ := Int.eq_ofNat_of_zero_le d0
        obtain ⟨xn, rfl⟩ := Int.eq_ofNat_of_zero_le x0
        obtain ⟨yn, rfl⟩ := Int.eq_ofNat_of_zero_le y0
        obtain ⟨e0, f0⟩ := HC.out dn (by omega)
        obtain ⟨e1, _⟩ := HC.out xn (by omega)
        obtain ⟨e2, _⟩ := HC.out yn (by omega)
        obtain ⟨p0, p1⟩ := word_at HW.out (i := xn) (by omega)
        obtain ⟨r0, r1⟩ := word_at HW.out (i := yn) (by omega)
        have HN : Hid (runW zs ws (k + 1) = (runW zs ws k).set dn (doV o ((runW zs ws k).getD xn 0) ((runW zs ws k).getD yn 0))) := by
          rw [HS.out]; unfold stepW; rw [if_neg (by omega), if_neg (by omega), if_neg (by omega)]; rfl
        have HU : Hid (toldTo zs ws (k + 1) = toldTo zs ws k) := by show toldTo zs ws (k + 1) = toldTo zs ws k; rw [HT.out]; unfold toldBy; rw [if_neg (by omega)]; simp
        generalize (runW zs ws k).getD xn 0 = p at e1 p0 p1 HN
        generalize (runW zs ws k).getD yn 0 = q at e2 r0 r1 HN
        have s1 : (o == 1) = false := by simp; omega
        have s2 : (o == 2) = false := by simp; omega
        have s8 : (o == 8) = false := by simp; omega
        clear hg HS HT
        have dl : (dn : Int) < 8 := by omega
        have xl : (xn : Int) < 8 := by omega
        have yl : (yn : Int) < 8 := by omega
        go_wp2
        refine wp_region_noPanic ?_
        refine wp_region_held_drew (S := fun w' => w'.cell? ⟨wr.heap.size, 0, none⟩ = some (.int .i64 o) ∧ w'.cell? ⟨wr.heap.size, 1, none⟩ = some (.int .i64 (dn : Int)) ∧ w'.cell? ⟨wr.heap.size, 2, none⟩ = some (.int .i64 (xn : Int)) ∧ w'.cell? ⟨wr.heap.size, 3, none⟩ = some (.int .i64 (yn : Int))) (by kernel_rfl) ?_ (fun hHeld => ?_)
        · (try dsimp only); go_keep
        refine wpAnyH_take (i := 0) (v := ?v1) rfl (by kernel_rfl) (by kernel_rfl) (by kernel_rfl) (fun _ _ _ h => h) (Or.inl ⟨by rfl, ?hy1⟩) (by assumption) ?_
        case hy1 => (intro w hSw; (try dsimp only at hSw); go_simp; try with_reducible rfl)
        try simp only [Act.put, List.setIfInBounds_toArray, List.set_cons_zero, List.set_cons_succ]
        refine wpAnyH_take (i := 1) (v := ?v2) rfl (by kernel_rfl) (by kernel_rfl) (by kernel_rfl) (fun _ _ _ h => h) (Or.inl ⟨by rfl, ?hy2⟩) (by assumption) ?_
        case hy2 => (intro w hSw; (try dsimp only at hSw); go_simp; try with_reducible rfl)
        try simp only [Act.put, List.setIfInBounds_toArray, List.set_cons_zero, List.set_cons_succ]
        refine wpAnyH_take (i := 2) (v := ?v3) rfl (by kernel_rfl) (by kernel_rfl) (by kernel_rfl) (fun _ _ _ h => h) (Or.inl ⟨by rfl, ?hy3⟩) (by assumption) ?_
        case hy3 => (intro w hSw; (try dsimp only at hSw); go_simp; try with_reducible rfl)
        try simp only [Act.put, List.setIfInBounds_toArray, List.set_cons_zero, List.set_cons_succ]
        refine wpAnyH_take (i := 3) (v := ?v4) rfl (by kernel_rfl) (by kernel_rfl) (by kernel_rfl) (fun _ _ _ h => h) (Or.inl ⟨by rfl, ?hy4⟩) (by assumption) ?_
        case hy4 => (intro w hSw; (try dsimp only at hSw); go_simp; try with_reducible rfl)
        try simp only [Act.put, List.setIfInBounds_toArray, List.set_cons_zero, List.set_cons_succ]
        refine wpAnyH_take (i := 4) (v := ?v5) rfl (by kernel_rfl) (by kernel_rfl) (by kernel_rfl) (fun _ _ _ h => h) (Or.inl ⟨by rfl, ?hy5⟩) (by assumption) ?_
        case hy5 => (intro w hSw; (try dsimp only at hSw); go_simp; try with_reducible rfl)
        try simp only [Act.put, List.setIfInBounds_toArray, List.set_cons_zero, List.set_cons_succ]
        refine wpAnyH_take (i := 5) (v := ?v6) rfl (by kernel_rfl) (by kernel_rfl) (by kernel_rfl) (fun _ _ _ h => h) (Or.inl ⟨by rfl, ?hy6⟩) (by assumption) ?_
        case hy6 => (intro w hSw; (try dsimp only at hSw); go_simp; try with_reducible rfl)
        try simp only [Act.put, List.setIfInBounds_toArray, List.set_cons_zero, List.set_cons_succ]
        refine wpAnyH_take (i := 6) (v := ?v7) rfl (by kernel_rfl) (by kernel_rfl) (by kernel_rfl) (fun _ _ _ h => h) (Or.inl ⟨by rfl, ?hy7⟩) (by assumption) ?_
        case hy7 => (intro w hSw; (try dsimp only at hSw); go_simp; try with_reducible rfl)
        try simp only [Act.put, List.setIfInBounds_toArray, List.set_cons_zero, List.set_cons_succ]
        refine wpAnyH_take (i := 7) (v := ?v8) rfl (by kernel_rfl) (by kernel_rfl) (by kernel_rfl) (fun _ _ _ h => h) (Or.inl ⟨by rfl, ?hy8⟩) (by assumption) ?_
        case hy8 => (intro w hSw; (try dsimp only at hSw); go_simp; try with_reducible rfl)
        try simp only [Act.put, List.setIfInBounds_toArray, List.set_cons_zero, List.set_cons_succ]
        refine wpAnyH_take (i := 8) (v := ?v9) rfl (by kernel_rfl) (by kernel_rfl) (by kernel_rfl) (fun _ _ _ h => h) (Or.inl ⟨by rfl, ?hy9⟩) (by assumption) ?_
        case hy9 => (intro w hSw; (try dsimp only at hSw); go_simp; try with_reducible rfl)
        try simp only [Act.put, List.setIfInBounds_toArray, List.set_cons_zero, List.set_cons_succ]
        refine wpAnyH_take (i := 10) (v := ?v10) rfl (by kernel_rfl) (by kernel_rfl) (by kernel_rfl) (fun _ _ _ h => h) (Or.inl ⟨by rfl, ?hy10⟩) (by assumption) ?_
        case hy10 => (intro w hSw; (try dsimp only at hSw); go_simp; try with_reducible rfl)
        try simp only [Act.put, List.setIfInBounds_toArray, List.set_cons_zero, List.set_cons_succ]
        refine wpAnyH_take (i := 11) (v := ?v11) rfl (by kernel_rfl) (by kernel_rfl) (by kernel_rfl) (fun _ _ _ h => h) (Or.inl ⟨by rfl, ?hy11⟩) (by assumption) ?_
        case hy11 => (intro w hSw; (try dsimp only at hSw); go_simp; try with_reducible rfl)
        try simp only [Act.put, List.setIfInBounds_toArray, List.set_cons_zero, List.set_cons_succ]
        refine wpAnyH_take (i := 12) (v := ?v12) rfl (by kernel_rfl) (by kernel_rfl) (by kernel_rfl) (fun _ _ _ h => h) (Or.inl ⟨by rfl, ?hy12⟩) (by assumption) ?_
        case hy12 => (intro w hSw; (try dsimp only at hSw); go_simp; try with_reducible rfl)
        try simp only [Act.put, List.setIfInBounds_toArray, List.set_cons_zero, List.set_cons_succ]
        refine wpAnyH_take (i := 13) (v := ?v13) rfl (by kernel_rfl) (by kernel_rfl) (by kernel_rfl) (fun _ _ _ h => h) (Or.inl ⟨by rfl, ?hy13⟩) (by assumption) ?_
        case hy13 => (intro w hSw; (try dsimp only at hSw); go_simp; try with_reducible rfl)
        try simp only [Act.put, List.setIfInBounds_toArray, List.set_cons_zero, List.set_cons_succ]
        refine wpAnyH_ready (rs := [9, 14]) (by kernel_rfl) (by simp) ?_
        refine AllReadyH.cons rfl (fun K hK => ?_) ?_
        · go_simp
          refine hK.out _ _ ?_ (fun hHeld => ?_)
          · (try dsimp only); first | assumption | (refine ⟨?_, ?_, ?_, ?_⟩ <;> exact set_new_box _ _ _ _ _ _)
          clear hK K
          try simp only [Act.put, List.setIfInBounds_toArray, List.set_cons_zero, List.set_cons_succ]
          refine wpAnyH_ready (rs := [14]) (by kernel_rfl) (by simp) ?_
          refine AllReadyH.cons rfl (fun K hK => ?_) AllReadyH.nil
          go_simp
          refine hK.out _ _ ?_ (fun hHeld => ?_)
          · (try dsimp only); first | assumption | (refine ⟨?_, ?_, ?_, ?_⟩ <;> exact set_new_box _ _ _ _ _ _)
          clear hK K
          try simp only [Act.put, List.setIfInBounds_toArray, List.set_cons_zero, List.set_cons_succ]
          refine wpAnyH_ready (rs := [15]) (by kernel_rfl) (by simp) ?_
          refine AllReadyH.cons rfl (fun K hK => ?_) AllReadyH.nil
          go_simp
          (go_at_call 40; refine (spec_do2 _ _ _ _ o3 o7 p0 p1 r0 r1).mono ?_; rintro e w' ⟨rfl, rfl⟩; go_wp2_with fail)
          refine hK.out _ _ ?_ (fun hHeld => ?_)
          · (try dsimp only); first | assumption | (refine ⟨?_, ?_, ?_, ?_⟩ <;> exact set_new_box _ _ _ _ _ _)
          clear hK K
          try simp only [Act.put, List.setIfInBounds_toArray, List.set_cons_zero, List.set_cons_succ]
          refine wpAnyH_take (i := 16) (v := ?v14) rfl (by kernel_rfl) (by kernel_rfl) (by kernel_rfl) (fun _ _ _ h => h) (Or.inl ⟨by rfl, ?hy14⟩) (by assumption) ?_
          case hy14 => (intro w hSw; (try dsimp only at hSw); go_simp; try with_reducible rfl)
          try simp only [Act.put, List.setIfInBounds_toArray, List.set_cons_zero, List.set_cons_succ]
          refine wpAnyH_ready (rs := [17]) (by kernel_rfl) (by simp) ?_
          refine AllReadyH.cons rfl (fun K hK => ?_) AllReadyH.nil
          go_simp
          refine hK.out _ _ ?_ (fun hHeld => ?_)
          · (try dsimp only); first | assumption | (refine ⟨?_, ?_, ?_, ?_⟩ <;> exact set_new_box _ _ _ _ _ _)
          clear hK K
          try simp only [Act.put, List.setIfInBounds_toArray, List.set_cons_zero, List.set_cons_succ]
          refine wpAnyH_done (by kernel_rfl) ?_ _
          refine NoPanic.normal ?_
          (go_wp2; go_roundw; (case rel => (obtain ⟨q0, q1, q2⟩ := rel_set HO.out HM.out HG.out hgl (j := dn) (by have := HL8.out; omega) (doV o p q) (.cells #[.int .i64 o, .int .i64 (dn : Int), .int .i64 (xn : Int), .int .i64 (yn : Int), .int .i64 n] 55); exact ⟨k + 1, by omega, by go_num, by rw [HU.out]; exact World.ownsRow.drew q0, by rw [HN.out]; exact q1.kept (Below.drew (Below.refl _ _)), grow_drew q2⟩)); (case measure => (simp [intOf]; omega)))
        refine AllReadyH.cons rfl (fun K hK => ?_) AllReadyH.nil
        go_simp
        refine hK.out _ _ ?_ (fun hHeld => ?_)
        · (try dsimp only); first | assumption | (refine ⟨?_, ?_, ?_, ?_⟩ <;> exact set_new_box _ _ _ _ _ _)
        clear hK K
        try simp only [Act.put, List.setIfInBounds_toArray, List.set_cons_zero, List.set_cons_succ]
        refine wpAnyH_ready (rs := [9]) (by kernel_rfl) (by simp) ?_
        refine AllReadyH.cons rfl (fun K hK => ?_) AllReadyH.nil
        go_simp
        refine hK.out _ _ ?_ (fun hHeld => ?_)
        · (try dsimp only); first | assumption | (refine ⟨?_, ?_, ?_, ?_⟩ <;> exact set_new_box _ _ _ _ _ _)
        clear hK K
        try simp only [Act.put, List.setIfInBounds_toArray, List.set_cons_zero, List.set_cons_succ]
        refine wpAnyH_ready (rs := [15]) (by kernel_rfl) (by simp) ?_
        refine AllReadyH.cons rfl (fun K hK => ?_) AllReadyH.nil
        go_simp
        (go_at_call 40; refine (spec_do2 _ _ _ _ o3 o7 p0 p1 r0 r1).mono ?_; rintro e w' ⟨rfl, rfl⟩; go_wp2_with fail)
        refine hK.out _ _ ?_ (fun hHeld => ?_)
        · (try dsimp only); first | assumption | (refine ⟨?_, ?_, ?_, ?_⟩ <;> exact set_new_box _ _ _ _ _ _)
        clear hK K
        try simp only [Act.put, List.setIfInBounds_toArray, List.set_cons_zero, List.set_cons_succ]
        refine wpAnyH_take (i := 16) (v := ?v15) rfl (by kernel_rfl) (by kernel_rfl) (by kernel_rfl) (fun _ _ _ h => h) (Or.inl ⟨by rfl, ?hy15⟩) (by assumption) ?_
        case hy15 => (intro w hSw; (try dsimp only at hSw); go_simp; try with_reducible rfl)
        try simp only [Act.put, List.setIfInBounds_toArray, List.set_cons_zero, List.set_cons_succ]
        refine wpAnyH_ready (rs := [17]) (by kernel_rfl) (by simp) ?_
        refine AllReadyH.cons rfl (fun K hK => ?_) AllReadyH.nil
        go_simp
        refine hK.out _ _ ?_ (fun hHeld => ?_)
        · (try dsimp only); first | assumption | (refine ⟨?_, ?_, ?_, ?_⟩ <;> exact set_new_box _ _ _ _ _ _)
        clear hK K
        try simp only [Act.put, List.setIfInBounds_toArray, List.set_cons_zero, List.set_cons_succ]
        refine wpAnyH_done (by kernel_rfl) ?_ _
        refine NoPanic.normal ?_
        (go_wp2; go_roundw; (case rel => (obtain ⟨q0, q1, q2⟩ := rel_set HO.out HM.out HG.out hgl (j := dn) (by have := HL8.out; omega) (doV o p q) (.cells #[.int .i64 o, .int .i64 (dn : Int), .int .i64 (xn : Int), .int .i64 (yn : Int), .int .i64 n] 55); exact ⟨k + 1, by omega, by go_num, by rw [HU.out]; exact World.ownsRow.drew q0, by rw [HN.out]; exact q1.kept (Below.drew (Below.refl _ _)), grow_drew q2⟩)); (case measure => (simp [intOf]; omega)))
    · have HE : Hid (k = len) := by show k = len; omega
      go_wp2
      go_ret
      rw [HE.out] at HO HM
      obtain ⟨a', c', e, hM⟩ := HO.out.mine
      subst e
      exact ⟨a', c', rfl, hM, HM.out, HG.out⟩
/-- What a run answers (its lists may lie anywhere). -/
def SpecAns (zs ws : List Int) (len : Nat) (W : World) (e : Ending) (W' : World) : Prop :=
  ((codeB zs len && wordsB ws) = true ∧ ∃ a' c' a'' c'', e = .returned (.tuple #[.slice a' (toldTo zs ws len).length c', .slice a'' 8 c'', .bool true]) ∧ Ints W' a' (toldTo zs ws len) ∧ Ints W' a'' (runW zs ws len) ∧ Below W.heap.size W W') ∨
  ((codeB zs len && wordsB ws) = false ∧ e = .returned (.tuple #[.slice none 0 0, .slice none 0 0, .bool false]) ∧ Below W.heap.size W W')
theorem ints_news {w : World} {b off : Nat} {ws : List Int} (hc : ∀ i, i < ws.length → w.cell? ⟨b, off + i, none⟩ = some (.int .i64 (ws.getD i 0))) : ∀ (j : Nat) (u : Value), (ws.map (Value.int .i64))[j]? = some u → w.cell? ((⟨b, off, none⟩ : Addr).add j) = some u := by
  intro j u hj
  rw [List.getElem?_map] at hj
  cases hw : ws[j]? with
  | none => rw [hw] at hj; simp at hj
  | some x =>
    rw [hw] at hj
    simp at hj
    subst hj
    have hlt : j < ws.length := (List.getElem?_eq_some_iff.1 hw).1
    have := hc j hlt
    have e : ws.getD j 0 = x := by simp [List.getD, hw]
    rw [e] at this
    have ha : (⟨b, off, none⟩ : Addr).add j = ⟨b, off + j, none⟩ := by unfold Addr.add; split <;> simp_all
    rw [ha]
    exact this
theorem ints_one (ws : List Int) : ∀ u ∈ ws.map (Value.int .i64), u.oneCell' = true := by
  intro u hu
  obtain ⟨x, _, rfl⟩ := List.mem_map.1 hu
  rfl
theorem ints_some {W : World} {a : Option Addr} {ws : List Int} (hi : Ints W a ws) (h : ws.length = 8) : ∃ b off, a = some ⟨b, off, none⟩ ∧ b < W.heap.size ∧ ∀ i, i < ws.length → W.cell? ⟨b, off + i, none⟩ = some (.int .i64 (ws.getD i 0)) := by
  rcases hi with e | e
  · rw [e] at h; simp at h
  · exact e
theorem below_after {W w1 w2 w3 : World} {g : Nat} (h1 : Below W.heap.size W w1) (h2 : Below w1.heap.size w1 w2) (h3 : w2.grownBy w3 (some g)) (hg : w1.heap.size ≤ g) : Below W.heap.size W w3 :=
  (h1.trans (h2.mono h1.size)).grown h3 (Nat.le_trans h1.size h2.size) (fun k hk => by simp at hk; subst hk; exact Nat.le_trans h1.size hg)
set_option maxHeartbeats 2000000 in
theorem spec_runcode (a v : Option Addr) (len cap lv cv : Nat) (zs ws : List Int) (W : World) (hz : Hid (zs.length = len * 5)) (hlen : len ≤ 1048576) (h : Hid (Ints W a zs)) (hz' : Hid (ws.length = lv)) (hlv : lv ≤ 1048576) (h' : Hid (Ints W v ws)) :
    Calls Try.prog 6 #[.slice a len cap, .slice v lv cv] W fun e W' => SpecAns zs ws len W e W' := by
  obtain ⟨i0, hi, hz0, hz1, hz2⟩ := info_parts row_info
  cases hc : codeB zs len
  · go_enter Try.func6, Try.ntmps6
    go_wp2_with (go_at_call 9; refine (spec_code _ _ _ zs _ hz hlen h).mono ?_; rw [hc]; rintro e w1 ⟨rfl, hb⟩; have HB : Hid (Below W.heap.size W w1) := hb; clear hb)
    go_ret3
    exact Or.inr ⟨by rw [hc]; rfl, rfl, HB.out⟩
  have HC : Hid (codeB zs len = true) := hc
  cases hw : wordsB ws
  · go_enter Try.func6, Try.ntmps6
    go_wp2_with (first
      | (go_at_call 9; refine (spec_code _ _ _ zs _ hz hlen h).mono ?_; rw [HC.out]; rintro e w1 ⟨rfl, hb⟩; have HB : Hid (Below W.heap.size W w1) := hb; clear hb)
      | (go_at_call 22; refine (spec_words _ _ _ ws _ hz' hlv (h'.out.kept HB.out)).mono ?_; rw [hw]; rintro e w' ⟨rfl, hw'⟩; rw [hw']; clear hw' w'))
    go_ret3
    exact Or.inr ⟨by rw [HC.out, hw]; rfl, rfl, HB.out⟩
  have HW : Hid (wordsB ws = true) := hw
  obtain ⟨h8, _⟩ := words_out hw
  have e8 : lv = 8 := by rw [← hz'.out]; exact h8
  subst e8
  have h30 := (code_out hc).1
  have HG : Hid (∀ k, k < len → stepB zs k = true) := (code_out hc).2
  clear hc hw
  go_enter Try.func6, Try.ntmps6
  go_wp2_with (first
    | (go_at_call 9; refine (spec_code _ _ _ zs _ hz hlen h).mono ?_; rw [HC.out]; rintro e w1 ⟨rfl, hb⟩; have HB : Hid (Below W.heap.size W w1) := hb; clear hb; obtain ⟨vb, vo, rfl, hvb, hvc⟩ := ints_some (h'.out.kept HB.out) h8; have HV : Hid (∀ i, i < ws.length → w1.cell? ⟨vb, vo + i, none⟩ = some (.int .i64 (ws.getD i 0))) := hvc; clear hvc)
    | (go_at_call 22; refine (spec_words _ _ _ ws _ hz' hlv (h'.out.kept HB.out)).mono ?_; rw [HW.out]; rintro e w' ⟨rfl, hw'⟩; rw [hw']; clear hw' w')
    | (at_builtin; refine wpList_append_own _ rfl _ _ 24 rfl w1.heap.size 3 i0 (.int .i64 0) 1 8 Try.underlying24 hi hz0 hz1 hz2 rfl (by decide) _ 0 [] rfl (World.ownsRow_made w1 #[] 0 (Nat.le_refl _) (Nat.zero_le _) rfl) ⟨vb, vo, none⟩ 8 cv (ws.map (Value.int .i64)) rfl ?c1 ?c2 (ints_one ws) ?c3 ?c4 ?c5 ?_)
    | go_in)
  case c1 => simp [h8]
  case c2 => exact ints_news (fun i hi => (World.cell?_alloc_past _ vb (vo + i) hvb).trans (HV.out i hi))
  case c3 => unfold maxLen; omega
  case c4 => omega
  case c5 => simp
  intro v' w2 hown' hgrow _
  have hO : Own w2 w1.heap.size v' ws := by unfold Own; rw [h8]; exact hown'
  obtain ⟨oa, oc, rfl, hM⟩ := hO.mine
  rw [h8]
  have hB2 : Below w1.heap.size w1 w2 := ((Below.refl w1.heap.size w1).alloc (Nat.le_refl _) _).grown hgrow (by simp) (fun k hk => by simp [Value.ownBlock] at hk; omega)
  obtain ⟨g, off, rfl, hgB, hgl, hgc⟩ : ∃ b off, oa = some ⟨b, off, none⟩ ∧ w1.heap.size ≤ b ∧ b < w2.heap.size ∧ True := by
    rcases hM with e | ⟨b, off, e, q0, q1, _⟩
    · rw [e] at h8; simp at h8
    · exact ⟨b, off, e, q0, q1, trivial⟩
  have HM : Hid (Mine w2 w1.heap.size (some ⟨g, off, none⟩) ws) := hM
  have HB2 : Hid (Below w1.heap.size w1 w2) := hB2
  have HI2 : Hid (Ints w2 a zs) := (h.out.kept HB.out).kept hB2
  have HN : Hid (0 < len → ∀ b o, a = some ⟨b, o, none⟩ → b ≠ g) := by
    show 0 < len → ∀ b o, _
    rintro h0 b o rfl e
    subst e
    rcases h.out.kept HB.out with e | ⟨b', o', e, hb', _⟩
    · have := hz.out; rw [e] at this; simp at this
      omega
    · simp only [Option.some.injEq, Addr.mk.injEq] at e
      omega
  clear hown' hgrow hO hM hB2 hgc h8
  go_wp2_with (go_at_call 23; refine (spec_run _ _ _ _ _ _ _ zs ws _ hz h30 HI2 HG HW HM hgl HN).mono ?_; rintro e w3 ⟨ta, tc, rfl, hT, hV, hGr⟩)
  go_ret3
  exact Or.inl ⟨by rw [HC.out, HW.out]; rfl, ta, tc, _, _, rfl, hT.ints, hV.ints, below_after HB.out HB2.out hGr hgB⟩
end Go.Proofs.Ytfejfbafoaiidaa.walks
