/-
  What the specification's l7Back, l7Code and BackStep answer, at every list of steps and names.
-/
import Derived.Test.YtfmgbalfabpogaaProg
import Derived.Test.YtfmgbalfabpogaaBackSpec
import Derived.WalkKit
import Derived.WalkSpells
import Derived.Below
import Derived.Handy
import Derived.Deep.OwnRows
namespace Go.Proofs.Ytfmgbalfabpogaa.walks
open Go.RowKit Go.Proofs.Ytfmgbalfabpogaa.math Go.Proofs.Ytfmgbalfabpogaa.ints
set_option linter.unusedVariables false
set_option maxRecDepth 100000

theorem adds_put {g : Nat → Bool} {us : List Int} {nn : Nat} (h8 : nn < 8) : putL (risingTo (addS g us) 8) (nn : Int) = risingTo (addS g (us ++ [(nn : Int)])) 8 := by
  rw [put_rising _ h8]
  exact rising_congr 8 (fun i hi => adds_snoc g us nn i (by omega))
theorem adds_start (g : Nat → Bool) (us : List Int) : risingTo (addS g (us.take 0)) 8 = risingTo g 8 := rising_congr 8 (fun i _ => by simp [addS])
theorem back_out {p : Bool} {d a b : Int} {f : Nat → Bool} : risingTo (addS f (usesL 8 a b)) 8 = risingTo (backAt p 8 d a b f) 8 := rising_congr 8 (fun i _ => by unfold addS backAt; simp)
theorem back_yes {p : Bool} {o a b : Int} {dn : Nat} {f : Nat → Bool} (h8 : o ≠ 8) (h : (f dn || p) = true) : risingTo (addS (fun i => f i && !(i == dn)) (usesL o a b)) 8 = risingTo (backAt p o (dn : Int) a b f) 8 := rising_congr 8 (fun i _ => by
  have e8 : (o == 8) = false := by simpa using h8
  unfold addS backAt
  rw [e8]
  simp only [Int.toNat_natCast, Bool.false_or, h, Bool.true_and, Bool.not_false])
theorem back_no {o a b : Int} {dn : Nat} {f : Nat → Bool} (h8 : o ≠ 8) (h : f dn = false) : risingTo (fun i => f i && !(i == dn)) 8 = risingTo (backAt false o (dn : Int) a b f) 8 := rising_congr 8 (fun i _ => by
  have e8 : (o == 8) = false := by simpa using h8
  unfold backAt
  rw [e8]
  simp [h])
theorem rise_1000 (f : Nat → Bool) : (risingTo f 8).length ≤ 1000 := Nat.le_trans (rising_len f 8) (by omega)
theorem rise_big (f : Nat → Bool) : (risingTo f 8).length ≤ 1048576 := Nat.le_trans (rising_len f 8) (by omega)

set_option maxHeartbeats 4000000 in
theorem back_a (d x y n : Int) (p : Bool) (v : Value) (f : Nat → Bool) (W : World) (hg : goodI 8 d x y n = true) (hL : LRow W v (risingTo f 8)) :
    Calls Try.prog 55 #[.agg #[.int .i64 8, .int .i64 d, .int .i64 x, .int .i64 y, .int .i64 n], v, .bool p] W fun e W' => PutAns W (risingTo (backAt p 8 d x y f) 8) e W' := by
  have Hg : Hid (goodI 8 d x y n = true) := hg
  obtain ⟨hu2, hub⟩ := uses_bd hg
  have HU : Hid (∀ j, j < (usesL 8 x y).length → 0 ≤ (usesL 8 x y).getD j 0 ∧ (usesL 8 x y).getD j 0 ≤ 7) := hub
  obtain ⟨us, hus⟩ : ∃ us, usesL 8 x y = us := ⟨_, rfl⟩
  have HUS : Hid (usesL 8 x y = us) := hus
  rw [hus] at hu2 HU
  obtain ⟨va, vc, hv, hvI⟩ := hL.ints
  have HVI : Hid (Ints W va (risingTo f 8)) := hvI
  have HL0 : Hid (LRow W v (risingTo f 8)) := hL
  subst hv
  obtain ⟨g, hgf⟩ : ∃ g, Hid (g = f) := ⟨f, rfl⟩
  have HE : Hid (risingTo (addS g us) 8 = risingTo (backAt p 8 d x y f) 8) := by show _ = _; rw [← hus, hgf.out]; exact back_out
  have HLg : Hid (LRow W (.slice va (risingTo f 8).length vc) (risingTo g 8)) := by rw [hgf.out]; exact HL0.out
  clear hg hus hub hvI hL
  go_enter Try.func55, Try.ntmps55
  go_wp2_with fail
  refine (spec_uses _ _ _ _ _ _ Hg.out).mono ?_
  rw [HUS.out]
  rintro e w2 ⟨ua, uc, rfl, hUI, hUB⟩
  have UI : Hid (Ints w2 ua us) := hUI
  have HB2 : Hid (Below W.heap.size W w2) := ((Below.refl W.heap.size W).alloc (Nat.le_refl _) _).trans (hUB.mono (by simp))
  have HL2 : Hid (LRow w2 _ (risingTo g 8)) := (HLg.out.kept ((Below.refl W.heap.size W).alloc (Nat.le_refl _) _)).kept hUB
  clear hUI hUB
  go_wp2
  go_loopw [1, 33] (fun vt vi wr => ∃ j : Nat, j ≤ us.length ∧ vi = .int .i64 j ∧ Hid (LRow wr vt (risingTo (addS g (us.take j)) 8)) ∧ Hid (Below w2.heap.size w2 wr)) (fun _ vi _ => us.length - (intOf vi).toNat)
  case atStart => exact ⟨0, Nat.zero_le _, rfl, by show LRow _ _ _; rw [adds_start]; exact HL2.out, Below.refl _ _⟩
  case round =>
    obtain ⟨j, hj, rfl, HO, HJ⟩ := hrel
    by_cases hjl : j < us.length
    · obtain ⟨ub, uo, hua, hcell⟩ := UI.out.at HJ.out hjl
      subst hua
      obtain ⟨m0, m7⟩ := HU.out j hjl
      have HTN : Hid (us.take (j + 1) = us.take j ++ [us.getD j 0]) := take_next hjl
      generalize us.getD j 0 = mm at hcell m0 m7 HTN
      obtain ⟨nn, rfl⟩ := Int.eq_ofNat_of_zero_le m0
      have h8 : nn < 8 := by omega
      have hjs := HJ.out.size
      have HP : Hid (putL (risingTo (addS g (us.take j)) 8) (nn : Int) = risingTo (addS g (us.take (j + 1))) 8) := by show _ = _; rw [HTN.out]; exact adds_put h8
      go_wp2_with fail
      refine (spec_put _ _ _ _ HO.out (rise_1000 _)).mono ?_
      rw [HP.out]
      rintro e w' ⟨v', rfl, hL', hB'⟩
      have HL' : Hid (LRow w' v' (risingTo (addS g (us.take (j + 1))) 8)) := hL'
      have HJ' : Hid (Below w2.heap.size w2 w') := HJ.out.trans (hB'.mono hjs)
      clear hL' hB'
      go_wp2
      go_roundw
      case rel => exact ⟨j + 1, by omega, by go_num, HL', HJ'⟩
      case measure => simp [intOf]; omega
    · have HR : Hid (∀ v, LRow wr v (risingTo (addS g (us.take j)) 8) → PutAns W (risingTo (backAt p 8 d x y f) 8) (.returned v) wr) := fun v hv => ⟨v, rfl, by rw [← HE.out]; rw [List.take_of_length_le (by omega)] at hv; exact hv, HB2.out.trans (HJ.out.mono HB2.out.size)⟩
      have HR' := HR.out _ HO.out
      have HR2 : Hid (PutAns W (risingTo (backAt p 8 d x y f) 8) (.returned _) wr) := HR'
      clear HR'
      go_wp2
      go_ret
      exact HR2.out

set_option maxHeartbeats 4000000 in
theorem back_b (o x y n : Int) (dn : Nat) (p : Bool) (v : Value) (f : Nat → Bool) (W : World) (hg : goodI o (dn : Int) x y n = true) (h8 : o ≠ 8) (hd : dn < 8) (hf : f dn = true) (hL : LRow W v (risingTo f 8)) :
    Calls Try.prog 55 #[.agg #[.int .i64 o, .int .i64 (dn : Int), .int .i64 x, .int .i64 y, .int .i64 n], v, .bool p] W fun e W' => PutAns W (risingTo (backAt p o (dn : Int) x y f) 8) e W' := by
  have Hg : Hid (goodI o (dn : Int) x y n = true) := hg
  obtain ⟨hu2, hub⟩ := uses_bd hg
  have HU : Hid (∀ j, j < (usesL o x y).length → 0 ≤ (usesL o x y).getD j 0 ∧ (usesL o x y).getD j 0 ≤ 7) := hub
  obtain ⟨us, hus⟩ : ∃ us, usesL o x y = us := ⟨_, rfl⟩
  have HUS : Hid (usesL o x y = us) := hus
  rw [hus] at hu2 HU
  obtain ⟨va, vc, hv, hvI⟩ := hL.ints
  have HVI : Hid (Ints W va (risingTo f 8)) := hvI
  have HL0 : Hid (LRow W v (risingTo f 8)) := hL
  subst hv
  have HH : Hid (hasB (risingTo f 8) (dn : Int) = true) := (has_set _ hd).trans hf
  have HO : Hid (outL (risingTo f 8) (dn : Int) = risingTo (fun i => f i && !(i == dn)) 8) := out_rising f hd
  have HE : Hid (risingTo (addS (fun i => f i && !(i == dn)) us) 8 = risingTo (backAt p o (dn : Int) x y f) 8) := by show _ = _; rw [← hus]; exact back_yes h8 (by rw [hf]; simp)
  have s1 : (o == 8) = false := by simpa using h8
  have s2 : decide (o = 8) = false := decide_eq_false h8
  obtain ⟨g, hgf⟩ : ∃ g, Hid (g = fun i => f i && !(i == dn)) := ⟨_, rfl⟩
  rw [← hgf.out] at HE HO
  clear hg hus hub hvI hL hf h8
  go_enter Try.func55, Try.ntmps55
  go_wp2_with fail
  refine (spec_has _ _ _ (risingTo f 8) _ _ rfl (rise_big _) (HVI.out.kept ((Below.refl W.heap.size W).alloc (Nat.le_refl _) _))).mono ?_
  rw [HH.out]
  rintro e w' ⟨rfl, hw⟩
  rw [hw]
  clear hw w'
  go_wp2_with fail
  refine (spec_without _ _ _ (risingTo f 8) _ _ rfl (rise_1000 _) (HVI.out.kept ((Below.refl W.heap.size W).alloc (Nat.le_refl _) _))).mono ?_
  rw [HO.out]
  rintro e w1 ⟨v1, rfl, hL1, hB1⟩
  have HL1 : Hid (LRow w1 v1 (risingTo g 8)) := hL1
  have HB1 : Hid (Below W.heap.size W w1) := ((Below.refl W.heap.size W).alloc (Nat.le_refl _) _).trans (hB1.mono (by simp))
  have cx : ∀ i u, (W.alloc (.cells #[.int .i64 o, .int .i64 (dn : Int), .int .i64 x, .int .i64 y, .int .i64 n] 46)).cell? ⟨W.heap.size, i, none⟩ = some u → w1.cell? ⟨W.heap.size, i, none⟩ = some u := fun i u h => (hB1.cell (p := ⟨W.heap.size, i, none⟩) (by simp)).trans h
  have x0 := cx 0 (.int .i64 o) (by simp)
  have x1 := cx 1 (.int .i64 (dn : Int)) (by simp)
  have x2 := cx 2 (.int .i64 x) (by simp)
  have x3 := cx 3 (.int .i64 y) (by simp)
  have x4 := cx 4 (.int .i64 n) (by simp)
  obtain ⟨va1, vc1, hv1, _⟩ := hL1.ints
  subst hv1
  clear hL1 hB1 cx
  obtain ⟨gx, hgx⟩ : ∃ gx, Hid (W.heap.size = gx) := ⟨_, rfl⟩
  first | rw [hgx.out] at x0 x1 x2 x3 x4 ⊢ | skip
  go_wp2_with fail
  refine (spec_uses _ _ _ _ _ _ Hg.out).mono ?_
  rw [HUS.out]
  rintro e w2 ⟨ua, uc, rfl, hUI, hUB⟩
  have UI : Hid (Ints w2 ua us) := hUI
  have HB2 : Hid (Below W.heap.size W w2) := HB1.out.trans (hUB.mono HB1.out.size)
  have HL2 : Hid (LRow w2 _ (risingTo g 8)) := HL1.out.kept hUB
  clear hUI hUB
  go_wp2
  go_loopw [1, 33] (fun vt vi wr => ∃ j : Nat, j ≤ us.length ∧ vi = .int .i64 j ∧ Hid (LRow wr vt (risingTo (addS g (us.take j)) 8)) ∧ Hid (Below w2.heap.size w2 wr)) (fun _ vi _ => us.length - (intOf vi).toNat)
  case atStart => exact ⟨0, Nat.zero_le _, rfl, by show LRow _ _ _; rw [adds_start]; exact HL2.out, Below.refl _ _⟩
  case round =>
    obtain ⟨j, hj, rfl, HO, HJ⟩ := hrel
    by_cases hjl : j < us.length
    · obtain ⟨ub, uo, hua, hcell⟩ := UI.out.at HJ.out hjl
      subst hua
      obtain ⟨m0, m7⟩ := HU.out j hjl
      have HTN : Hid (us.take (j + 1) = us.take j ++ [us.getD j 0]) := take_next hjl
      generalize us.getD j 0 = mm at hcell m0 m7 HTN
      obtain ⟨nn, rfl⟩ := Int.eq_ofNat_of_zero_le m0
      have h8 : nn < 8 := by omega
      have hjs := HJ.out.size
      have HP : Hid (putL (risingTo (addS g (us.take j)) 8) (nn : Int) = risingTo (addS g (us.take (j + 1))) 8) := by show _ = _; rw [HTN.out]; exact adds_put h8
      go_wp2_with fail
      refine (spec_put _ _ _ _ HO.out (rise_1000 _)).mono ?_
      rw [HP.out]
      rintro e w' ⟨v', rfl, hL', hB'⟩
      have HL' : Hid (LRow w' v' (risingTo (addS g (us.take (j + 1))) 8)) := hL'
      have HJ' : Hid (Below w2.heap.size w2 w') := HJ.out.trans (hB'.mono hjs)
      clear hL' hB'
      go_wp2
      go_roundw
      case rel => exact ⟨j + 1, by omega, by go_num, HL', HJ'⟩
      case measure => simp [intOf]; omega
    · have HR : Hid (∀ v, LRow wr v (risingTo (addS g (us.take j)) 8) → PutAns W (risingTo (backAt p o (dn : Int) x y f) 8) (.returned v) wr) := fun v hv => ⟨v, rfl, by rw [← HE.out]; rw [List.take_of_length_le (by omega)] at hv; exact hv, HB2.out.trans (HJ.out.mono HB2.out.size)⟩
      have HR' := HR.out _ HO.out
      have HR2 : Hid (PutAns W (risingTo (backAt p o (dn : Int) x y f) 8) (.returned _) wr) := HR'
      clear HR'
      go_wp2
      go_ret
      exact HR2.out

set_option maxHeartbeats 4000000 in
theorem back_c (o x y n : Int) (dn : Nat) (v : Value) (f : Nat → Bool) (W : World) (hg : goodI o (dn : Int) x y n = true) (h8 : o ≠ 8) (hd : dn < 8) (hf : f dn = false) (hL : LRow W v (risingTo f 8)) :
    Calls Try.prog 55 #[.agg #[.int .i64 o, .int .i64 (dn : Int), .int .i64 x, .int .i64 y, .int .i64 n], v, .bool true] W fun e W' => PutAns W (risingTo (backAt true o (dn : Int) x y f) 8) e W' := by
  have Hg : Hid (goodI o (dn : Int) x y n = true) := hg
  obtain ⟨hu2, hub⟩ := uses_bd hg
  have HU : Hid (∀ j, j < (usesL o x y).length → 0 ≤ (usesL o x y).getD j 0 ∧ (usesL o x y).getD j 0 ≤ 7) := hub
  obtain ⟨us, hus⟩ : ∃ us, usesL o x y = us := ⟨_, rfl⟩
  have HUS : Hid (usesL o x y = us) := hus
  rw [hus] at hu2 HU
  obtain ⟨va, vc, hv, hvI⟩ := hL.ints
  have HVI : Hid (Ints W va (risingTo f 8)) := hvI
  have HL0 : Hid (LRow W v (risingTo f 8)) := hL
  subst hv
  have HH : Hid (hasB (risingTo f 8) (dn : Int) = false) := (has_set _ hd).trans hf
  have HO : Hid (outL (risingTo f 8) (dn : Int) = risingTo (fun i => f i && !(i == dn)) 8) := out_rising f hd
  have HE : Hid (risingTo (addS (fun i => f i && !(i == dn)) us) 8 = risingTo (backAt true o (dn : Int) x y f) 8) := by show _ = _; rw [← hus]; exact back_yes h8 (by rw [hf]; rfl)
  have s1 : (o == 8) = false := by simpa using h8
  have s2 : decide (o = 8) = false := decide_eq_false h8
  obtain ⟨g, hgf⟩ : ∃ g, Hid (g = fun i => f i && !(i == dn)) := ⟨_, rfl⟩
  rw [← hgf.out] at HE HO
  clear hg hus hub hvI hL hf h8
  go_enter Try.func55, Try.ntmps55
  go_wp2_with fail
  refine (spec_has _ _ _ (risingTo f 8) _ _ rfl (rise_big _) (HVI.out.kept ((Below.refl W.heap.size W).alloc (Nat.le_refl _) _))).mono ?_
  rw [HH.out]
  rintro e w' ⟨rfl, hw⟩
  rw [hw]
  clear hw w'
  go_wp2_with fail
  refine (spec_without _ _ _ (risingTo f 8) _ _ rfl (rise_1000 _) (HVI.out.kept ((Below.refl W.heap.size W).alloc (Nat.le_refl _) _))).mono ?_
  rw [HO.out]
  rintro e w1 ⟨v1, rfl, hL1, hB1⟩
  have HL1 : Hid (LRow w1 v1 (risingTo g 8)) := hL1
  have HB1 : Hid (Below W.heap.size W w1) := ((Below.refl W.heap.size W).alloc (Nat.le_refl _) _).trans (hB1.mono (by simp))
  have cx : ∀ i u, (W.alloc (.cells #[.int .i64 o, .int .i64 (dn : Int), .int .i64 x, .int .i64 y, .int .i64 n] 46)).cell? ⟨W.heap.size, i, none⟩ = some u → w1.cell? ⟨W.heap.size, i, none⟩ = some u := fun i u h => (hB1.cell (p := ⟨W.heap.size, i, none⟩) (by simp)).trans h
  have x0 := cx 0 (.int .i64 o) (by simp)
  have x1 := cx 1 (.int .i64 (dn : Int)) (by simp)
  have x2 := cx 2 (.int .i64 x) (by simp)
  have x3 := cx 3 (.int .i64 y) (by simp)
  have x4 := cx 4 (.int .i64 n) (by simp)
  obtain ⟨va1, vc1, hv1, _⟩ := hL1.ints
  subst hv1
  clear hL1 hB1 cx
  obtain ⟨gx, hgx⟩ : ∃ gx, Hid (W.heap.size = gx) := ⟨_, rfl⟩
  first | rw [hgx.out] at x0 x1 x2 x3 x4 ⊢ | skip
  go_wp2_with fail
  refine (spec_uses _ _ _ _ _ _ Hg.out).mono ?_
  rw [HUS.out]
  rintro e w2 ⟨ua, uc, rfl, hUI, hUB⟩
  have UI : Hid (Ints w2 ua us) := hUI
  have HB2 : Hid (Below W.heap.size W w2) := HB1.out.trans (hUB.mono HB1.out.size)
  have HL2 : Hid (LRow w2 _ (risingTo g 8)) := HL1.out.kept hUB
  clear hUI hUB
  go_wp2
  go_loopw [1, 33] (fun vt vi wr => ∃ j : Nat, j ≤ us.length ∧ vi = .int .i64 j ∧ Hid (LRow wr vt (risingTo (addS g (us.take j)) 8)) ∧ Hid (Below w2.heap.size w2 wr)) (fun _ vi _ => us.length - (intOf vi).toNat)
  case atStart => exact ⟨0, Nat.zero_le _, rfl, by show LRow _ _ _; rw [adds_start]; exact HL2.out, Below.refl _ _⟩
  case round =>
    obtain ⟨j, hj, rfl, HO, HJ⟩ := hrel
    by_cases hjl : j < us.length
    · obtain ⟨ub, uo, hua, hcell⟩ := UI.out.at HJ.out hjl
      subst hua
      obtain ⟨m0, m7⟩ := HU.out j hjl
      have HTN : Hid (us.take (j + 1) = us.take j ++ [us.getD j 0]) := take_next hjl
      generalize us.getD j 0 = mm at hcell m0 m7 HTN
      obtain ⟨nn, rfl⟩ := Int.eq_ofNat_of_zero_le m0
      have h8 : nn < 8 := by omega
      have hjs := HJ.out.size
      have HP : Hid (putL (risingTo (addS g (us.take j)) 8) (nn : Int) = risingTo (addS g (us.take (j + 1))) 8) := by show _ = _; rw [HTN.out]; exact adds_put h8
      go_wp2_with fail
      refine (spec_put _ _ _ _ HO.out (rise_1000 _)).mono ?_
      rw [HP.out]
      rintro e w' ⟨v', rfl, hL', hB'⟩
      have HL' : Hid (LRow w' v' (risingTo (addS g (us.take (j + 1))) 8)) := hL'
      have HJ' : Hid (Below w2.heap.size w2 w') := HJ.out.trans (hB'.mono hjs)
      clear hL' hB'
      go_wp2
      go_roundw
      case rel => exact ⟨j + 1, by omega, by go_num, HL', HJ'⟩
      case measure => simp [intOf]; omega
    · have HR : Hid (∀ v, LRow wr v (risingTo (addS g (us.take j)) 8) → PutAns W (risingTo (backAt true o (dn : Int) x y f) 8) (.returned v) wr) := fun v hv => ⟨v, rfl, by rw [← HE.out]; rw [List.take_of_length_le (by omega)] at hv; exact hv, HB2.out.trans (HJ.out.mono HB2.out.size)⟩
      have HR' := HR.out _ HO.out
      have HR2 : Hid (PutAns W (risingTo (backAt true o (dn : Int) x y f) 8) (.returned _) wr) := HR'
      clear HR'
      go_wp2
      go_ret
      exact HR2.out

set_option maxHeartbeats 4000000 in
theorem back_d (o x y n : Int) (dn : Nat) (v : Value) (f : Nat → Bool) (W : World) (hg : goodI o (dn : Int) x y n = true) (h8 : o ≠ 8) (hd : dn < 8) (hf : f dn = false) (hL : LRow W v (risingTo f 8)) :
    Calls Try.prog 55 #[.agg #[.int .i64 o, .int .i64 (dn : Int), .int .i64 x, .int .i64 y, .int .i64 n], v, .bool false] W fun e W' => PutAns W (risingTo (backAt false o (dn : Int) x y f) 8) e W' := by
  have Hg : Hid (goodI o (dn : Int) x y n = true) := hg
  obtain ⟨hu2, hub⟩ := uses_bd hg
  have HU : Hid (∀ j, j < (usesL o x y).length → 0 ≤ (usesL o x y).getD j 0 ∧ (usesL o x y).getD j 0 ≤ 7) := hub
  obtain ⟨us, hus⟩ : ∃ us, usesL o x y = us := ⟨_, rfl⟩
  have HUS : Hid (usesL o x y = us) := hus
  rw [hus] at hu2 HU
  obtain ⟨va, vc, hv, hvI⟩ := hL.ints
  have HVI : Hid (Ints W va (risingTo f 8)) := hvI
  have HL0 : Hid (LRow W v (risingTo f 8)) := hL
  subst hv
  have HH : Hid (hasB (risingTo f 8) (dn : Int) = false) := (has_set _ hd).trans hf
  have HO : Hid (outL (risingTo f 8) (dn : Int) = risingTo (fun i => f i && !(i == dn)) 8) := out_rising f hd
  have HE : Hid (risingTo (fun i => f i && !(i == dn)) 8 = risingTo (backAt false o (dn : Int) x y f) 8) := back_no h8 hf
  have s1 : (o == 8) = false := by simpa using h8
  have s2 : decide (o = 8) = false := decide_eq_false h8
  obtain ⟨g, hgf⟩ : ∃ g, Hid (g = fun i => f i && !(i == dn)) := ⟨_, rfl⟩
  rw [← hgf.out] at HE HO
  clear hg hus hub hvI hL hf h8
  go_enter Try.func55, Try.ntmps55
  go_wp2_with fail
  refine (spec_has _ _ _ (risingTo f 8) _ _ rfl (rise_big _) (HVI.out.kept ((Below.refl W.heap.size W).alloc (Nat.le_refl _) _))).mono ?_
  rw [HH.out]
  rintro e w' ⟨rfl, hw⟩
  rw [hw]
  clear hw w'
  go_wp2_with fail
  refine (spec_without _ _ _ (risingTo f 8) _ _ rfl (rise_1000 _) (HVI.out.kept ((Below.refl W.heap.size W).alloc (Nat.le_refl _) _))).mono ?_
  rw [HO.out]
  rintro e w1 ⟨v1, rfl, hL1, hB1⟩
  have HL1 : Hid (LRow w1 v1 (risingTo g 8)) := hL1
  have HB1 : Hid (Below W.heap.size W w1) := ((Below.refl W.heap.size W).alloc (Nat.le_refl _) _).trans (hB1.mono (by simp))
  have cx : ∀ i u, (W.alloc (.cells #[.int .i64 o, .int .i64 (dn : Int), .int .i64 x, .int .i64 y, .int .i64 n] 46)).cell? ⟨W.heap.size, i, none⟩ = some u → w1.cell? ⟨W.heap.size, i, none⟩ = some u := fun i u h => (hB1.cell (p := ⟨W.heap.size, i, none⟩) (by simp)).trans h
  have x0 := cx 0 (.int .i64 o) (by simp)
  have x1 := cx 1 (.int .i64 (dn : Int)) (by simp)
  have x2 := cx 2 (.int .i64 x) (by simp)
  have x3 := cx 3 (.int .i64 y) (by simp)
  have x4 := cx 4 (.int .i64 n) (by simp)
  obtain ⟨va1, vc1, hv1, _⟩ := hL1.ints
  subst hv1
  clear hL1 hB1 cx
  obtain ⟨gx, hgx⟩ : ∃ gx, Hid (W.heap.size = gx) := ⟨_, rfl⟩
  first | rw [hgx.out] at x0 x1 x2 x3 x4 ⊢ | skip
  have HR : Hid (PutAns W (risingTo (backAt false o (dn : Int) x y f) 8) (.returned _) w1) := ⟨_, rfl, by rw [← HE.out]; exact HL1.out, HB1.out⟩
  go_wp2
  go_ret
  exact HR.out
end Go.Proofs.Ytfmgbalfabpogaa.walks
