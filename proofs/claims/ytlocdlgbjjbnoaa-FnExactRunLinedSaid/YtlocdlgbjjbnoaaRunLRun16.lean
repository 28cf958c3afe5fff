/-
  The program's run of a line.
-/
import Derived.Test.YtlocdlgbjjbnoaaProg
import Derived.Test.YtlocdlgbjjbnoaaMagMath
import Derived.Test.YtlocdlgbjjbnoaaInts
import Derived.Test.YtlocdlgbjjbnoaaOwnInts
import Derived.Test.YtlocdlgbjjbnoaaDeep
import Derived.Test.YtlocdlgbjjbnoaaDeepRow
import Derived.Test.YtlocdlgbjjbnoaaOwnMath
import Derived.Test.YtlocdlgbjjbnoaaLineMath
import Derived.Test.YtlocdlgbjjbnoaaLineStep
import Derived.Test.YtlocdlgbjjbnoaaLineGd
import Derived.Test.YtlocdlgbjjbnoaaLineGood
import Derived.Test.YtlocdlgbjjbnoaaLineGuard
import Derived.Test.YtlocdlgbjjbnoaaRunLMath16
import Derived.Test.YtlocdlgbjjbnoaaRunLSpec16
import Derived.Test.YtlocdlgbjjbnoaaRunLImpl16
import Derived.Test.YtlocdlgbjjbnoaaRunLDo16
import Derived.Deep.RegionWith
import Derived.Deep.RegionHeld3
import Derived.Deep.OwnRows
import Derived.Deep.DeepFit
import Derived.Deep.DeepCutAuto
import Derived.WalkKit
import Derived.WalkSpells
import Derived.Below
import Derived.Handy
import Derived.OwnWalk
namespace Go.Proofs.Ytlocdlgbjjbnoaa.walks
open Go.RowKit Go.Proofs.Ytlocdlgbjjbnoaa.math Go.Proofs.Ytlocdlgbjjbnoaa.ints Go.Proofs.Ytlocdlgbjjbnoaa.deep
set_option linter.unusedVariables false
set_option maxRecDepth 100000

set_option linter.unusedSimpArgs false
/-- What a run comes to. -/
def RunTo (W0 : World) (a : Option Addr) (n cap : Nat) (ga : Option Addr) (g gc gl B : Nat) (r : Option (Rs × Nat)) (e : Ending) (W' : World) : Prop := Below W0.heap.size W0 W' ∧ (r = none → e = .returned (.tuple #[.int .i64 0, .bool false])) ∧ ∀ s d, r = some (s, d) → ∃ v, ProgR W0 W' a n cap ga g gc gl B v s ∧ e = .returned (.tuple #[.int .i64 (d : Int), .bool (decide (s.told.length ≤ 200))])
set_option maxHeartbeats 16000000 in
theorem impl_lrun (W0 : World) (a : Option Addr) (n cap : Nat) (ga : Option Addr) (g gc gl B : Nat) (zs gs : List Int) (fN : Nat) (hfN : fN ≤ 2000) (W : World) (hz : Hid (zs.length = n * 3)) (hn : n ≤ 1048576) (ha : Hid (Ints W0 a zs)) (hgz : Hid (gs.length = g * 4)) (hg : g ≤ 1048576) (hgs : Hid (Ints W0 ga gs)) (hok : LinedOk (zf zs) n (zf gs) g) (v0 : Value) (h : Hid (ProgR W0 W a n cap ga g gc gl B v0 rs0)) (R : Option (Rs × Nat)) (HR : Hid (runR (zf zs) n (zf gs) g fN rs0 0 = R)) :
    Calls Try.prog 47 #[.pointer (some ⟨gl, 0, none⟩), .int .i64 fN] W fun e W' => RunTo W0 a n cap ga g gc gl B R e W' := by
  go_enter Try.func47, Try.ntmps47
  go_wp2
  go_loopw [6] (fun v6 wr => ∃ (s : Rs) (d : Nat) (v : Value), v6 = .int .i64 (d : Int) ∧ Hid (GoodR (zf zs) n (zf gs) g fN s d) ∧ Hid (ProgR W0 wr a n cap ga g gc gl B v s)) (fun v6 _ => fN + 1 - (intOf v6).toNat)
  case atStart => exact ⟨rs0, 0, v0, rfl, goodR_start _ _ _ _ _, h⟩
  case round =>
    obtain ⟨s, d, v, rfl, HG, HP⟩ := hrel
    have HRS : Hid (runR (zf zs) n (zf gs) g (fN - d) s d = R) := by show _ = _; rw [← HG.out.same]; exact HR.out
    have c0 : wr.cell? ⟨gl, 0, none⟩ = some (.slice a n cap) := HP.out.box.cell (i := 0) (by decide)
    have c2 : wr.cell? ⟨gl, 2, none⟩ = some (.int .i64 (s.pc : Int)) := HP.out.box.cell (i := 2) (by decide)
    have cl := HP.out.box.lt
    have q1 : wr.drew.cell? ⟨gl, 0, none⟩ = some (.slice a n cap) ∧ wr.drew.cell? ⟨gl, 2, none⟩ = some (.int .i64 (s.pc : Int)) := ⟨c0, c2⟩
    have PD : Hid (ProgR W0 wr.drew a n cap ga g gc gl B v s) := HP.out.kept (Below.refl _ _).drew
    by_cases hlt : s.pc < n
    rotate_left
    · have hpn : decide (s.pc < n) = false := decide_eq_false hlt
      have hpi : decide ((s.pc : Int) < (n : Int)) = false := decide_eq_false (by omega)
      have HE : Hid (R = some (s, d)) := by show _ = _; rw [← HRS.out, runR_end hlt]
      go_upto_region 2 with fail
      go_region_held3 (fun w' => w'.cell? ⟨gl, 0, none⟩ = some (.slice a n cap) ∧ w'.cell? ⟨gl, 2, none⟩ = some (.int .i64 (s.pc : Int))) (first | with_reducible exact q1 | go_keep) (fail)
      obtain ⟨D, hD⟩ : ∃ D, Hid (wr.drew = D) := ⟨_, rfl⟩
      rw [hD.out] at PD ⊢
      obtain ⟨ta, tc, rfl, _⟩ := PD.out.told.mine
      obtain ⟨tl, htl⟩ : ∃ k, Hid (s.told.length = k) := ⟨_, rfl⟩
      have c43 : D.cell? ⟨gl, 43, none⟩ = some (.slice ta s.told.length tc) := PD.out.box.cell (i := 43) (by decide)
      rw [htl.out] at c43
      have dl := PD.out.box.lt
      have q2 : D.drew.cell? ⟨gl, 43, none⟩ = some (.slice ta tl tc) := c43
      go_upto_region 7 with fail
      go_region_held3 (fun w' => w'.cell? ⟨gl, 43, none⟩ = some (.slice ta tl tc)) (first | with_reducible exact q2 | go_keep) (fail)
      go_wp2
      go_ret2
      refine ⟨PD.out.bel.drew, fun q => (by rw [HE.out] at q; cases q), fun s' d' q => ?_⟩
      rw [HE.out] at q
      simp only [Option.some.injEq, Prod.mk.injEq] at q
      obtain ⟨rfl, rfl⟩ := q
      refine ⟨_, PD.out.kept (Below.refl _ _).drew, ?_⟩
      rw [htl.out]
      go_num
    have hpn : decide (s.pc < n) = true := decide_eq_true hlt
    have hpi : decide ((s.pc : Int) < (n : Int)) = true := decide_eq_true (by omega)
    have hpI : (s.pc : Int) < (n : Int) := by omega
    go_upto_region 2 with fail
    go_region_held3 (fun w' => w'.cell? ⟨gl, 0, none⟩ = some (.slice a n cap) ∧ w'.cell? ⟨gl, 2, none⟩ = some (.int .i64 (s.pc : Int))) (first | with_reducible exact q1 | go_keep) (fail)
    obtain ⟨D, hD⟩ : ∃ D, Hid (wr.drew = D) := ⟨_, rfl⟩
    rw [hD.out] at PD ⊢
    by_cases hdf : d = fN
    · have HE : Hid (R = none) := by
        show _ = _
        rw [← HRS.out, show fN - d = 0 by omega, runR_out hlt]
      subst hdf
      go_wp2
      go_ret2
      exact ⟨PD.out.bel, fun _ => rfl, fun s d q => by rw [HE.out] at q; cases q⟩
    have hdl : d < fN := by have := HG.out.few; omega
    have e1 : ((d : Int) == (fN : Int)) = false := by simp; omega
    have e2 : decide ((d : Int) = (fN : Int)) = false := decide_eq_false (by omega)
    have e3 : (d == fN) = false := by simp; omega
    have e4 : decide (d = fN) = false := decide_eq_false hdf
    have HN := goodR_step HG.out hok hlt hdl
    have hlow : Hid (∀ i, 0 ≤ s.rg i ∧ s.rg i ≤ 5000) := fun i => by have := HG.out.low i; omega
    have htl5 : s.told.length ≤ 5000 := by have := HG.out.told; omega
    obtain ⟨b, o', hab, hb, i0, i1, i2⟩ := lstep_at ha.out hz.out PD.out.bel hlt
    subst hab
    have hbD : b < D.heap.size := by have := PD.out.bel.size; omega
    have hdo := impl_dostep W0 (some ⟨b, o', none⟩) n cap ga g gc gl B v zs gs s D.drew hn hgz hg hgs hok hlt hlow htl5 (PD.out.kept (Below.refl _ _).drew)
    obtain ⟨s2, hs2⟩ : ∃ s2, Hid (stepR (zf zs) n (zf gs) g s = s2) := ⟨_, rfl⟩
    rw [hs2.out] at hdo
    have HN2 : Hid (GoodR (zf zs) n (zf gs) g fN s2 (d + 1)) := by rw [← hs2.out]; exact HN
    clear HN
    generalize lop (zf zs) s.pc = o at i0 hdo
    generalize lnn (zf zs) s.pc = x at i1 hdo
    generalize lto (zf zs) s.pc = t at i2 hdo
    have dc0 : D.cell? ⟨gl, 0, none⟩ = some (.slice (some ⟨b, o', none⟩) n cap) := PD.out.box.cell (i := 0) (by decide)
    have dc2 : D.cell? ⟨gl, 2, none⟩ = some (.int .i64 (s.pc : Int)) := PD.out.box.cell (i := 2) (by decide)
    have dl := PD.out.box.lt
    have q3 : D.drew.cell? ⟨gl, 0, none⟩ = some (.slice (some ⟨b, o', none⟩) n cap) ∧ D.drew.cell? ⟨b, o' + s.pc * 3, none⟩ = some (.int .i64 o) ∧ D.drew.cell? ⟨b, o' + s.pc * 3 + 1, none⟩ = some (.int .i64 x) ∧ D.drew.cell? ⟨b, o' + s.pc * 3 + 2, none⟩ = some (.int .i64 t) := ⟨dc0, i0, i1, i2⟩
    go_upto_region 5 with fail
    refine wp_region_noPanic ?_
    refine wp_region_held_drew (S := (fun w' => w'.cell? ⟨gl, 0, none⟩ = some (.slice (some ⟨b, o', none⟩) n cap) ∧ w'.cell? ⟨b, o' + s.pc * 3, none⟩ = some (.int .i64 o) ∧ w'.cell? ⟨b, o' + s.pc * 3 + 1, none⟩ = some (.int .i64 x) ∧ w'.cell? ⟨b, o' + s.pc * 3 + 2, none⟩ = some (.int .i64 t))) (by kernel_rfl) ?_ (fun hHeld => ?_)
    · (try dsimp only); exact q3
    refine wpAnyH_take (i := 0) (v := ?v21) rfl (by kernel_rfl) (by kernel_rfl) (by kernel_rfl) (fun _ _ _ h => h) (Or.inl ⟨by rfl, ?hy21⟩) (by assumption) ?_
    case hy21 => (intro w hSw; (try dsimp only at hSw); go_simp; try with_reducible rfl)
    try simp only [Act.put, List.setIfInBounds_toArray, List.set_cons_zero, List.set_cons_succ, List.getElem_toArray, List.getElem_cons_zero, List.getElem_cons_succ]
    refine wpAnyH_take (i := 1) (v := ?v22) rfl (by kernel_rfl) (by kernel_rfl) (by kernel_rfl) (fun _ _ _ h => h) (Or.inl ⟨by rfl, ?hy22⟩) (by assumption) ?_
    case hy22 => (intro w hSw; (try dsimp only at hSw); go_simp; try with_reducible rfl)
    try simp only [Act.put, List.setIfInBounds_toArray, List.set_cons_zero, List.set_cons_succ, List.getElem_toArray, List.getElem_cons_zero, List.getElem_cons_succ]
    refine wpAnyH_take (i := 2) (v := ?v23) rfl (by kernel_rfl) (by kernel_rfl) (by kernel_rfl) (fun _ _ _ h => h) (Or.inl ⟨by rfl, ?hy23⟩) (by assumption) ?_
    case hy23 => (intro w hSw; (try dsimp only at hSw); go_simp; try with_reducible rfl)
    try simp only [Act.put, List.setIfInBounds_toArray, List.set_cons_zero, List.set_cons_succ, List.getElem_toArray, List.getElem_cons_zero, List.getElem_cons_succ]
    refine wpAnyH_take (i := 3) (v := ?v24) rfl (by kernel_rfl) (by kernel_rfl) (by kernel_rfl) (fun _ _ _ h => h) (Or.inl ⟨by rfl, ?hy24⟩) (by assumption) ?_
    case hy24 => (intro w hSw; (try dsimp only at hSw); go_simp; try with_reducible rfl)
    try simp only [Act.put, List.setIfInBounds_toArray, List.set_cons_zero, List.set_cons_succ, List.getElem_toArray, List.getElem_cons_zero, List.getElem_cons_succ]
    refine wpAnyH_take (i := 4) (v := ?v25) rfl (by kernel_rfl) (by kernel_rfl) (by kernel_rfl) (fun _ _ _ h => h) (Or.inl ⟨by rfl, ?hy25⟩) (by assumption) ?_
    case hy25 => (intro w hSw; (try dsimp only at hSw); go_simp; try with_reducible rfl)
    try simp only [Act.put, List.setIfInBounds_toArray, List.set_cons_zero, List.set_cons_succ, List.getElem_toArray, List.getElem_cons_zero, List.getElem_cons_succ]
    refine wpAnyH_take (i := 5) (v := ?v26) rfl (by kernel_rfl) (by kernel_rfl) (by kernel_rfl) (fun _ _ _ h => h) (Or.inl ⟨by rfl, ?hy26⟩) (by assumption) ?_
    case hy26 => (intro w hSw; (try dsimp only at hSw); go_simp; try with_reducible rfl)
    try simp only [Act.put, List.setIfInBounds_toArray, List.set_cons_zero, List.set_cons_succ, List.getElem_toArray, List.getElem_cons_zero, List.getElem_cons_succ]
    refine wpAnyH_take (i := 6) (v := ?v27) rfl (by kernel_rfl) (by kernel_rfl) (by kernel_rfl) (fun _ _ _ h => h) (Or.inl ⟨by rfl, ?hy27⟩) (by assumption) ?_
    case hy27 => (intro w hSw; (try dsimp only at hSw); go_simp; try with_reducible rfl)
    try simp only [Act.put, List.setIfInBounds_toArray, List.set_cons_zero, List.set_cons_succ, List.getElem_toArray, List.getElem_cons_zero, List.getElem_cons_succ]
    refine wpAnyH_take (i := 7) (v := ?v28) rfl (by kernel_rfl) (by kernel_rfl) (by kernel_rfl) (fun _ _ _ h => h) (Or.inl ⟨by rfl, ?hy28⟩) (by assumption) ?_
    case hy28 => (intro w hSw; (try dsimp only at hSw); go_simp; try with_reducible rfl)
    try simp only [Act.put, List.setIfInBounds_toArray, List.set_cons_zero, List.set_cons_succ, List.getElem_toArray, List.getElem_cons_zero, List.getElem_cons_succ]
    refine wpAnyH_take (i := 8) (v := ?v29) rfl (by kernel_rfl) (by kernel_rfl) (by kernel_rfl) (fun _ _ _ h => h) (Or.inl ⟨by rfl, ?hy29⟩) (by assumption) ?_
    case hy29 => (intro w hSw; (try dsimp only at hSw); go_simp; try with_reducible rfl)
    try simp only [Act.put, List.setIfInBounds_toArray, List.set_cons_zero, List.set_cons_succ, List.getElem_toArray, List.getElem_cons_zero, List.getElem_cons_succ]
    refine wpAnyH_take (i := 9) (v := ?v30) rfl (by kernel_rfl) (by kernel_rfl) (by kernel_rfl) (fun _ _ _ h => h) (Or.inl ⟨by rfl, ?hy30⟩) (by assumption) ?_
    case hy30 => (intro w hSw; (try dsimp only at hSw); go_simp; try with_reducible rfl)
    try simp only [Act.put, List.setIfInBounds_toArray, List.set_cons_zero, List.set_cons_succ, List.getElem_toArray, List.getElem_cons_zero, List.getElem_cons_succ]
    refine wpAnyH_ready (rs := [10]) (by kernel_rfl) (by simp) ?_
    refine AllReadyH.cons rfl (fun K hK => ?_) AllReadyH.nil
    go_simp
    refine hK.out _ _ ?_ (fun hHeld => ?_)
    · (try dsimp only); exact q3
    clear hK K
    try simp only [Act.put, List.setIfInBounds_toArray, List.set_cons_zero, List.set_cons_succ, List.getElem_toArray, List.getElem_cons_zero, List.getElem_cons_succ]
    refine wpAnyH_take (i := 11) (v := ?v31) rfl (by kernel_rfl) (by kernel_rfl) (by kernel_rfl) (fun _ _ _ h => h) (Or.inl ⟨by rfl, ?hy31⟩) (by assumption) ?_
    case hy31 => (intro w hSw; (try dsimp only at hSw); go_simp; try with_reducible rfl)
    try simp only [Act.put, List.setIfInBounds_toArray, List.set_cons_zero, List.set_cons_succ, List.getElem_toArray, List.getElem_cons_zero, List.getElem_cons_succ]
    refine wpAnyH_take (i := 12) (v := ?v32) rfl (by kernel_rfl) (by kernel_rfl) (by kernel_rfl) (fun _ _ _ h => h) (Or.inl ⟨by rfl, ?hy32⟩) (by assumption) ?_
    case hy32 => (intro w hSw; (try dsimp only at hSw); go_simp; try with_reducible rfl)
    try simp only [Act.put, List.setIfInBounds_toArray, List.set_cons_zero, List.set_cons_succ, List.getElem_toArray, List.getElem_cons_zero, List.getElem_cons_succ]
    refine wpAnyH_ready (rs := [13]) (by kernel_rfl) (by simp) ?_
    refine AllReadyH.cons rfl (fun K hK => ?_) AllReadyH.nil
    go_simp
    refine hdo.mono ?_; rintro e w5 ⟨v', rfl, hP⟩; have P5 : Hid (ProgR W0 w5 (some ⟨b, o', none⟩) n cap ga g gc gl B v' { s2 with pc := s.pc }) := hP; have ib := (hP.bel.block b hb).trans ((PD.out.bel.block b hb).symm); have q5 : w5.cell? ⟨gl, 0, none⟩ = some (.slice (some ⟨b, o', none⟩) n cap) ∧ w5.cell? ⟨b, o' + s.pc * 3, none⟩ = some (.int .i64 o) ∧ w5.cell? ⟨b, o' + s.pc * 3 + 1, none⟩ = some (.int .i64 x) ∧ w5.cell? ⟨b, o' + s.pc * 3 + 2, none⟩ = some (.int .i64 t) := ⟨hP.box.cell (i := 0) (by decide), (World.cell?_of_block ib).trans i0, (World.cell?_of_block ib).trans i1, (World.cell?_of_block ib).trans i2⟩; have P6 : Hid (ProgR W0 (w5.setCell ⟨gl, 2, none⟩ (.int .i64 (s2.pc : Int))) (some ⟨b, o', none⟩) n cap ga g gc gl B v' s2) := hP.to rfl rfl rfl; have ob := (P6.out.bel.block b hb).trans ((PD.out.bel.block b hb).symm); have q6 : (w5.setCell ⟨gl, 2, none⟩ (.int .i64 (s2.pc : Int))).cell? ⟨gl, 0, none⟩ = some (.slice (some ⟨b, o', none⟩) n cap) ∧ (w5.setCell ⟨gl, 2, none⟩ (.int .i64 (s2.pc : Int))).cell? ⟨b, o' + s.pc * 3, none⟩ = some (.int .i64 o) ∧ (w5.setCell ⟨gl, 2, none⟩ (.int .i64 (s2.pc : Int))).cell? ⟨b, o' + s.pc * 3 + 1, none⟩ = some (.int .i64 x) ∧ (w5.setCell ⟨gl, 2, none⟩ (.int .i64 (s2.pc : Int))).cell? ⟨b, o' + s.pc * 3 + 2, none⟩ = some (.int .i64 t) := ⟨P6.out.box.cell (i := 0) (by decide), (World.cell?_of_block ob).trans i0, (World.cell?_of_block ob).trans i1, (World.cell?_of_block ob).trans i2⟩; have c2w : w5.cell? ⟨gl, 2, none⟩ = some (.int .i64 (s.pc : Int)) := hP.box.cell (i := 2) (by decide); have f2w := hP.box.frozen 2; have l2w := hP.box.lt; clear hP; go_wp2_with fail
    refine hK.out _ _ ?_ (fun hHeld => ?_)
    · (try dsimp only); exact q5
    clear hK K
    try simp only [Act.put, List.setIfInBounds_toArray, List.set_cons_zero, List.set_cons_succ, List.getElem_toArray, List.getElem_cons_zero, List.getElem_cons_succ]
    refine wpAnyH_take (i := 14) (v := ?v33) rfl (by kernel_rfl) (by kernel_rfl) (by kernel_rfl) (fun _ _ _ h => h) (Or.inl ⟨by rfl, ?hy33⟩) (by assumption) ?_
    case hy33 => (intro w hSw; (try dsimp only at hSw); go_simp; try with_reducible rfl)
    try simp only [Act.put, List.setIfInBounds_toArray, List.set_cons_zero, List.set_cons_succ, List.getElem_toArray, List.getElem_cons_zero, List.getElem_cons_succ]
    refine wpAnyH_take (i := 15) (v := ?v34) rfl (by kernel_rfl) (by kernel_rfl) (by kernel_rfl) (fun _ _ _ h => h) (Or.inl ⟨by rfl, ?hy34⟩) (by assumption) ?_
    case hy34 => (intro w hSw; (try dsimp only at hSw); go_simp; try with_reducible rfl)
    try simp only [Act.put, List.setIfInBounds_toArray, List.set_cons_zero, List.set_cons_succ, List.getElem_toArray, List.getElem_cons_zero, List.getElem_cons_succ]
    refine wpAnyH_ready (rs := [16]) (by kernel_rfl) (by simp) ?_
    refine AllReadyH.cons rfl (fun K hK => ?_) AllReadyH.nil
    go_simp
    refine hK.out _ _ ?_ (fun hHeld => ?_)
    · (try dsimp only); exact q6
    clear hK K
    try simp only [Act.put, List.setIfInBounds_toArray, List.set_cons_zero, List.set_cons_succ, List.getElem_toArray, List.getElem_cons_zero, List.getElem_cons_succ]
    refine wpAnyH_done (by kernel_rfl) ?_ _
    refine NoPanic.normal ?_
    go_wp2
    go_roundw
    case rel => exact ⟨s2, d + 1, v', by go_num, HN2, P6⟩
    case measure => simp [intOf]; omega

end Go.Proofs.Ytlocdlgbjjbnoaa.walks
