/-
  What RunSteps answers, of the program.
-/
import Derived.Test.YtdacpbhdemkacaaProg
import Derived.Test.YtdacpbhdemkacaaMagMath
import Derived.Test.YtdacpbhdemkacaaRunMath
import Derived.Test.YtdacpbhdemkacaaStackMath
import Derived.Test.YtdacpbhdemkacaaFrameMath
import Derived.Test.YtdacpbhdemkacaaStackBase
import Derived.Test.YtdacpbhdemkacaaDepths
import Derived.Test.YtdacpbhdemkacaaFrames
import Derived.Test.YtdacpbhdemkacaaRunFrame
import Derived.Test.YtdacpbhdemkacaaDoFrame
import Derived.Test.YtdacpbhdemkacaaFrameRun
import Derived.Test.YtdacpbhdemkacaaCloneOwn
import Derived.Test.YtdacpbhdemkacaaLater
import Derived.Test.YtdacpbhdemkacaaInts
import Derived.Test.YtdacpbhdemkacaaOwnInts
import Derived.Test.YtdacpbhdemkacaaDeep
import Derived.Test.YtdacpbhdemkacaaDeepRow
import Derived.WalkKit
import Derived.WalkSpells
import Derived.Below
import Derived.Handy
import Derived.Deep.DeepFit
import Derived.Deep.OwnRows
import Derived.Deep.QuietTactic
import Derived.BigQuiet
import Derived.Deep.RegionHeld3
import Derived.Deep.DeepCutAuto
import Derived.Laws.OwnMore
namespace Go.Proofs.Ytdacpbhdemkacaa.walks
open Go.RowKit Go.Proofs.Ytdacpbhdemkacaa.math Go.Proofs.Ytdacpbhdemkacaa.ints Go.Proofs.Ytdacpbhdemkacaa.deep
set_option linter.unusedVariables false
set_option maxRecDepth 100000

theorem holds_cap {w : World} {len sz : Nat} {cs : Nat → Dv} {a : Option Addr} {cap : Nat} (h : Holds w true (.l len sz cs) (.slice a len cap)) : len ≤ cap ∧ cap ≤ 1048576 := by
  obtain ⟨a', cap', e, hc, _⟩ := h
  simp only [Value.slice.injEq, true_and] at e
  obtain ⟨rfl, rfl⟩ := e
  exact hc rfl
/-- A frame that is answered, in lists of its own, and a truth value. -/
def RsAns (g : Fs) (ok : Bool) (W : World) (e : Ending) (W' : World) : Prop := ∃ vl vs vt, e = .returned (.tuple #[.agg #[vl, vs, vt], .bool ok]) ∧ Own W' W.heap.size vl g.l ∧ Own W' W.heap.size vs g.s ∧ Own W' W.heap.size vt g.t ∧ (∀ x, vl.ownBlock = some x → vs.ownBlock ≠ some x) ∧ (∀ x, vl.ownBlock = some x → vt.ownBlock ≠ some x) ∧ (∀ x, vs.ownBlock = some x → vt.ownBlock ≠ some x) ∧ Below W.heap.size W W'
theorem rs_zero {W W' : World} (hB : Below W.heap.size W W') : RsAns ⟨[], [], []⟩ false W (.returned (.tuple #[.agg #[.slice none 0 0, .slice none 0 0, .slice none 0 0], .bool false])) W' :=
  ⟨_, _, _, rfl, own_nil _ _, own_nil _ _, own_nil _ _, (fun x q => by cases q), (fun x q => by cases q), (fun x q => by cases q), hB⟩
set_option maxHeartbeats 8000000 in
theorem impl_runsteps (a : Option Addr) (n cap : Nat) (cs : Nat → Dv) (c : Bool) (a0 : Option Addr) (l0 c0 : Nat) (a1 : Option Addr) (l1 c1 : Nat) (a2 : Option Addr) (l2 c2 : Nat) (f : Fs) (b t : Int) (W : World) (hf : Hid (Fits shSStepS (.l n 2 cs))) (hs : Hid (szD (.l n 2 cs) ≤ 1048576)) (h : Hid (Holds W c (.l n 2 cs) (.slice a n cap))) (hcap : c = true) (H0 : Hid (f.l.length = l0)) (H1 : Hid (f.s.length = l1)) (H2 : Hid (f.t.length = l2)) (x0 : l0 ≤ 1048576) (x1 : l1 ≤ 1048576) (x2 : l2 ≤ 1048576) (I0 : Hid (Ints W a0 f.l)) (I1 : Hid (Ints W a1 f.s)) (I2 : Hid (Ints W a2 f.t)) :
    Calls Try.prog 25 #[.slice a n cap, .agg #[.slice a0 l0 c0, .slice a1 l1 c1, .slice a2 l2 c2], .int .i64 b, .int .i64 t] W fun e W' => RsAns (rsF cs n f b t) (rsB cs n f b t) W e W' := by
  have HD : Hid (∀ V, Below W.heap.size W V → Calls Try.prog 14 #[.slice a n cap] V fun e W' => DepAns cs n V e W') := fun V hV => impl_depths a n cap cs c V hf hs (h.out.kept hV)
  have HG : Hid (∀ V, Below W.heap.size W V → Calls Try.prog 22 #[.agg #[.slice a0 l0 c0, .slice a1 l1 c1, .slice a2 l2 c2]] V fun e W' => e = .returned (.bool (frameB f.l f.s f.t)) ∧ Below V.heap.size V W') := fun V hV => impl_frame a0 l0 c0 a1 l1 c1 a2 l2 c2 f.l f.s f.t V H0 H1 H2 x0 x1 x2 (I0.out.kept hV) (I1.out.kept hV) (I2.out.kept hV)
  have HR : Hid (∀ V, Below W.heap.size W V → Calls Try.prog 43 #[.agg #[.slice a0 l0 c0, .slice a1 l1 c1, .slice a2 l2 c2]] V fun e W' => ∃ p, e = .returned (.pointer (some ⟨p, 0, none⟩)) ∧ FrameAt W' V.heap.size p f.l f.s f.t ∧ Below V.heap.size V W') := fun V hV => impl_frun a0 l0 c0 a1 l1 c1 a2 l2 c2 f.l f.s f.t V H0 H1 H2 x0 x1 x2 (I0.out.kept hV) (I1.out.kept hV) (I2.out.kept hV)
  have hn : n ≤ 1048576 := Nat.le_trans (Nat.le_add_right _ _) hs.out
  clear I0 I1 I2 H0 H2
  obtain ⟨X, hX⟩ : ∃ X, Hid ((W.alloc (.cells #[.slice a0 l0 c0, .slice a1 l1 c1, .slice a2 l2 c2] 39)).alloc (.cells #[.slice none 0 0, .slice none 0 0, .slice none 0 0] 39) = X) := ⟨_, rfl⟩
  have HX : Hid (Below W.heap.size W X) := by show Below _ _ _; rw [← hX.out]; go_grown
  have HP : Hid (X.rowIs W.heap.size 39 3 (rowF [.slice a0 l0 c0, .slice a1 l1 c1, .slice a2 l2 c2])) := by show World.rowIs _ _ _ _ _; rw [← hX.out]; exact (row_of W #[.slice a0 l0 c0, .slice a1 l1 c1, .slice a2 l2 c2] 39).alloc _
  have HZ : Hid (X.rowIs (W.heap.size + 1) 39 3 (rowF [.slice none 0 0, .slice none 0 0, .slice none 0 0])) := by
    have q := row_of (W.alloc (.cells #[.slice a0 l0 c0, .slice a1 l1 c1, .slice a2 l2 c2] 39)) #[.slice none 0 0, .slice none 0 0, .slice none 0 0] 39
    rw [show (W.alloc (.cells #[.slice a0 l0 c0, .slice a1 l1 c1, .slice a2 l2 c2] 39)).heap.size = W.heap.size + 1 by simp] at q
    show World.rowIs _ _ _ _ _
    rw [← hX.out]; exact q
  have hcg := HD.out X HX.out
  go_enter Try.func25, Try.ntmps25
  go_wp2_with fail
  rw [hX.out]
  clear hX
  refine hcg.mono ?_
  rintro e w1 ⟨vd, rfl, hO, hB⟩
  have O1 : Hid (Own w1 X.heap.size vd (depZ cs n)) := hO
  have B1 : Hid (Below X.heap.size X w1) := hB
  clear hO hB hcg
  have KP := HP.out.of_block (B1.out.block _ HP.out.lt)
  have KZ := HZ.out.of_block (B1.out.block _ HZ.out.lt)
  have p0 : w1.cell? ⟨W.heap.size, 0, none⟩ = some (.slice a0 l0 c0) := KP.cell (i := 0) (by decide)
  have p1 : w1.cell? ⟨W.heap.size, 1, none⟩ = some (.slice a1 l1 c1) := KP.cell (i := 1) (by decide)
  have p2 : w1.cell? ⟨W.heap.size, 2, none⟩ = some (.slice a2 l2 c2) := KP.cell (i := 2) (by decide)
  have lp : W.heap.size < w1.heap.size := KP.lt
  cases hst : stepsB cs n
  · have HNO : Hid (rsB cs n f b t = false) := rs_no (fun q => by rw [hst] at q; cases q.1)
    have z0 : w1.cell? ⟨W.heap.size + 1, 0, none⟩ = some (.slice none 0 0) := KZ.cell (i := 0) (by decide)
    have fz0 : w1.frozen? ⟨W.heap.size + 1, 0, none⟩ = false := KZ.frozen 0
    have z1 : w1.cell? ⟨W.heap.size + 1, 1, none⟩ = some (.slice none 0 0) := KZ.cell (i := 1) (by decide)
    have fz1 : w1.frozen? ⟨W.heap.size + 1, 1, none⟩ = false := KZ.frozen 1
    have z2 : w1.cell? ⟨W.heap.size + 1, 2, none⟩ = some (.slice none 0 0) := KZ.cell (i := 2) (by decide)
    have fz2 : w1.frozen? ⟨W.heap.size + 1, 2, none⟩ = false := KZ.frozen 2
    have lz : W.heap.size + 1 < w1.heap.size := KZ.lt
    clear O1
    obtain ⟨R, HR1⟩ : ∃ R, Hid (R = RsAns (rsF cs n f b t) (rsB cs n f b t) W) := ⟨_, rfl⟩
    go_wp2
    go_quiet (fail)
    go_wp2
    refine bodyPost_ret (v := .tuple #[.agg #[.slice none 0 0, .slice none 0 0, .slice none 0 0], .bool false]) (by simp only [results, Try.results25]; go_simp) rfl ?_
    rw [rsF_no HNO.out, HNO.out]
    refine rs_zero (Below.trans (HX.out.trans (B1.out.mono HX.out.size)) ?_)
    iterate 3 refine Below.setCell ?_ (by simp; try omega) _
    repeat (first | exact Below.refl _ _ | exact below_drewN (Below.refl _ _) _)
  have HDL : Hid (depZ cs n = depL cs n) := depZ_yes hst
  rw [HDL.out] at O1
  obtain ⟨gd, cd, ed, hgd, hgl, hcd, hcm⟩ := own_form13 O1.out (by rw [depL_len]; omega)
  rw [depL_len] at ed hcd
  subst ed
  have n20 : n ≤ 20 := (steps_out hst).1
  have HGQ : Hid (∀ q : Later w1, Calls Try.prog 22 #[.agg #[.slice a0 l0 c0, .slice a1 l1 c1, .slice a2 l2 c2]] q.w fun e W' => e = .returned (.bool (frameB f.l f.s f.t)) ∧ Below q.w.heap.size q.w W') := fun q => HG.out q.w (HX.out.trans ((B1.out.trans (q.bel.mono B1.out.size)).mono HX.out.size))
  have qq0 : ∀ q : Later w1, q.w.cell? ⟨W.heap.size, 0, none⟩ = some (.slice a0 l0 c0) := Later.cell lp p0
  have qq1 : ∀ q : Later w1, q.w.cell? ⟨W.heap.size, 1, none⟩ = some (.slice a1 l1 c1) := Later.cell lp p1
  have qq2 : ∀ q : Later w1, q.w.cell? ⟨W.heap.size, 2, none⟩ = some (.slice a2 l2 c2) := Later.cell lp p2
  unfold maxLen at hcm
  cases hfr : frameB f.l f.s f.t
  · have HNO : Hid (rsB cs n f b t = false) := rs_no (fun q => by rw [hfr] at q; cases q.2.1)
    rw [hfr] at HGQ
    have hbt : inR 0 0 0 = true := rfl
    go_wp2_with fail
    refine wp_region_later w1 (by kernel_rfl) (by kernel_rfl) (Below.refl _ _) ?_
    repeat (go_big_quiet_step (first
      | (go_at_call 22; exact calls_later (HGQ.out _))
      | (go_at_call 42; exact calls_later_same (btw_quiet hbt _))
      | fail))
    refine wpQuiet_nil ?_
    intro q
    obtain ⟨w2, hB⟩ := q
    dsimp only
    have B2 : Hid (Below X.heap.size X w2) := B1.out.trans (hB.mono B1.out.size)
    clear hB qq0 qq1 qq2 p0 p1 p2 KP KZ lp
    have KP := HP.out.of_block (B2.out.block _ HP.out.lt)
    have KZ := HZ.out.of_block (B2.out.block _ HZ.out.lt)
    have p0 : w2.cell? ⟨W.heap.size, 0, none⟩ = some (.slice a0 l0 c0) := KP.cell (i := 0) (by decide)
    have p1 : w2.cell? ⟨W.heap.size, 1, none⟩ = some (.slice a1 l1 c1) := KP.cell (i := 1) (by decide)
    have p2 : w2.cell? ⟨W.heap.size, 2, none⟩ = some (.slice a2 l2 c2) := KP.cell (i := 2) (by decide)
    have lp : W.heap.size < w2.heap.size := KP.lt
    have z0 : w2.cell? ⟨W.heap.size + 1, 0, none⟩ = some (.slice none 0 0) := KZ.cell (i := 0) (by decide)
    have fz0 : w2.frozen? ⟨W.heap.size + 1, 0, none⟩ = false := KZ.frozen 0
    have z1 : w2.cell? ⟨W.heap.size + 1, 1, none⟩ = some (.slice none 0 0) := KZ.cell (i := 1) (by decide)
    have fz1 : w2.frozen? ⟨W.heap.size + 1, 1, none⟩ = false := KZ.frozen 1
    have z2 : w2.cell? ⟨W.heap.size + 1, 2, none⟩ = some (.slice none 0 0) := KZ.cell (i := 2) (by decide)
    have fz2 : w2.frozen? ⟨W.heap.size + 1, 2, none⟩ = false := KZ.frozen 2
    have lz : W.heap.size + 1 < w2.heap.size := KZ.lt
    go_wp2
    refine bodyPost_ret (v := .tuple #[.agg #[.slice none 0 0, .slice none 0 0, .slice none 0 0], .bool false]) (by simp only [results, Try.results25]; go_simp) rfl ?_
    rw [rsF_no HNO.out, HNO.out]
    refine rs_zero (Below.trans (HX.out.trans (B2.out.mono HX.out.size)) ?_)
    iterate 3 refine Below.setCell ?_ (by simp; try omega) _
    repeat (first | exact Below.refl _ _ | exact below_drewN (Below.refl _ _) _)
  rw [hfr] at HGQ
  cases hbt : inR b 0 t
  · have HNO : Hid (rsB cs n f b t = false) := rs_no (fun q => by rw [inR_mk q.2.2.1 q.2.2.2.1] at hbt; cases hbt)
    go_wp2_with fail
    refine wp_region_later w1 (by kernel_rfl) (by kernel_rfl) (Below.refl _ _) ?_
    repeat (go_big_quiet_step (first
      | (go_at_call 22; exact calls_later (HGQ.out _))
      | (go_at_call 42; exact calls_later_same (btw_quiet hbt _))
      | fail))
    refine wpQuiet_nil ?_
    intro q
    obtain ⟨w2, hB⟩ := q
    dsimp only
    have B2 : Hid (Below X.heap.size X w2) := B1.out.trans (hB.mono B1.out.size)
    clear hB qq0 qq1 qq2 p0 p1 p2 KP KZ lp
    have KP := HP.out.of_block (B2.out.block _ HP.out.lt)
    have KZ := HZ.out.of_block (B2.out.block _ HZ.out.lt)
    have p0 : w2.cell? ⟨W.heap.size, 0, none⟩ = some (.slice a0 l0 c0) := KP.cell (i := 0) (by decide)
    have p1 : w2.cell? ⟨W.heap.size, 1, none⟩ = some (.slice a1 l1 c1) := KP.cell (i := 1) (by decide)
    have p2 : w2.cell? ⟨W.heap.size, 2, none⟩ = some (.slice a2 l2 c2) := KP.cell (i := 2) (by decide)
    have lp : W.heap.size < w2.heap.size := KP.lt
    have z0 : w2.cell? ⟨W.heap.size + 1, 0, none⟩ = some (.slice none 0 0) := KZ.cell (i := 0) (by decide)
    have fz0 : w2.frozen? ⟨W.heap.size + 1, 0, none⟩ = false := KZ.frozen 0
    have z1 : w2.cell? ⟨W.heap.size + 1, 1, none⟩ = some (.slice none 0 0) := KZ.cell (i := 1) (by decide)
    have fz1 : w2.frozen? ⟨W.heap.size + 1, 1, none⟩ = false := KZ.frozen 1
    have z2 : w2.cell? ⟨W.heap.size + 1, 2, none⟩ = some (.slice none 0 0) := KZ.cell (i := 2) (by decide)
    have fz2 : w2.frozen? ⟨W.heap.size + 1, 2, none⟩ = false := KZ.frozen 2
    have lz : W.heap.size + 1 < w2.heap.size := KZ.lt
    go_wp2
    refine bodyPost_ret (v := .tuple #[.agg #[.slice none 0 0, .slice none 0 0, .slice none 0 0], .bool false]) (by simp only [results, Try.results25]; go_simp) rfl ?_
    rw [rsF_no HNO.out, HNO.out]
    refine rs_zero (Below.trans (HX.out.trans (B2.out.mono HX.out.size)) ?_)
    iterate 3 refine Below.setCell ?_ (by simp; try omega) _
    repeat (first | exact Below.refl _ _ | exact below_drewN (Below.refl _ _) _)
  obtain ⟨b0, bt⟩ := inR_out hbt
  by_cases htn : t ≤ (n : Int)
  rotate_left
  · have HNO : Hid (rsB cs n f b t = false) := rs_no (fun q => htn q.2.2.2.2.1)
    have d1 : decide ((n : Int) < t) = true := decide_eq_true (by omega)
    have d2 : (n : Int) < t := by omega
    clear htn
    go_wp2_with fail
    refine wp_region_later w1 (by kernel_rfl) (by kernel_rfl) (Below.refl _ _) ?_
    repeat (go_big_quiet_step (first
      | (go_at_call 22; exact calls_later (HGQ.out _))
      | (go_at_call 42; exact calls_later_same (btw_quiet hbt _))
      | fail))
    refine wpQuiet_nil ?_
    intro q
    obtain ⟨w2, hB⟩ := q
    dsimp only
    have B2 : Hid (Below X.heap.size X w2) := B1.out.trans (hB.mono B1.out.size)
    clear hB qq0 qq1 qq2 p0 p1 p2 KP KZ lp
    have KP := HP.out.of_block (B2.out.block _ HP.out.lt)
    have KZ := HZ.out.of_block (B2.out.block _ HZ.out.lt)
    have p0 : w2.cell? ⟨W.heap.size, 0, none⟩ = some (.slice a0 l0 c0) := KP.cell (i := 0) (by decide)
    have p1 : w2.cell? ⟨W.heap.size, 1, none⟩ = some (.slice a1 l1 c1) := KP.cell (i := 1) (by decide)
    have p2 : w2.cell? ⟨W.heap.size, 2, none⟩ = some (.slice a2 l2 c2) := KP.cell (i := 2) (by decide)
    have lp : W.heap.size < w2.heap.size := KP.lt
    have z0 : w2.cell? ⟨W.heap.size + 1, 0, none⟩ = some (.slice none 0 0) := KZ.cell (i := 0) (by decide)
    have fz0 : w2.frozen? ⟨W.heap.size + 1, 0, none⟩ = false := KZ.frozen 0
    have z1 : w2.cell? ⟨W.heap.size + 1, 1, none⟩ = some (.slice none 0 0) := KZ.cell (i := 1) (by decide)
    have fz1 : w2.frozen? ⟨W.heap.size + 1, 1, none⟩ = false := KZ.frozen 1
    have z2 : w2.cell? ⟨W.heap.size + 1, 2, none⟩ = some (.slice none 0 0) := KZ.cell (i := 2) (by decide)
    have fz2 : w2.frozen? ⟨W.heap.size + 1, 2, none⟩ = false := KZ.frozen 2
    have lz : W.heap.size + 1 < w2.heap.size := KZ.lt
    go_wp2
    refine bodyPost_ret (v := .tuple #[.agg #[.slice none 0 0, .slice none 0 0, .slice none 0 0], .bool false]) (by simp only [results, Try.results25]; go_simp) rfl ?_
    rw [rsF_no HNO.out, HNO.out]
    refine rs_zero (Below.trans (HX.out.trans (B2.out.mono HX.out.size)) ?_)
    iterate 3 refine Below.setCell ?_ (by simp; try omega) _
    repeat (first | exact Below.refl _ _ | exact below_drewN (Below.refl _ _) _)
  obtain ⟨bb, rfl⟩ : ∃ q : Nat, b = (q : Int) := ⟨b.toNat, by omega⟩
  obtain ⟨tt, rfl⟩ : ∃ q : Nat, t = (q : Int) := ⟨t.toNat, by omega⟩
  have d1 : decide ((n : Int) < (tt : Int)) = false := decide_eq_false (by omega)
  have d1n : decide (n < tt) = false := decide_eq_false (by omega)
  have htn' : tt ≤ n := by omega
  have bt' : bb ≤ tt := by omega
  have bbn : bb ≤ n := by omega
  have bbI : (bb : Int) < (n : Int) + 1 := by omega
  have qd : ∀ q : Later w1, q.w.cell? ⟨gd, bb, none⟩ = some (.int .i64 (dpt cs bb)) := Later.cell hgl (by
    have q := own_cell13 (k := bb) (by rw [depL_len]; exact O1.out) (by rw [depL_len]; omega)
    rw [depL_at cs bbn] at q; exact q)
  have HDP := H1.out
  by_cases hdp : (l1 : Int) = dpt cs bb
  rotate_left
  · have HNO : Hid (rsB cs n f (bb : Int) (tt : Int) = false) := rs_no (fun q => hdp (by have r := q.2.2.2.2.2.1; rw [H1.out] at r; exact r))
    have d3 : decide ((l1 : Int) = dpt cs bb) = false := decide_eq_false hdp
    have d4 : ((l1 : Int) == dpt cs bb) = false := by simpa using hdp
    have d5 : ((l1 : Int) != dpt cs bb) = true := by simpa using hdp
    go_wp2_with fail
    refine wp_region_later w1 (by kernel_rfl) (by kernel_rfl) (Below.refl _ _) ?_
    repeat (go_big_quiet_step (first
      | (go_at_call 22; exact calls_later (HGQ.out _))
      | (go_at_call 42; exact calls_later_same (btw_quiet hbt _))
      | fail))
    refine wpQuiet_nil ?_
    intro q
    obtain ⟨w2, hB⟩ := q
    dsimp only
    have B2 : Hid (Below X.heap.size X w2) := B1.out.trans (hB.mono B1.out.size)
    clear hB qd qq0 qq1 qq2 p0 p1 p2 KP KZ lp
    have KP := HP.out.of_block (B2.out.block _ HP.out.lt)
    have KZ := HZ.out.of_block (B2.out.block _ HZ.out.lt)
    have p0 : w2.cell? ⟨W.heap.size, 0, none⟩ = some (.slice a0 l0 c0) := KP.cell (i := 0) (by decide)
    have p1 : w2.cell? ⟨W.heap.size, 1, none⟩ = some (.slice a1 l1 c1) := KP.cell (i := 1) (by decide)
    have p2 : w2.cell? ⟨W.heap.size, 2, none⟩ = some (.slice a2 l2 c2) := KP.cell (i := 2) (by decide)
    have lp : W.heap.size < w2.heap.size := KP.lt
    have z0 : w2.cell? ⟨W.heap.size + 1, 0, none⟩ = some (.slice none 0 0) := KZ.cell (i := 0) (by decide)
    have fz0 : w2.frozen? ⟨W.heap.size + 1, 0, none⟩ = false := KZ.frozen 0
    have z1 : w2.cell? ⟨W.heap.size + 1, 1, none⟩ = some (.slice none 0 0) := KZ.cell (i := 1) (by decide)
    have fz1 : w2.frozen? ⟨W.heap.size + 1, 1, none⟩ = false := KZ.frozen 1
    have z2 : w2.cell? ⟨W.heap.size + 1, 2, none⟩ = some (.slice none 0 0) := KZ.cell (i := 2) (by decide)
    have fz2 : w2.frozen? ⟨W.heap.size + 1, 2, none⟩ = false := KZ.frozen 2
    have lz : W.heap.size + 1 < w2.heap.size := KZ.lt
    go_wp2
    refine bodyPost_ret (v := .tuple #[.agg #[.slice none 0 0, .slice none 0 0, .slice none 0 0], .bool false]) (by simp only [results, Try.results25]; go_simp) rfl ?_
    rw [rsF_no HNO.out, HNO.out]
    refine rs_zero (Below.trans (HX.out.trans (B2.out.mono HX.out.size)) ?_)
    iterate 3 refine Below.setCell ?_ (by simp; try omega) _
    repeat (first | exact Below.refl _ _ | exact below_drewN (Below.refl _ _) _)
  have d3 : decide ((l1 : Int) = dpt cs bb) = true := decide_eq_true hdp
  have d4 : ((l1 : Int) == dpt cs bb) = true := by simpa using hdp
  have d5 : ((l1 : Int) != dpt cs bb) = false := by simpa using hdp
  have hcap' : n ≤ cap ∧ cap ≤ 1048576 := by
    have q := h.out
    rw [hcap] at q
    exact holds_cap q
  have HA : Hid (bb < tt → ∃ gb o, a = some ⟨gb, o, none⟩ ∧ gb < W.heap.size ∧ ∀ wr, Below W.heap.size W wr → ∀ k, k < n → wr.cell? ⟨gb, o + k * 2, none⟩ = some (.int .i64 (opS cs k)) ∧ wr.cell? ⟨gb, o + k * 2 + 1, none⟩ = some (.int .i64 (nS cs k))) := fun q => by
    obtain ⟨gb, o, ha, hb, _⟩ := sstep_at h.out hf.out (Below.refl _ _) (k := bb) (by omega)
    refine ⟨gb, o, ha, hb, fun wr hB k hk => ?_⟩
    obtain ⟨gb', o', ha', _, c1, c2⟩ := sstep_at h.out hf.out hB hk
    rw [ha] at ha'
    simp only [Option.some.injEq, Addr.mk.injEq, and_true] at ha'
    obtain ⟨rfl, rfl⟩ := ha'
    exact ⟨c1, c2⟩
  have HGF : Hid (GoodFs f (dpt cs bb) 100) := good_of_frame hfr (by rw [H1.out]; exact hdp)
  have HOK : Hid (∀ k, k < n → StepOk cs k) := (steps_out hst).2
  have HRQ : Hid (∀ m, tt - bb = m → (100 < (runF cs bb f m).t.length → rsB cs n f (bb : Int) (tt : Int) = false) ∧ ((runF cs bb f m).t.length ≤ 100 → rsB cs n f (bb : Int) (tt : Int) = true ∧ rsF cs n f (bb : Int) (tt : Int) = runF cs bb f m)) := fun m hm => by
    subst hm
    refine ⟨fun q => rs_no (fun r => ?_), fun q => ?_⟩
    · have r := r.2.2.2.2.2.2
      simp only [Int.toNat_natCast] at r
      omega
    · have y : rsB cs n f (bb : Int) (tt : Int) = true := rs_yes ⟨hst, hfr, b0, bt, htn, by simp only [Int.toNat_natCast]; rw [H1.out]; exact hdp, by simpa only [Int.toNat_natCast] using q⟩
      refine ⟨y, ?_⟩
      rw [rsF_yes y]; simp only [Int.toNat_natCast]
  clear hdp
  go_wp2_with fail
  refine wp_region_later w1 (by kernel_rfl) (by kernel_rfl) (Below.refl _ _) ?_
  repeat (go_big_quiet_step (first
    | (go_at_call 22; exact calls_later (HGQ.out _))
    | (go_at_call 42; exact calls_later_same (btw_quiet hbt _))
    | fail))
  refine wpQuiet_nil ?_
  intro q
  obtain ⟨w2, hB⟩ := q
  dsimp only
  have B2 : Hid (Below X.heap.size X w2) := B1.out.trans (hB.mono B1.out.size)
  clear hB qd qq0 qq1 qq2 p0 p1 p2 KP KZ lp
  have KP := HP.out.of_block (B2.out.block _ HP.out.lt)
  have KZ := HZ.out.of_block (B2.out.block _ HZ.out.lt)
  have p0 : w2.cell? ⟨W.heap.size, 0, none⟩ = some (.slice a0 l0 c0) := KP.cell (i := 0) (by decide)
  have p1 : w2.cell? ⟨W.heap.size, 1, none⟩ = some (.slice a1 l1 c1) := KP.cell (i := 1) (by decide)
  have p2 : w2.cell? ⟨W.heap.size, 2, none⟩ = some (.slice a2 l2 c2) := KP.cell (i := 2) (by decide)
  have lp : W.heap.size < w2.heap.size := KP.lt
  go_wp2_with fail
  refine (HR.out w2 (HX.out.trans (B2.out.mono HX.out.size))).mono ?_
  rintro e w3 ⟨p, rfl, hF, hB⟩
  have F3 : Hid (FrameAt w3 w2.heap.size p f.l f.s f.t) := hF
  have B3 : Hid (Below w2.heap.size w2 w3) := hB
  clear hF hB p0 p1 p2 KP KZ lp O1 hgl hgd hcd hcm HGQ HG HR HD d3 d4 d5 d1 d1n bbI hbt hst hfr HDL
  go_upto_region 5 with fail
  go_cut [55, 56, 57] (fun v55 v56 v57 wx => ∃ av cv, v55 = .slice av (tt - bb) cv ∧ v56 = .int .i64 ((tt - bb : Nat) : Int) ∧ v57 = .int .i64 0 ∧ wx = w3 ∧ Hid (bb < tt → ∃ gb o, a = some ⟨gb, o, none⟩ ∧ av = some ⟨gb, o + bb * 2, none⟩))
  case first =>
    obtain ⟨hc1, hc2⟩ := hcap'
    have i1 : (bb : Int) ≤ (tt : Int) := by omega
    have i2 : (tt : Int) ≤ (cap : Int) := by omega
    have i3 : (0 : Int) ≤ (bb : Int) := by omega
    have i4 : (0 : Int) ≤ (tt : Int) := by omega
    have e1 : (tt : Int).toNat - (bb : Int).toNat = tt - bb := by omega
    by_cases hlt : bb < tt
    · obtain ⟨gb, o, rfl, hgb, _⟩ := HA.out hlt
      have i5 : bb < cap := by omega
      have i6 : (bb : Int) < (cap : Int) := by omega
      go_wp2
      go_meet
      exact ⟨_, _, rfl, by go_num, rfl, rfl, fun _ => ⟨_, _, rfl, rfl⟩⟩
    · have e2 : tt = bb := by omega
      subst e2
      cases a with
      | none =>
        go_wp2
        all_goals (go_meet; exact ⟨_, _, by first | rfl | rw [Nat.sub_self], by first | rfl | (rw [Nat.sub_self]; rfl) | go_num, rfl, rfl, fun q => absurd q (Nat.lt_irrefl _)⟩)
      | some ad =>
        by_cases hbc : tt < cap
        · have i6 : (tt : Int) < (cap : Int) := by omega
          go_wp2
          all_goals (go_meet; exact ⟨_, _, by first | rfl | rw [Nat.sub_self], by first | rfl | (rw [Nat.sub_self]; rfl) | go_num, rfl, rfl, fun q => absurd q (Nat.lt_irrefl _)⟩)
        · have e3 : cap = tt := by omega
          subst e3
          go_wp2
          all_goals (go_meet; exact ⟨_, _, by first | rfl | rw [Nat.sub_self], by first | rfl | (rw [Nat.sub_self]; rfl) | go_num, rfl, rfl, fun q => absurd q (Nat.lt_irrefl _)⟩)
  obtain ⟨av, cv, rfl, rfl, rfl, rfl, HAV⟩ := hcut
  have hm : tt - bb ≤ 20 := by omega
  obtain ⟨m, hmE⟩ : ∃ m, Hid (tt - bb = m) := ⟨_, rfl⟩
  have htb : Hid (bb + m = tt) := by show _ = _; have := hmE.out; omega
  rw [hmE.out] at hm ⊢
  have HRN : Hid ((100 < (runF cs bb f m).t.length → rsB cs n f (bb : Int) (tt : Int) = false) ∧ ((runF cs bb f m).t.length ≤ 100 → rsB cs n f (bb : Int) (tt : Int) = true ∧ rsF cs n f (bb : Int) (tt : Int) = runF cs bb f m)) := HRQ.out m hmE.out
  have S23 := B3.out.size
  go_wp2_with fail
  go_loopw [57] (fun vj wr => ∃ j : Nat, j ≤ m ∧ vj = .int .i64 j ∧ Hid (FrameAt wr w2.heap.size p (runF cs bb f j).l (runF cs bb f j).s (runF cs bb f j).t) ∧ Hid (Below w2.heap.size w2 wr)) (fun vj _ => m - (intOf vj).toNat)
  case atStart => exact ⟨0, Nat.zero_le _, rfl, F3, B3⟩
  case round =>
    obtain ⟨j, hj, rfl, FJ, BJ⟩ := hrel
    have SJ := BJ.out.size
    by_cases hjl : j < m
    · obtain ⟨gb, o, ea, hgb, hcs⟩ := HA.out (by have := htb.out; omega)
      obtain ⟨gb', o', ea', e1⟩ := HAV.out (by have := htb.out; omega)
      rw [ea] at ea'
      simp only [Option.some.injEq, Addr.mk.injEq, and_true] at ea'
      obtain ⟨rfl, rfl⟩ := ea'
      subst e1
      have kn : bb + j < n := by have := htb.out; omega
      have WJ : Below W.heap.size W wr := HX.out.trans ((B2.out.trans (BJ.out.mono B2.out.size)).mono HX.out.size)
      obtain ⟨c1, c2⟩ := hcs wr WJ (bb + j) kn
      rw [show o + (bb + j) * 2 = o + bb * 2 + j * 2 by omega] at c1 c2
      have hjI : (j : Int) < (m : Int) := by omega
      have hSO := HOK.out (bb + j) kn
      have hGJ := run_good HOK.out HGF.out j (by omega)
      obtain ⟨x1, HX1⟩ : ∃ x, Hid (opS cs (bb + j) = x) := ⟨_, rfl⟩
      obtain ⟨x2, HX2⟩ : ∃ x, Hid (nS cs (bb + j) = x) := ⟨_, rfl⟩
      have d4 : dpt cs (bb + j) ≤ 4 := (dpt_in (fun q hq => HOK.out q (by omega))).2
      have HC : Hid (∀ V, Below wr.heap.size wr V → Calls Try.prog 44 #[.pointer (some ⟨p, 0, none⟩), .agg #[.int .i64 x1, .int .i64 x2]] V (DoAns w2.heap.size p (runF cs bb f (j + 1)).l (runF cs bb f (j + 1)).s (runF cs bb f (j + 1)).t V)) := fun V hV => by
        have q := impl_doF w2.heap.size p (runF cs bb f j) (opS cs (bb + j)) (nS cs (bb + j)) (dpt cs (bb + j)) (100 + j) hSO.1 hSO.2.1 d4 (by omega) hGJ V (Nat.le_trans SJ hV.size) (FJ.out.kept hV)
        rw [HX1.out, HX2.out] at q
        show Calls _ _ _ _ (DoAns _ _ (stepF (opS cs (bb + j)) (nS cs (bb + j)) (runF cs bb f j)).l (stepF (opS cs (bb + j)) (nS cs (bb + j)) (runF cs bb f j)).s (stepF (opS cs (bb + j)) (nS cs (bb + j)) (runF cs bb f j)).t _)
        rw [HX1.out, HX2.out]
        exact q
      rw [HX1.out] at c1
      rw [HX2.out] at c2
      clear hcs WJ hSO hGJ d4 ea
      go_wp2_with fail
      refine (HC.out _ ((Below.refl _ _).alloc (Nat.le_refl _) _)).mono ?_
      rintro e w5 ⟨rfl, hF, hB, hS⟩
      have F5 : Hid (FrameAt w5 w2.heap.size p (runF cs bb f (j + 1)).l (runF cs bb f (j + 1)).s (runF cs bb f (j + 1)).t) := hF
      have B5 : Hid (Below w2.heap.size w2 w5) := (BJ.out.alloc SJ _).trans hB
      clear hF hB hS HC
      go_wp2
      go_roundw
      case rel => exact ⟨j + 1, by omega, by go_num, F5, B5⟩
      case measure => simp [intOf]; omega
    have ejm : j = m := by omega
    subst ejm
    obtain ⟨R, ER⟩ : ∃ R, Hid (runF cs bb f j = R) := ⟨_, rfl⟩
    rw [ER.out] at FJ HRN
    have hjI : ¬ (j : Int) < (j : Int) := by omega
    obtain ⟨vl, vs, vt, r1, r2, r3, r4, D1, D2, D3, hp⟩ := FJ.out
    obtain ⟨al, kl, el, _⟩ := r2.mine
    obtain ⟨as_, ks, es, _⟩ := r3.mine
    obtain ⟨at_, kt, et, _⟩ := r4.mine
    subst el es et
    have OL : Hid (Own wr w2.heap.size (.slice al R.l.length kl) R.l) := r2
    have OS : Hid (Own wr w2.heap.size (.slice as_ R.s.length ks) R.s) := r3
    have OT : Hid (Own wr w2.heap.size (.slice at_ R.t.length kt) R.t) := r4
    have HDD : Hid ((∀ x, (Value.slice al R.l.length kl).ownBlock = some x → (Value.slice as_ R.s.length ks).ownBlock ≠ some x) ∧ (∀ x, (Value.slice al R.l.length kl).ownBlock = some x → (Value.slice at_ R.t.length kt).ownBlock ≠ some x) ∧ (∀ x, (Value.slice as_ R.s.length ks).ownBlock = some x → (Value.slice at_ R.t.length kt).ownBlock ≠ some x)) := ⟨D1, D2, D3⟩
    have u0 : wr.cell? ⟨p, 0, none⟩ = some (.slice al R.l.length kl) := r1.cell (i := 0) (by decide)
    have u1 : wr.cell? ⟨p, 1, none⟩ = some (.slice as_ R.s.length ks) := r1.cell (i := 1) (by decide)
    have u2 : wr.cell? ⟨p, 2, none⟩ = some (.slice at_ R.t.length kt) := r1.cell (i := 2) (by decide)
    have pl := r1.lt
    clear r1 r2 r3 r4 D1 D2 D3 FJ HA HAV HOK HGF
    have BX : Hid (Below X.heap.size X wr) := B2.out.trans (BJ.out.mono B2.out.size)
    have s2X := B2.out.size
    have sX : W.heap.size + 1 < X.heap.size := HZ.out.lt
    have hpne : p ≠ W.heap.size + 1 := by omega
    have KZ := HZ.out.of_block (BX.out.block _ HZ.out.lt)
    have z0 : wr.cell? ⟨W.heap.size + 1, 0, none⟩ = some (.slice none 0 0) := KZ.cell (i := 0) (by decide)
    have fz0 : wr.frozen? ⟨W.heap.size + 1, 0, none⟩ = false := KZ.frozen 0
    have z1 : wr.cell? ⟨W.heap.size + 1, 1, none⟩ = some (.slice none 0 0) := KZ.cell (i := 1) (by decide)
    have fz1 : wr.frozen? ⟨W.heap.size + 1, 1, none⟩ = false := KZ.frozen 1
    have z2 : wr.cell? ⟨W.heap.size + 1, 2, none⟩ = some (.slice none 0 0) := KZ.cell (i := 2) (by decide)
    have fz2 : wr.frozen? ⟨W.heap.size + 1, 2, none⟩ = false := KZ.frozen 2
    have lz : W.heap.size + 1 < wr.heap.size := KZ.lt
    obtain ⟨lt, HLT⟩ : ∃ q, Hid (R.t.length = q) := ⟨_, rfl⟩
    rw [HLT.out] at u2 OT HDD HRN
    by_cases hlt : lt ≤ 100
    rotate_left
    · have HNO : Hid (rsB cs n f (bb : Int) (tt : Int) = false) := HRN.out.1 (by omega)
      have hI : (100 : Int) < (lt : Int) := by omega
      clear hlt
      go_wp2
      refine bodyPost_ret (v := .tuple #[.agg #[.slice none 0 0, .slice none 0 0, .slice none 0 0], .bool false]) (by simp only [results, Try.results25]; go_simp) rfl ?_
      rw [rsF_no HNO.out, HNO.out]
      refine rs_zero (Below.trans (HX.out.trans (BX.out.mono HX.out.size)) ?_)
      iterate 3 refine Below.setCell ?_ (by simp; try omega) _
      repeat (first | exact Below.refl _ _ | exact below_drewN (Below.refl _ _) _)
    have hI : (lt : Int) ≤ 100 := by omega
    obtain ⟨Y1, Y2⟩ := HRN.out.2 hlt
    have HY1 : Hid (rsB cs n f (bb : Int) (tt : Int) = true) := Y1
    have HY2 : Hid (rsF cs n f (bb : Int) (tt : Int) = R) := Y2
    clear Y1 Y2 HRN
    have HKZ : Hid (wr.rowIs (W.heap.size + 1) 39 3 (rowF [.slice none 0 0, .slice none 0 0, .slice none 0 0])) := KZ
    clear KZ
    go_wp2
    refine bodyPost_ret (v := .tuple #[.agg #[.slice al R.l.length kl, .slice as_ R.s.length ks, .slice at_ lt kt], .bool true]) (by simp only [results, Try.results25]; go_simp) rfl ?_
    rw [HY1.out, HY2.out]
    have sw : W.heap.size ≤ w2.heap.size := by omega
    exact ⟨_, _, _, rfl, own_box3 (own_mono OL.out sw) HKZ.out _ _ _, own_box3 (own_mono OS.out sw) HKZ.out _ _ _, own_box3 (own_mono OT.out sw) HKZ.out _ _ _, HDD.out.1, HDD.out.2.1, HDD.out.2.2, below_box3 (HX.out.trans (BX.out.mono HX.out.size)) (by omega) _ _ _⟩
end Go.Proofs.Ytdacpbhdemkacaa.walks
