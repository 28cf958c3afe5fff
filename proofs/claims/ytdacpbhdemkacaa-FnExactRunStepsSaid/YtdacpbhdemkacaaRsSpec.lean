/-
  What RunSteps answers, of the specification.
-/
import Derived.Test.YtdacpbhdemkacaaProg
import Derived.Test.YtdacpbhdemkacaaMagMath
import Derived.Test.YtdacpbhdemkacaaRunMath
import Derived.Test.YtdacpbhdemkacaaStackMath
import Derived.Test.YtdacpbhdemkacaaFrameMath
import Derived.Test.YtdacpbhdemkacaaStackBase
import Derived.Test.YtdacpbhdemkacaaDepths
import Derived.Test.YtdacpbhdemkacaaFrames
import Derived.Test.YtdacpbhdemkacaaRunFrame
import Derived.Test.YtdacpbhdemkacaaFrameRun
import Derived.Test.YtdacpbhdemkacaaFrameBox
import Derived.Test.YtdacpbhdemkacaaOwnFrame
import Derived.Test.YtdacpbhdemkacaaSpecDo
import Derived.Test.YtdacpbhdemkacaaRsImpl
import Derived.Test.YtdacpbhdemkacaaLater
import Derived.Test.YtdacpbhdemkacaaInts
import Derived.Test.YtdacpbhdemkacaaOwnInts
import Derived.Test.YtdacpbhdemkacaaDeep
import Derived.Test.YtdacpbhdemkacaaDeepRow
import Derived.WalkKit
import Derived.WalkSpells
import Derived.Below
import Derived.Handy
import Derived.Deep.DeepFit
import Derived.Deep.OwnRows
import Derived.Deep.QuietTactic
import Derived.BigQuiet
import Derived.Deep.DeepCutAuto
import Derived.Laws.OwnMore
namespace Go.Proofs.Ytdacpbhdemkacaa.walks
open Go.RowKit Go.Proofs.Ytdacpbhdemkacaa.math Go.Proofs.Ytdacpbhdemkacaa.ints Go.Proofs.Ytdacpbhdemkacaa.deep
set_option linter.unusedVariables false
set_option maxRecDepth 100000

/-- One step, whatever it is. -/
theorem spec_doF (B : Nat) (vl vs vt : Value) (f : Fs) (o n d : Int) (m : Nat) (ho : okS o n = true) (hd : offK o ≤ d) (d4 : d ≤ 4) (hm : m ≤ 900) (hg : Hid (GoodFs f d m)) (W : World) (hB : B ≤ W.heap.size) (h : Hid (OF W B vl vs vt f)) :
    Calls Try.prog 41 #[.agg #[.int .i64 o, .int .i64 n], .agg #[vl, vs, vt]] W (SDoAns B (stepF o n f) W) := by
  obtain ⟨g1, g2, g3, g4, g5⟩ := hg.out
  have hl : f.s.length ≤ 900 := by omega
  have hl1 : f.s.dropLast.length ≤ 900 := by simp; omega
  rcases okS_cases ho with ⟨rfl, n0, n1⟩ | ⟨rfl, n0, n1⟩ | ⟨rfl, n0, n1⟩ | ⟨rfl, rfl⟩ | ⟨rfl, rfl⟩ | ⟨rfl, rfl⟩ | ⟨o4, o7, rfl⟩
  · exact sdo_push B vl vs vt f.l f.s f.t n W hB hl h
  · obtain ⟨k, rfl⟩ : ∃ k : Nat, n = (k : Int) := ⟨n.toNat, by omega⟩
    exact sdo_load B vl vs vt f.l f.s f.t k _ (by omega) g1 rfl W hB hl h
  · obtain ⟨k, rfl⟩ : ∃ k : Nat, n = (k : Int) := ⟨n.toNat, by omega⟩
    exact sdo_store B vl vs vt f.l f.s.dropLast f.t k (topL f.s) (by omega) g1 W hB hl1 (by rw [← top_split (by simp [offK] at hd; omega)]; exact h)
  · have e := top_split (l := f.s) (by simp [offK] at hd; omega)
    have q := sdo_dup B vl vs vt f.l f.s.dropLast f.t (topL f.s) W hB hl1 (by rw [← e]; exact h)
    rw [← e] at q
    exact q
  · exact sdo_drop B vl vs vt f.l f.s.dropLast f.t (topL f.s) W hB hl1 (by rw [← top_split (by simp [offK] at hd; omega)]; exact h)
  · exact sdo_out B vl vs vt f.l f.s.dropLast f.t (topL f.s) (by omega) W hB hl1 (by rw [← top_split (by simp [offK] at hd; omega)]; exact h)
  · have e1 : offK o = 2 := by unfold offK; rw [if_neg (by omega), if_neg (by omega), if_neg (by omega)]
    have s1 : 0 < f.s.length := by omega
    have s2 : 0 < f.s.dropLast.length := by simp; omega
    have e : stepF o 0 f = ⟨f.l, f.s.dropLast.dropLast ++ [doV (o - 1) (topL f.s.dropLast) (topL f.s)], f.t⟩ := by
      unfold stepF; rw [if_neg (by omega), if_neg (by omega), if_neg (by omega), if_neg (by omega), if_neg (by omega), if_neg (by omega)]
    rw [e]
    have t1 := top_word g4 s1
    have t2 := top_word (words_drop g4) s2
    have hl2 : f.s.dropLast.dropLast.length ≤ 900 := by simp; omega
    have h' : Hid (OF W B vl vs vt ⟨f.l, f.s.dropLast.dropLast ++ [topL f.s.dropLast] ++ [topL f.s], f.t⟩) := by rw [← top_split s2, ← top_split s1]; exact h
    rcases (show o = 4 ∨ o = 5 ∨ o = 6 ∨ o = 7 by omega) with rfl | rfl | rfl | rfl
    · exact sdo_pair4 B vl vs vt f.l f.s.dropLast.dropLast f.t (topL f.s.dropLast) (topL f.s) t2.1 t2.2 t1.1 t1.2 W hB hl2 h'
    · exact sdo_pair5 B vl vs vt f.l f.s.dropLast.dropLast f.t (topL f.s.dropLast) (topL f.s) t2.1 t2.2 t1.1 t1.2 W hB hl2 h'
    · exact sdo_pair6 B vl vs vt f.l f.s.dropLast.dropLast f.t (topL f.s.dropLast) (topL f.s) t2.1 t2.2 t1.1 t1.2 W hB hl2 h'
    · exact sdo_pair7 B vl vs vt f.l f.s.dropLast.dropLast f.t (topL f.s.dropLast) (topL f.s) t2.1 t2.2 t1.1 t1.2 W hB hl2 h'
/-- A frame in a box. -/
def BoxF (w : World) (B p : Nat) (f : Fs) : Prop := ∃ (al : Option Addr) (ll kl : Nat) (as_ : Option Addr) (ms ks : Nat) (at_ : Option Addr) (lt kt : Nat), OF w B (.slice al ll kl) (.slice as_ ms ks) (.slice at_ lt kt) f ∧ w.rowIs p 39 3 (rowF [.slice al ll kl, .slice as_ ms ks, .slice at_ lt kt])
theorem rowF_all {a b c x y z : Value} : ∀ i, i < 3 → (if i = 2 then z else if i = 1 then y else if i = 0 then x else rowF [a, b, c] i) = rowF [x, y, z] i
  | 0, _ => rfl
  | 1, _ => rfl
  | 2, _ => rfl
theorem box_put {w : World} {B p : Nat} {al : Option Addr} {ll kl : Nat} {as_ : Option Addr} {ms ks : Nat} {at_ : Option Addr} {lt kt : Nat} {f : Fs} {x y z : Value} (h : OF w B (.slice al ll kl) (.slice as_ ms ks) (.slice at_ lt kt) f) (q : w.rowIs p 39 3 (rowF [x, y, z])) : BoxF (((w.setCell ⟨p, 0, none⟩ (.slice al ll kl)).setCell ⟨p, 1, none⟩ (.slice as_ ms ks)).setCell ⟨p, 2, none⟩ (.slice at_ lt kt)) B p f :=
  ⟨al, ll, kl, as_, ms, ks, at_, lt, kt, ((h.box q (by decide)).box (q.set 0 _) (by decide)).box ((q.set 0 _).set 1 _) (by decide), (((q.set 0 _).set 1 _).set 2 _).congr rowF_all⟩
theorem OF.forms {w : World} {B : Nat} {vl vs vt : Value} {f : Fs} (h : OF w B vl vs vt f) : ∃ (al : Option Addr) (kl : Nat) (as_ : Option Addr) (ks : Nat) (at_ : Option Addr) (kt : Nat), vl = .slice al f.l.length kl ∧ vs = .slice as_ f.s.length ks ∧ vt = .slice at_ f.t.length kt ∧ Ints w al f.l ∧ Ints w as_ f.s ∧ Ints w at_ f.t := by
  obtain ⟨al, kl, e1, m1⟩ := h.l.mine
  obtain ⟨as_, ks, e2, m2⟩ := h.s.mine
  obtain ⟨at_, kt, e3, m3⟩ := h.t.mine
  exact ⟨al, kl, as_, ks, at_, kt, e1, e2, e3, m1.ints, m2.ints, m3.ints⟩
set_option maxHeartbeats 8000000 in
theorem spec_runsteps (a : Option Addr) (n cap : Nat) (cs : Nat → Dv) (c : Bool) (a0 : Option Addr) (l0 c0 : Nat) (a1 : Option Addr) (l1 c1 : Nat) (a2 : Option Addr) (l2 c2 : Nat) (f : Fs) (b t : Int) (W : World) (hf : Hid (Fits shSStepS (.l n 2 cs))) (hs : Hid (szD (.l n 2 cs) ≤ 1048576)) (h : Hid (Holds W c (.l n 2 cs) (.slice a n cap))) (hcap : c = true) (H0 : Hid (f.l.length = l0)) (H1 : Hid (f.s.length = l1)) (H2 : Hid (f.t.length = l2)) (x0 : l0 ≤ 1048576) (x1 : l1 ≤ 1048576) (x2 : l2 ≤ 1048576) (I0 : Hid (Ints W a0 f.l)) (I1 : Hid (Ints W a1 f.s)) (I2 : Hid (Ints W a2 f.t)) :
    Calls Try.prog 24 #[.slice a n cap, .agg #[.slice a0 l0 c0, .slice a1 l1 c1, .slice a2 l2 c2], .int .i64 b, .int .i64 t] W fun e W' => RsAns (rsF cs n f b t) (rsB cs n f b t) W e W' := by
  have HD : Hid (∀ V, Below W.heap.size W V → Calls Try.prog 30 #[.slice a n cap] V fun e W' => DepAns cs n V e W') := fun V hV => spec_depths a n cap cs c V hf hs (h.out.kept hV)
  have HG : Hid (∀ V, Below W.heap.size W V → Calls Try.prog 20 #[.agg #[.slice a0 l0 c0, .slice a1 l1 c1, .slice a2 l2 c2]] V fun e W' => e = .returned (.bool (frameB f.l f.s f.t)) ∧ Below V.heap.size V W') := fun V hV => spec_frame a0 l0 c0 a1 l1 c1 a2 l2 c2 f.l f.s f.t V H0 H1 H2 x0 x1 x2 (I0.out.kept hV) (I1.out.kept hV) (I2.out.kept hV)
  have HR : Hid (∀ V, Below W.heap.size W V → Calls Try.prog 40 #[.agg #[.slice a0 l0 c0, .slice a1 l1 c1, .slice a2 l2 c2]] V fun e W' => ∃ vl vs vt, e = .returned (.agg #[vl, vs, vt]) ∧ OF W' V.heap.size vl vs vt f ∧ Below V.heap.size V W') := fun V hV => (spec_own13 a0 l0 c0 a1 l1 c1 a2 l2 c2 f.l f.s f.t V H0 H1 H2 x0 x1 x2 (I0.out.kept hV) (I1.out.kept hV) (I2.out.kept hV)).mono (fun e W' q => by
    obtain ⟨vl, vs, vt, e1, o1, o2, o3, d1, d2, d3, hb⟩ := q
    exact ⟨vl, vs, vt, e1, ⟨o1, o2, o3, d1, d2, d3⟩, hb⟩)
  have hn : n ≤ 1048576 := Nat.le_trans (Nat.le_add_right _ _) hs.out
  clear I0 I1 I2 H0 H2
  obtain ⟨X, hX⟩ : ∃ X, Hid ((W.alloc (.cells #[.slice a0 l0 c0, .slice a1 l1 c1, .slice a2 l2 c2] 39)).alloc (.cells #[.slice none 0 0, .slice none 0 0, .slice none 0 0] 39) = X) := ⟨_, rfl⟩
  have HX : Hid (Below W.heap.size W X) := by show Below _ _ _; rw [← hX.out]; go_grown
  have HP : Hid (X.rowIs W.heap.size 39 3 (rowF [.slice a0 l0 c0, .slice a1 l1 c1, .slice a2 l2 c2])) := by show World.rowIs _ _ _ _ _; rw [← hX.out]; exact (row_of W #[.slice a0 l0 c0, .slice a1 l1 c1, .slice a2 l2 c2] 39).alloc _
  have HZ : Hid (X.rowIs (W.heap.size + 1) 39 3 (rowF [.slice none 0 0, .slice none 0 0, .slice none 0 0])) := by
    have q := row_of (W.alloc (.cells #[.slice a0 l0 c0, .slice a1 l1 c1, .slice a2 l2 c2] 39)) #[.slice none 0 0, .slice none 0 0, .slice none 0 0] 39
    rw [show (W.alloc (.cells #[.slice a0 l0 c0, .slice a1 l1 c1, .slice a2 l2 c2] 39)).heap.size = W.heap.size + 1 by simp] at q
    show World.rowIs _ _ _ _ _
    rw [← hX.out]; exact q
  have hcg := HD.out X HX.out
  go_enter Try.func24, Try.ntmps24
  go_wp2_with fail
  rw [hX.out]
  clear hX
  refine hcg.mono ?_
  rintro e w1 ⟨vd, rfl, hO, hB⟩
  have O1 : Hid (Own w1 X.heap.size vd (depZ cs n)) := hO
  have B1 : Hid (Below X.heap.size X w1) := hB
  clear hO hB hcg
  have KP := HP.out.of_block (B1.out.block _ HP.out.lt)
  have KZ := HZ.out.of_block (B1.out.block _ HZ.out.lt)
  have p0 : w1.cell? ⟨W.heap.size, 0, none⟩ = some (.slice a0 l0 c0) := KP.cell (i := 0) (by decide)
  have p1 : w1.cell? ⟨W.heap.size, 1, none⟩ = some (.slice a1 l1 c1) := KP.cell (i := 1) (by decide)
  have p2 : w1.cell? ⟨W.heap.size, 2, none⟩ = some (.slice a2 l2 c2) := KP.cell (i := 2) (by decide)
  have lp : W.heap.size < w1.heap.size := KP.lt
  cases hst : stepsB cs n
  · have HNO : Hid (rsB cs n f b t = false) := rs_no (fun q => by rw [hst] at q; cases q.1)
    have z0 : w1.cell? ⟨W.heap.size + 1, 0, none⟩ = some (.slice none 0 0) := KZ.cell (i := 0) (by decide)
    have fz0 : w1.frozen? ⟨W.heap.size + 1, 0, none⟩ = false := KZ.frozen 0
    have z1 : w1.cell? ⟨W.heap.size + 1, 1, none⟩ = some (.slice none 0 0) := KZ.cell (i := 1) (by decide)
    have fz1 : w1.frozen? ⟨W.heap.size + 1, 1, none⟩ = false := KZ.frozen 1
    have z2 : w1.cell? ⟨W.heap.size + 1, 2, none⟩ = some (.slice none 0 0) := KZ.cell (i := 2) (by decide)
    have fz2 : w1.frozen? ⟨W.heap.size + 1, 2, none⟩ = false := KZ.frozen 2
    have lz : W.heap.size + 1 < w1.heap.size := KZ.lt
    clear O1
    go_wp2
    go_quiet (fail)
    go_wp2
    refine bodyPost_ret (v := .tuple #[.agg #[.slice none 0 0, .slice none 0 0, .slice none 0 0], .bool false]) (by simp only [results, Try.results24]; go_simp) rfl ?_
    rw [rsF_no HNO.out, HNO.out]
    refine rs_zero (Below.trans (HX.out.trans (B1.out.mono HX.out.size)) ?_)
    iterate 3 refine Below.setCell ?_ (by simp; try omega) _
    repeat (first | exact Below.refl _ _ | exact below_drewN (Below.refl _ _) _)
  have HDL : Hid (depZ cs n = depL cs n) := depZ_yes hst
  rw [HDL.out] at O1
  obtain ⟨gd, cd, ed, hgd, hgl, hcd, hcm⟩ := own_form13 O1.out (by rw [depL_len]; omega)
  rw [depL_len] at ed hcd
  subst ed
  have n20 : n ≤ 20 := (steps_out hst).1
  have HGQ : Hid (∀ q : Later w1, Calls Try.prog 20 #[.agg #[.slice a0 l0 c0, .slice a1 l1 c1, .slice a2 l2 c2]] q.w fun e W' => e = .returned (.bool (frameB f.l f.s f.t)) ∧ Below q.w.heap.size q.w W') := fun q => HG.out q.w (HX.out.trans ((B1.out.trans (q.bel.mono B1.out.size)).mono HX.out.size))
  have qq0 : ∀ q : Later w1, q.w.cell? ⟨W.heap.size, 0, none⟩ = some (.slice a0 l0 c0) := Later.cell lp p0
  have qq1 : ∀ q : Later w1, q.w.cell? ⟨W.heap.size, 1, none⟩ = some (.slice a1 l1 c1) := Later.cell lp p1
  have qq2 : ∀ q : Later w1, q.w.cell? ⟨W.heap.size, 2, none⟩ = some (.slice a2 l2 c2) := Later.cell lp p2
  unfold maxLen at hcm
  cases hfr : frameB f.l f.s f.t
  · have HNO : Hid (rsB cs n f b t = false) := rs_no (fun q => by rw [hfr] at q; cases q.2.1)
    rw [hfr] at HGQ
    go_wp2_with fail
    refine wp_region_later w1 (by kernel_rfl) (by kernel_rfl) (Below.refl _ _) ?_
    repeat (go_big_quiet_step (first
      | (go_at_call 20; exact calls_later (HGQ.out _))
      | fail))
    refine wpQuiet_nil ?_
    intro q
    obtain ⟨w2, hB⟩ := q
    dsimp only
    have B2 : Hid (Below X.heap.size X w2) := B1.out.trans (hB.mono B1.out.size)
    clear hB qq0 qq1 qq2 p0 p1 p2 KP KZ lp
    have KP := HP.out.of_block (B2.out.block _ HP.out.lt)
    have KZ := HZ.out.of_block (B2.out.block _ HZ.out.lt)
    have p0 : w2.cell? ⟨W.heap.size, 0, none⟩ = some (.slice a0 l0 c0) := KP.cell (i := 0) (by decide)
    have p1 : w2.cell? ⟨W.heap.size, 1, none⟩ = some (.slice a1 l1 c1) := KP.cell (i := 1) (by decide)
    have p2 : w2.cell? ⟨W.heap.size, 2, none⟩ = some (.slice a2 l2 c2) := KP.cell (i := 2) (by decide)
    have lp : W.heap.size < w2.heap.size := KP.lt
    have z0 : w2.cell? ⟨W.heap.size + 1, 0, none⟩ = some (.slice none 0 0) := KZ.cell (i := 0) (by decide)
    have fz0 : w2.frozen? ⟨W.heap.size + 1, 0, none⟩ = false := KZ.frozen 0
    have z1 : w2.cell? ⟨W.heap.size + 1, 1, none⟩ = some (.slice none 0 0) := KZ.cell (i := 1) (by decide)
    have fz1 : w2.frozen? ⟨W.heap.size + 1, 1, none⟩ = false := KZ.frozen 1
    have z2 : w2.cell? ⟨W.heap.size + 1, 2, none⟩ = some (.slice none 0 0) := KZ.cell (i := 2) (by decide)
    have fz2 : w2.frozen? ⟨W.heap.size + 1, 2, none⟩ = false := KZ.frozen 2
    have lz : W.heap.size + 1 < w2.heap.size := KZ.lt
    go_wp2
    refine bodyPost_ret (v := .tuple #[.agg #[.slice none 0 0, .slice none 0 0, .slice none 0 0], .bool false]) (by simp only [results, Try.results24]; go_simp) rfl ?_
    rw [rsF_no HNO.out, HNO.out]
    refine rs_zero (Below.trans (HX.out.trans (B2.out.mono HX.out.size)) ?_)
    iterate 3 refine Below.setCell ?_ (by simp; try omega) _
    repeat (first | exact Below.refl _ _ | exact below_drewN (Below.refl _ _) _)
  rw [hfr] at HGQ
  by_cases b0 : 0 ≤ b
  rotate_left
  · have HNO : Hid (rsB cs n f b t = false) := rs_no (fun q => b0 q.2.2.1)
    have e1 : decide (b < 0) = true := decide_eq_true (by omega)
    have e2 : b < 0 := by omega
    clear b0
    go_wp2_with fail
    refine wp_region_later w1 (by kernel_rfl) (by kernel_rfl) (Below.refl _ _) ?_
    repeat (go_big_quiet_step (first
      | (go_at_call 20; exact calls_later (HGQ.out _))
      | fail))
    refine wpQuiet_nil ?_
    intro q
    obtain ⟨w2, hB⟩ := q
    dsimp only
    have B2 : Hid (Below X.heap.size X w2) := B1.out.trans (hB.mono B1.out.size)
    clear hB qq0 qq1 qq2 p0 p1 p2 KP KZ lp
    have KP := HP.out.of_block (B2.out.block _ HP.out.lt)
    have KZ := HZ.out.of_block (B2.out.block _ HZ.out.lt)
    have p0 : w2.cell? ⟨W.heap.size, 0, none⟩ = some (.slice a0 l0 c0) := KP.cell (i := 0) (by decide)
    have p1 : w2.cell? ⟨W.heap.size, 1, none⟩ = some (.slice a1 l1 c1) := KP.cell (i := 1) (by decide)
    have p2 : w2.cell? ⟨W.heap.size, 2, none⟩ = some (.slice a2 l2 c2) := KP.cell (i := 2) (by decide)
    have lp : W.heap.size < w2.heap.size := KP.lt
    have z0 : w2.cell? ⟨W.heap.size + 1, 0, none⟩ = some (.slice none 0 0) := KZ.cell (i := 0) (by decide)
    have fz0 : w2.frozen? ⟨W.heap.size + 1, 0, none⟩ = false := KZ.frozen 0
    have z1 : w2.cell? ⟨W.heap.size + 1, 1, none⟩ = some (.slice none 0 0) := KZ.cell (i := 1) (by decide)
    have fz1 : w2.frozen? ⟨W.heap.size + 1, 1, none⟩ = false := KZ.frozen 1
    have z2 : w2.cell? ⟨W.heap.size + 1, 2, none⟩ = some (.slice none 0 0) := KZ.cell (i := 2) (by decide)
    have fz2 : w2.frozen? ⟨W.heap.size + 1, 2, none⟩ = false := KZ.frozen 2
    have lz : W.heap.size + 1 < w2.heap.size := KZ.lt
    go_wp2
    refine bodyPost_ret (v := .tuple #[.agg #[.slice none 0 0, .slice none 0 0, .slice none 0 0], .bool false]) (by simp only [results, Try.results24]; go_simp) rfl ?_
    rw [rsF_no HNO.out, HNO.out]
    refine rs_zero (Below.trans (HX.out.trans (B2.out.mono HX.out.size)) ?_)
    iterate 3 refine Below.setCell ?_ (by simp; try omega) _
    repeat (first | exact Below.refl _ _ | exact below_drewN (Below.refl _ _) _)
  have eb : decide (b < 0) = false := decide_eq_false (by omega)
  by_cases bt : b ≤ t
  rotate_left
  · have HNO : Hid (rsB cs n f b t = false) := rs_no (fun q => bt q.2.2.2.1)
    have e1 : decide (t < b) = true := decide_eq_true (by omega)
    have e2 : t < b := by omega
    clear bt
    go_wp2_with fail
    refine wp_region_later w1 (by kernel_rfl) (by kernel_rfl) (Below.refl _ _) ?_
    repeat (go_big_quiet_step (first
      | (go_at_call 20; exact calls_later (HGQ.out _))
      | fail))
    refine wpQuiet_nil ?_
    intro q
    obtain ⟨w2, hB⟩ := q
    dsimp only
    have B2 : Hid (Below X.heap.size X w2) := B1.out.trans (hB.mono B1.out.size)
    clear hB qq0 qq1 qq2 p0 p1 p2 KP KZ lp
    have KP := HP.out.of_block (B2.out.block _ HP.out.lt)
    have KZ := HZ.out.of_block (B2.out.block _ HZ.out.lt)
    have p0 : w2.cell? ⟨W.heap.size, 0, none⟩ = some (.slice a0 l0 c0) := KP.cell (i := 0) (by decide)
    have p1 : w2.cell? ⟨W.heap.size, 1, none⟩ = some (.slice a1 l1 c1) := KP.cell (i := 1) (by decide)
    have p2 : w2.cell? ⟨W.heap.size, 2, none⟩ = some (.slice a2 l2 c2) := KP.cell (i := 2) (by decide)
    have lp : W.heap.size < w2.heap.size := KP.lt
    have z0 : w2.cell? ⟨W.heap.size + 1, 0, none⟩ = some (.slice none 0 0) := KZ.cell (i := 0) (by decide)
    have fz0 : w2.frozen? ⟨W.heap.size + 1, 0, none⟩ = false := KZ.frozen 0
    have z1 : w2.cell? ⟨W.heap.size + 1, 1, none⟩ = some (.slice none 0 0) := KZ.cell (i := 1) (by decide)
    have fz1 : w2.frozen? ⟨W.heap.size + 1, 1, none⟩ = false := KZ.frozen 1
    have z2 : w2.cell? ⟨W.heap.size + 1, 2, none⟩ = some (.slice none 0 0) := KZ.cell (i := 2) (by decide)
    have fz2 : w2.frozen? ⟨W.heap.size + 1, 2, none⟩ = false := KZ.frozen 2
    have lz : W.heap.size + 1 < w2.heap.size := KZ.lt
    go_wp2
    refine bodyPost_ret (v := .tuple #[.agg #[.slice none 0 0, .slice none 0 0, .slice none 0 0], .bool false]) (by simp only [results, Try.results24]; go_simp) rfl ?_
    rw [rsF_no HNO.out, HNO.out]
    refine rs_zero (Below.trans (HX.out.trans (B2.out.mono HX.out.size)) ?_)
    iterate 3 refine Below.setCell ?_ (by simp; try omega) _
    repeat (first | exact Below.refl _ _ | exact below_drewN (Below.refl _ _) _)
  by_cases htn : t ≤ (n : Int)
  rotate_left
  · have HNO : Hid (rsB cs n f b t = false) := rs_no (fun q => htn q.2.2.2.2.1)
    have ec : decide (t < b) = false := decide_eq_false (by omega)
    have d1 : decide ((n : Int) < t) = true := decide_eq_true (by omega)
    have d2 : (n : Int) < t := by omega
    clear htn
    go_wp2_with fail
    refine wp_region_later w1 (by kernel_rfl) (by kernel_rfl) (Below.refl _ _) ?_
    repeat (go_big_quiet_step (first
      | (go_at_call 20; exact calls_later (HGQ.out _))
      | fail))
    refine wpQuiet_nil ?_
    intro q
    obtain ⟨w2, hB⟩ := q
    dsimp only
    have B2 : Hid (Below X.heap.size X w2) := B1.out.trans (hB.mono B1.out.size)
    clear hB qq0 qq1 qq2 p0 p1 p2 KP KZ lp
    have KP := HP.out.of_block (B2.out.block _ HP.out.lt)
    have KZ := HZ.out.of_block (B2.out.block _ HZ.out.lt)
    have p0 : w2.cell? ⟨W.heap.size, 0, none⟩ = some (.slice a0 l0 c0) := KP.cell (i := 0) (by decide)
    have p1 : w2.cell? ⟨W.heap.size, 1, none⟩ = some (.slice a1 l1 c1) := KP.cell (i := 1) (by decide)
    have p2 : w2.cell? ⟨W.heap.size, 2, none⟩ = some (.slice a2 l2 c2) := KP.cell (i := 2) (by decide)
    have lp : W.heap.size < w2.heap.size := KP.lt
    have z0 : w2.cell? ⟨W.heap.size + 1, 0, none⟩ = some (.slice none 0 0) := KZ.cell (i := 0) (by decide)
    have fz0 : w2.frozen? ⟨W.heap.size + 1, 0, none⟩ = false := KZ.frozen 0
    have z1 : w2.cell? ⟨W.heap.size + 1, 1, none⟩ = some (.slice none 0 0) := KZ.cell (i := 1) (by decide)
    have fz1 : w2.frozen? ⟨W.heap.size + 1, 1, none⟩ = false := KZ.frozen 1
    have z2 : w2.cell? ⟨W.heap.size + 1, 2, none⟩ = some (.slice none 0 0) := KZ.cell (i := 2) (by decide)
    have fz2 : w2.frozen? ⟨W.heap.size + 1, 2, none⟩ = false := KZ.frozen 2
    have lz : W.heap.size + 1 < w2.heap.size := KZ.lt
    go_wp2
    refine bodyPost_ret (v := .tuple #[.agg #[.slice none 0 0, .slice none 0 0, .slice none 0 0], .bool false]) (by simp only [results, Try.results24]; go_simp) rfl ?_
    rw [rsF_no HNO.out, HNO.out]
    refine rs_zero (Below.trans (HX.out.trans (B2.out.mono HX.out.size)) ?_)
    iterate 3 refine Below.setCell ?_ (by simp; try omega) _
    repeat (first | exact Below.refl _ _ | exact below_drewN (Below.refl _ _) _)
  obtain ⟨bb, rfl⟩ : ∃ q : Nat, b = (q : Int) := ⟨b.toNat, by omega⟩
  obtain ⟨tt, rfl⟩ : ∃ q : Nat, t = (q : Int) := ⟨t.toNat, by omega⟩
  have ec : decide ((tt : Int) < (bb : Int)) = false := decide_eq_false (by omega)
  have ecn : decide (tt < bb) = false := decide_eq_false (by omega)
  have d1 : decide ((n : Int) < (tt : Int)) = false := decide_eq_false (by omega)
  have d1n : decide (n < tt) = false := decide_eq_false (by omega)
  have htn' : tt ≤ n := by omega
  have bt' : bb ≤ tt := by omega
  have bbn : bb ≤ n := by omega
  have bbI : (bb : Int) < (n : Int) + 1 := by omega
  have qd : ∀ q : Later w1, q.w.cell? ⟨gd, bb, none⟩ = some (.int .i64 (dpt cs bb)) := Later.cell hgl (by
    have q := own_cell13 (k := bb) (by rw [depL_len]; exact O1.out) (by rw [depL_len]; omega)
    rw [depL_at cs bbn] at q; exact q)
  by_cases hdp : (l1 : Int) = dpt cs bb
  rotate_left
  · have HNO : Hid (rsB cs n f (bb : Int) (tt : Int) = false) := rs_no (fun q => hdp (by have r := q.2.2.2.2.2.1; rw [H1.out] at r; exact r))
    have d3 : decide ((l1 : Int) = dpt cs bb) = false := decide_eq_false hdp
    have d4 : ((l1 : Int) == dpt cs bb) = false := by simpa using hdp
    have d5 : ((l1 : Int) != dpt cs bb) = true := by simpa using hdp
    go_wp2_with fail
    refine wp_region_later w1 (by kernel_rfl) (by kernel_rfl) (Below.refl _ _) ?_
    repeat (go_big_quiet_step (first
      | (go_at_call 20; exact calls_later (HGQ.out _))
      | fail))
    refine wpQuiet_nil ?_
    intro q
    obtain ⟨w2, hB⟩ := q
    dsimp only
    have B2 : Hid (Below X.heap.size X w2) := B1.out.trans (hB.mono B1.out.size)
    clear hB qd qq0 qq1 qq2 p0 p1 p2 KP KZ lp
    have KP := HP.out.of_block (B2.out.block _ HP.out.lt)
    have KZ := HZ.out.of_block (B2.out.block _ HZ.out.lt)
    have p0 : w2.cell? ⟨W.heap.size, 0, none⟩ = some (.slice a0 l0 c0) := KP.cell (i := 0) (by decide)
    have p1 : w2.cell? ⟨W.heap.size, 1, none⟩ = some (.slice a1 l1 c1) := KP.cell (i := 1) (by decide)
    have p2 : w2.cell? ⟨W.heap.size, 2, none⟩ = some (.slice a2 l2 c2) := KP.cell (i := 2) (by decide)
    have lp : W.heap.size < w2.heap.size := KP.lt
    have z0 : w2.cell? ⟨W.heap.size + 1, 0, none⟩ = some (.slice none 0 0) := KZ.cell (i := 0) (by decide)
    have fz0 : w2.frozen? ⟨W.heap.size + 1, 0, none⟩ = false := KZ.frozen 0
    have z1 : w2.cell? ⟨W.heap.size + 1, 1, none⟩ = some (.slice none 0 0) := KZ.cell (i := 1) (by decide)
    have fz1 : w2.frozen? ⟨W.heap.size + 1, 1, none⟩ = false := KZ.frozen 1
    have z2 : w2.cell? ⟨W.heap.size + 1, 2, none⟩ = some (.slice none 0 0) := KZ.cell (i := 2) (by decide)
    have fz2 : w2.frozen? ⟨W.heap.size + 1, 2, none⟩ = false := KZ.frozen 2
    have lz : W.heap.size + 1 < w2.heap.size := KZ.lt
    go_wp2
    refine bodyPost_ret (v := .tuple #[.agg #[.slice none 0 0, .slice none 0 0, .slice none 0 0], .bool false]) (by simp only [results, Try.results24]; go_simp) rfl ?_
    rw [rsF_no HNO.out, HNO.out]
    refine rs_zero (Below.trans (HX.out.trans (B2.out.mono HX.out.size)) ?_)
    iterate 3 refine Below.setCell ?_ (by simp; try omega) _
    repeat (first | exact Below.refl _ _ | exact below_drewN (Below.refl _ _) _)
  have d3 : decide ((l1 : Int) = dpt cs bb) = true := decide_eq_true hdp
  have d4 : ((l1 : Int) == dpt cs bb) = true := by simpa using hdp
  have d5 : ((l1 : Int) != dpt cs bb) = false := by simpa using hdp
  have hcap' : n ≤ cap ∧ cap ≤ 1048576 := by
    have q := h.out
    rw [hcap] at q
    exact holds_cap q
  have HA : Hid (bb < tt → ∃ gb o, a = some ⟨gb, o, none⟩ ∧ gb < W.heap.size ∧ ∀ wr, Below W.heap.size W wr → ∀ k, k < n → wr.cell? ⟨gb, o + k * 2, none⟩ = some (.int .i64 (opS cs k)) ∧ wr.cell? ⟨gb, o + k * 2 + 1, none⟩ = some (.int .i64 (nS cs k))) := fun q => by
    obtain ⟨gb, o, ha, hb, _⟩ := sstep_at h.out hf.out (Below.refl _ _) (k := bb) (by omega)
    refine ⟨gb, o, ha, hb, fun wr hB k hk => ?_⟩
    obtain ⟨gb', o', ha', _, c1, c2⟩ := sstep_at h.out hf.out hB hk
    rw [ha] at ha'
    simp only [Option.some.injEq, Addr.mk.injEq, and_true] at ha'
    obtain ⟨rfl, rfl⟩ := ha'
    exact ⟨c1, c2⟩
  have HGF : Hid (GoodFs f (dpt cs bb) 100) := good_of_frame hfr (by rw [H1.out]; exact hdp)
  have HOK : Hid (∀ k, k < n → StepOk cs k) := (steps_out hst).2
  have HRQ : Hid (∀ m, tt - bb = m → (100 < (runF cs bb f m).t.length → rsB cs n f (bb : Int) (tt : Int) = false) ∧ ((runF cs bb f m).t.length ≤ 100 → rsB cs n f (bb : Int) (tt : Int) = true ∧ rsF cs n f (bb : Int) (tt : Int) = runF cs bb f m)) := fun m hm => by
    subst hm
    refine ⟨fun q => rs_no (fun r => ?_), fun q => ?_⟩
    · have r := r.2.2.2.2.2.2
      simp only [Int.toNat_natCast] at r
      omega
    · have y : rsB cs n f (bb : Int) (tt : Int) = true := rs_yes ⟨hst, hfr, b0, bt, htn, by simp only [Int.toNat_natCast]; rw [H1.out]; exact hdp, by simpa only [Int.toNat_natCast] using q⟩
      refine ⟨y, ?_⟩
      rw [rsF_yes y]; simp only [Int.toNat_natCast]
  clear hdp
  go_wp2_with fail
  refine wp_region_later w1 (by kernel_rfl) (by kernel_rfl) (Below.refl _ _) ?_
  repeat (go_big_quiet_step (first
    | (go_at_call 20; exact calls_later (HGQ.out _))
    | fail))
  refine wpQuiet_nil ?_
  intro q
  obtain ⟨w2, hB⟩ := q
  dsimp only
  have B2 : Hid (Below X.heap.size X w2) := B1.out.trans (hB.mono B1.out.size)
  clear hB qd qq0 qq1 qq2 p0 p1 p2 KP KZ lp
  have KP := HP.out.of_block (B2.out.block _ HP.out.lt)
  have KZ := HZ.out.of_block (B2.out.block _ HZ.out.lt)
  have p0 : w2.cell? ⟨W.heap.size, 0, none⟩ = some (.slice a0 l0 c0) := KP.cell (i := 0) (by decide)
  have p1 : w2.cell? ⟨W.heap.size, 1, none⟩ = some (.slice a1 l1 c1) := KP.cell (i := 1) (by decide)
  have p2 : w2.cell? ⟨W.heap.size, 2, none⟩ = some (.slice a2 l2 c2) := KP.cell (i := 2) (by decide)
  have lp : W.heap.size < w2.heap.size := KP.lt
  go_wp2_with fail
  refine (HR.out w2 (HX.out.trans (B2.out.mono HX.out.size))).mono ?_
  rintro e w3 ⟨vl, vs, vt, rfl, hF, hB⟩
  obtain ⟨al, kl, as_, ks, at_, kt, e1, e2, e3, -⟩ := hF.forms
  subst e1 e2 e3
  have F3 : Hid (OF w3 w2.heap.size (.slice al f.l.length kl) (.slice as_ f.s.length ks) (.slice at_ f.t.length kt) f) := hF
  have B3 : Hid (Below w2.heap.size w2 w3) := hB
  clear hF hB p0 p1 p2 KP KZ lp O1 hgl hgd hcd hcm HGQ HG HR HD d3 d4 d5 d1 d1n bbI hst hfr HDL eb ec ecn
  have S23 := B3.out.size
  obtain ⟨y3, hy3⟩ : ∃ q, Hid (w3.alloc (.cells #[.slice al f.l.length kl, .slice as_ f.s.length ks, .slice at_ f.t.length kt] 39) = q) := ⟨_, rfl⟩
  have hy3B : Hid (Below w3.heap.size w3 y3) := by show Below _ _ _; rw [← hy3.out]; exact (Below.refl _ _).alloc (Nat.le_refl _) _
  have F4 : Hid (BoxF y3 w2.heap.size w3.heap.size f) := ⟨_, _, _, _, _, _, _, _, _, F3.out.kept hy3B.out, by rw [← hy3.out]; exact row_of w3 #[.slice al f.l.length kl, .slice as_ f.s.length ks, .slice at_ f.t.length kt] 39⟩
  have B4 : Hid (Below w2.heap.size w2 y3) := B3.out.trans (hy3B.out.mono S23)
  go_upto_region 5 with fail
  rw [hy3.out]
  clear hy3 hy3B F3
  obtain ⟨p, hp⟩ : ∃ p, Hid (w3.heap.size = p) := ⟨_, rfl⟩
  have hpB : w2.heap.size ≤ p := by rw [← hp.out]; exact S23
  rw [hp.out] at F4 ⊢
  go_cut [58, 59, 60] (fun v55 v56 v57 wx => ∃ av cv, v55 = .slice av (tt - bb) cv ∧ v56 = .int .i64 ((tt - bb : Nat) : Int) ∧ v57 = .int .i64 0 ∧ wx = y3 ∧ Hid (bb < tt → ∃ gb o, a = some ⟨gb, o, none⟩ ∧ av = some ⟨gb, o + bb * 2, none⟩))
  case first =>
    obtain ⟨hc1, hc2⟩ := hcap'
    have i1 : (bb : Int) ≤ (tt : Int) := by omega
    have i2 : (tt : Int) ≤ (cap : Int) := by omega
    have i3 : (0 : Int) ≤ (bb : Int) := by omega
    have i4 : (0 : Int) ≤ (tt : Int) := by omega
    have e1 : (tt : Int).toNat - (bb : Int).toNat = tt - bb := by omega
    by_cases hlt : bb < tt
    · obtain ⟨gb, o, rfl, hgb, _⟩ := HA.out hlt
      have i5 : bb < cap := by omega
      have i6 : (bb : Int) < (cap : Int) := by omega
      go_wp2
      go_meet
      exact ⟨_, _, rfl, by go_num, rfl, rfl, fun _ => ⟨_, _, rfl, rfl⟩⟩
    · have e2 : tt = bb := by omega
      subst e2
      cases a with
      | none =>
        go_wp2
        all_goals (go_meet; exact ⟨_, _, by first | rfl | rw [Nat.sub_self], by first | rfl | (rw [Nat.sub_self]; rfl) | go_num, rfl, rfl, fun q => absurd q (Nat.lt_irrefl _)⟩)
      | some ad =>
        by_cases hbc : tt < cap
        · have i6 : (tt : Int) < (cap : Int) := by omega
          go_wp2
          all_goals (go_meet; exact ⟨_, _, by first | rfl | rw [Nat.sub_self], by first | rfl | (rw [Nat.sub_self]; rfl) | go_num, rfl, rfl, fun q => absurd q (Nat.lt_irrefl _)⟩)
        · have e3 : cap = tt := by omega
          subst e3
          go_wp2
          all_goals (go_meet; exact ⟨_, _, by first | rfl | rw [Nat.sub_self], by first | rfl | (rw [Nat.sub_self]; rfl) | go_num, rfl, rfl, fun q => absurd q (Nat.lt_irrefl _)⟩)
  obtain ⟨av, cv, rfl, rfl, rfl, rfl, HAV⟩ := hcut
  have hm : tt - bb ≤ 20 := by omega
  obtain ⟨m, hmE⟩ : ∃ m, Hid (tt - bb = m) := ⟨_, rfl⟩
  have htb : Hid (bb + m = tt) := by show _ = _; have := hmE.out; omega
  rw [hmE.out] at hm ⊢
  have HRN : Hid ((100 < (runF cs bb f m).t.length → rsB cs n f (bb : Int) (tt : Int) = false) ∧ ((runF cs bb f m).t.length ≤ 100 → rsB cs n f (bb : Int) (tt : Int) = true ∧ rsF cs n f (bb : Int) (tt : Int) = runF cs bb f m)) := HRQ.out m hmE.out
  go_wp2_with fail
  go_loopw [60] (fun vj wr => ∃ j : Nat, j ≤ m ∧ vj = .int .i64 j ∧ Hid (BoxF wr w2.heap.size p (runF cs bb f j)) ∧ Hid (Below w2.heap.size w2 wr)) (fun vj _ => m - (intOf vj).toNat)
  case atStart => exact ⟨0, Nat.zero_le _, rfl, F4, B4⟩
  case round =>
    obtain ⟨j, hj, rfl, FJ, BJ⟩ := hrel
    have SJ := BJ.out.size
    obtain ⟨xl, yl, zl, xs, ys, zs, xt, yt, zt, hOF, hRW⟩ := FJ.out
    have OJ : Hid (OF wr w2.heap.size (.slice xl yl zl) (.slice xs ys zs) (.slice xt yt zt) (runF cs bb f j)) := hOF
    have RJ : Hid (wr.rowIs p 39 3 (rowF [.slice xl yl zl, .slice xs ys zs, .slice xt yt zt])) := hRW
    have u0 : wr.cell? ⟨p, 0, none⟩ = some (.slice xl yl zl) := hRW.cell (i := 0) (by decide)
    have u1 : wr.cell? ⟨p, 1, none⟩ = some (.slice xs ys zs) := hRW.cell (i := 1) (by decide)
    have u2 : wr.cell? ⟨p, 2, none⟩ = some (.slice xt yt zt) := hRW.cell (i := 2) (by decide)
    have pl := hRW.lt
    clear hOF hRW FJ
    by_cases hjl : j < m
    · obtain ⟨gb, o, ea, hgb, hcs⟩ := HA.out (by have := htb.out; omega)
      obtain ⟨gb', o', ea', e1⟩ := HAV.out (by have := htb.out; omega)
      rw [ea] at ea'
      simp only [Option.some.injEq, Addr.mk.injEq, and_true] at ea'
      obtain ⟨rfl, rfl⟩ := ea'
      subst e1
      have kn : bb + j < n := by have := htb.out; omega
      have WJ : Below W.heap.size W wr := HX.out.trans ((B2.out.trans (BJ.out.mono B2.out.size)).mono HX.out.size)
      obtain ⟨c1, c2⟩ := hcs wr WJ (bb + j) kn
      rw [show o + (bb + j) * 2 = o + bb * 2 + j * 2 by omega] at c1 c2
      have hjI : (j : Int) < (m : Int) := by omega
      have hSO := HOK.out (bb + j) kn
      have hGJ := run_good HOK.out HGF.out j (by omega)
      obtain ⟨x1, HX1⟩ : ∃ x, Hid (opS cs (bb + j) = x) := ⟨_, rfl⟩
      obtain ⟨x2, HX2⟩ : ∃ x, Hid (nS cs (bb + j) = x) := ⟨_, rfl⟩
      have d4 : dpt cs (bb + j) ≤ 4 := (dpt_in (fun q hq => HOK.out q (by omega))).2
      have HC : Hid (∀ V, Below wr.heap.size wr V → Calls Try.prog 41 #[.agg #[.int .i64 x1, .int .i64 x2], .agg #[.slice xl yl zl, .slice xs ys zs, .slice xt yt zt]] V (SDoAns w2.heap.size (runF cs bb f (j + 1)) V)) := fun V hV => by
        have q := spec_doF w2.heap.size _ _ _ (runF cs bb f j) (opS cs (bb + j)) (nS cs (bb + j)) (dpt cs (bb + j)) (100 + j) hSO.1 hSO.2.1 d4 (by omega) hGJ V (Nat.le_trans SJ hV.size) (OJ.out.kept hV)
        rw [HX1.out, HX2.out] at q
        show Calls _ _ _ _ (SDoAns _ (stepF (opS cs (bb + j)) (nS cs (bb + j)) (runF cs bb f j)) _)
        rw [HX1.out, HX2.out]
        exact q
      rw [HX1.out] at c1
      rw [HX2.out] at c2
      clear hcs WJ hSO hGJ d4 ea
      go_wp2_with fail
      refine (HC.out _ ((Below.refl _ _).alloc (Nat.le_refl _) _)).mono ?_
      rintro e w5 ⟨ul, us, ut, rfl, hF, hB, hS, hz⟩
      obtain ⟨al5, kl5, as5, ks5, at5, kt5, e1, e2, e3, -⟩ := hF.forms
      subst e1 e2 e3
      have R5 : Hid (w5.rowIs p 39 3 (rowF [.slice xl yl zl, .slice xs ys zs, .slice xt yt zt])) := hS _ _ _ _ (by decide) (RJ.out.alloc _)
      have F5 : Hid _ := box_put hF R5.out
      have B5 : Hid (Below w2.heap.size w2 w5) := (BJ.out.alloc SJ _).trans hB
      have B6 : Hid _ := (below_box3 B5.out hpB (.slice al5 (runF cs bb f (j + 1)).l.length kl5) (.slice as5 (runF cs bb f (j + 1)).s.length ks5) (.slice at5 (runF cs bb f (j + 1)).t.length kt5))
      have v0 : w5.cell? ⟨p, 0, none⟩ = some (.slice xl yl zl) := R5.out.cell (i := 0) (by decide)
      have v1 : w5.cell? ⟨p, 1, none⟩ = some (.slice xs ys zs) := R5.out.cell (i := 1) (by decide)
      have v2 : w5.cell? ⟨p, 2, none⟩ = some (.slice xt yt zt) := R5.out.cell (i := 2) (by decide)
      have g0 := R5.out.frozen 0
      have g1 := R5.out.frozen 1
      have g2 := R5.out.frozen 2
      have pl5 := R5.out.lt
      clear hF hB hS hz HC u0 u1 u2
      go_wp2
      go_roundw
      case rel => exact ⟨j + 1, by omega, by go_num, F5, B6⟩
      case measure => simp [intOf]; omega
    have ejm : j = m := by omega
    subst ejm
    obtain ⟨R, ER⟩ : ∃ R, Hid (runF cs bb f j = R) := ⟨_, rfl⟩
    rw [ER.out] at OJ HRN
    have hjI : ¬ (j : Int) < (j : Int) := by omega
    obtain ⟨al6, kl6, as6, ks6, at6, kt6, e1, e2, e3, J0, J1, J2⟩ := OJ.out.forms
    simp only [Value.slice.injEq] at e1 e2 e3
    obtain ⟨rfl, rfl, rfl⟩ := e1
    obtain ⟨rfl, rfl, rfl⟩ := e2
    obtain ⟨rfl, rfl, rfl⟩ := e3
    have hGJ := run_good HOK.out HGF.out j (by have := htb.out; omega)
    rw [ER.out] at hGJ
    have g1 := hGJ.l3
    have g3 := hGJ.sd
    have g5 := hGJ.tm
    have d4 : dpt cs (bb + j) ≤ 4 := (dpt_in (fun q hq => HOK.out q (by have := htb.out; omega))).2
    have HOW : Hid (∀ V, Below wr.heap.size wr V → Calls Try.prog 40 #[.agg #[.slice xl R.l.length zl, .slice xs R.s.length zs, .slice xt R.t.length zt]] V fun e W' => ∃ vl vs vt, e = .returned (.agg #[vl, vs, vt]) ∧ OF W' V.heap.size vl vs vt R ∧ Below V.heap.size V W') := fun V hV => (spec_own13 _ _ zl _ _ zs _ _ zt R.l R.s R.t V rfl rfl rfl (by omega) (by omega) (by omega) (J0.kept hV) (J1.kept hV) (J2.kept hV)).mono (fun e W' q => by
      obtain ⟨vl, vs, vt, e1, o1, o2, o3, d1, d2, d3, hb⟩ := q
      exact ⟨vl, vs, vt, e1, ⟨o1, o2, o3, d1, d2, d3⟩, hb⟩)
    clear J0 J1 J2 hGJ g1 g3 g5 d4 HA HAV HOK HGF
    have BX : Hid (Below X.heap.size X wr) := B2.out.trans (BJ.out.mono B2.out.size)
    have s2X := B2.out.size
    have sX : W.heap.size + 1 < X.heap.size := HZ.out.lt
    have hpne : p ≠ W.heap.size + 1 := by omega
    obtain ⟨lt, HLT⟩ : ∃ q, Hid (R.t.length = q) := ⟨_, rfl⟩
    rw [HLT.out] at u2 HRN HOW
    by_cases hlt : lt ≤ 100
    rotate_left
    · have HNO : Hid (rsB cs n f (bb : Int) (tt : Int) = false) := HRN.out.1 (by omega)
      have hI : (100 : Int) < (lt : Int) := by omega
      clear hlt
      have KZ := HZ.out.of_block (BX.out.block _ HZ.out.lt)
      have z0 : wr.cell? ⟨W.heap.size + 1, 0, none⟩ = some (.slice none 0 0) := KZ.cell (i := 0) (by decide)
      have fz0 : wr.frozen? ⟨W.heap.size + 1, 0, none⟩ = false := KZ.frozen 0
      have z1 : wr.cell? ⟨W.heap.size + 1, 1, none⟩ = some (.slice none 0 0) := KZ.cell (i := 1) (by decide)
      have fz1 : wr.frozen? ⟨W.heap.size + 1, 1, none⟩ = false := KZ.frozen 1
      have z2 : wr.cell? ⟨W.heap.size + 1, 2, none⟩ = some (.slice none 0 0) := KZ.cell (i := 2) (by decide)
      have fz2 : wr.frozen? ⟨W.heap.size + 1, 2, none⟩ = false := KZ.frozen 2
      have lz : W.heap.size + 1 < wr.heap.size := KZ.lt
      go_wp2
      refine bodyPost_ret (v := .tuple #[.agg #[.slice none 0 0, .slice none 0 0, .slice none 0 0], .bool false]) (by simp only [results, Try.results24]; go_simp) rfl ?_
      rw [rsF_no HNO.out, HNO.out]
      refine rs_zero (Below.trans (HX.out.trans (BX.out.mono HX.out.size)) ?_)
      iterate 3 refine Below.setCell ?_ (by simp; try omega) _
      repeat (first | exact Below.refl _ _ | exact below_drewN (Below.refl _ _) _)
    have hI : (lt : Int) ≤ 100 := by omega
    obtain ⟨Y1, Y2⟩ := HRN.out.2 hlt
    have HY1 : Hid (rsB cs n f (bb : Int) (tt : Int) = true) := Y1
    have HY2 : Hid (rsF cs n f (bb : Int) (tt : Int) = R) := Y2
    clear Y1 Y2 HRN
    go_wp2_with fail
    refine (HOW.out _ (Below.refl _ _)).mono ?_
    rintro e w7 ⟨vl7, vs7, vt7, rfl, hF, hB⟩
    obtain ⟨al7, kl7, as7, ks7, at7, kt7, e1, e2, e3, -⟩ := hF.forms
    subst e1 e2 e3
    have B7 : Hid (Below X.heap.size X w7) := BX.out.trans (hB.mono BX.out.size)
    have O7 : Hid (OF w7 wr.heap.size (.slice al7 R.l.length kl7) (.slice as7 R.s.length ks7) (.slice at7 R.t.length kt7) R) := hF
    have HKZ : Hid (w7.rowIs (W.heap.size + 1) 39 3 (rowF [.slice none 0 0, .slice none 0 0, .slice none 0 0])) := HZ.out.of_block (B7.out.block _ HZ.out.lt)
    have KZ := HKZ.out
    have SW : Hid (W.heap.size ≤ wr.heap.size) := by show _ ≤ _; have := BX.out.size; omega
    clear hF hB u0 u1 u2
    have z0 : w7.cell? ⟨W.heap.size + 1, 0, none⟩ = some (.slice none 0 0) := KZ.cell (i := 0) (by decide)
    have fz0 : w7.frozen? ⟨W.heap.size + 1, 0, none⟩ = false := KZ.frozen 0
    have z1 : w7.cell? ⟨W.heap.size + 1, 1, none⟩ = some (.slice none 0 0) := KZ.cell (i := 1) (by decide)
    have fz1 : w7.frozen? ⟨W.heap.size + 1, 1, none⟩ = false := KZ.frozen 1
    have z2 : w7.cell? ⟨W.heap.size + 1, 2, none⟩ = some (.slice none 0 0) := KZ.cell (i := 2) (by decide)
    have fz2 : w7.frozen? ⟨W.heap.size + 1, 2, none⟩ = false := KZ.frozen 2
    have lz : W.heap.size + 1 < w7.heap.size := KZ.lt
    clear KZ
    go_wp2
    refine bodyPost_ret (v := .tuple #[.agg #[.slice al7 R.l.length kl7, .slice as7 R.s.length ks7, .slice at7 R.t.length kt7], .bool true]) (by simp only [results, Try.results24]; go_simp) rfl ?_
    rw [HY1.out, HY2.out]
    exact ⟨_, _, _, rfl, own_box3 (own_mono O7.out.l SW.out) HKZ.out _ _ _, own_box3 (own_mono O7.out.s SW.out) HKZ.out _ _ _, own_box3 (own_mono O7.out.t SW.out) HKZ.out _ _ _, O7.out.ls, O7.out.lt, O7.out.st, below_box3 (HX.out.trans (B7.out.mono HX.out.size)) (by omega) _ _ _⟩
end Go.Proofs.Ytdacpbhdemkacaa.walks
