/-
  What the specification's l13Do makes of a frame whose lists are its own.
-/
import Derived.Test.YtdacpbhdemkacaaProg
import Derived.Test.YtdacpbhdemkacaaMagMath
import Derived.Test.YtdacpbhdemkacaaRunMath
import Derived.Test.YtdacpbhdemkacaaTwoWords
import Derived.Test.YtdacpbhdemkacaaFrameMath
import Derived.Test.YtdacpbhdemkacaaRunFrame
import Derived.Test.YtdacpbhdemkacaaFrameRun
import Derived.Test.YtdacpbhdemkacaaFrameBox
import Derived.Test.YtdacpbhdemkacaaInts
import Derived.Test.YtdacpbhdemkacaaOwnInts
import Derived.Test.YtdacpbhdemkacaaOwnMath
import Derived.Test.YtdacpbhdemkacaaDeep
import Derived.Test.YtdacpbhdemkacaaDeepRow
import Derived.WalkKit
import Derived.WalkSpells
import Derived.Below
import Derived.Handy
import Derived.Deep.DeepFit
import Derived.Deep.OwnRows
import Derived.Deep.RegionLaw
import Derived.Deep.DeepCutAuto
import Derived.Deep.QuietTactic
import Derived.BigQuiet
import Derived.Laws.OwnMore
namespace Go.Proofs.Ytdacpbhdemkacaa.walks
open Go.RowKit Go.Proofs.Ytdacpbhdemkacaa.math Go.Proofs.Ytdacpbhdemkacaa.ints Go.Proofs.Ytdacpbhdemkacaa.deep
set_option linter.unusedVariables false
set_option maxRecDepth 100000

def SDoAns (B : Nat) (f : Fs) (W : World) (e : Ending) (W' : World) : Prop := ∃ vl vs vt, e = .returned (.agg #[vl, vs, vt]) ∧ OF W' B vl vs vt f ∧ Below B W W' ∧ StaysAll W W' ∧ B ≤ W'.heap.size
theorem sdo_fin {W w : World} {B : Nat} {vl vs vt : Value} {f : Fs} (h : OF w B vl vs vt f) (hb : Below B W w) (hs : StaysAll W w) (hz : w.rowIs (W.heap.size + 2) 39 3 (rowF [.slice none 0 0, .slice none 0 0, .slice none 0 0])) (hB : B ≤ W.heap.size) :
    SDoAns B f W (.returned (.agg #[vl, vs, vt])) (((w.setCell ⟨W.heap.size + 2, 0, none⟩ (vl)).setCell ⟨W.heap.size + 2, 1, none⟩ (vs)).setCell ⟨W.heap.size + 2, 2, none⟩ (vt)) := by
  refine ⟨vl, vs, vt, rfl, ((h.box hz (by decide)).box (hz.set 0 _) (by decide)).box ((hz.set 0 _).set 1 _) (by decide), below_box3 hb (by omega) _ _ _, fun k T n F hT q => ?_, by simpa [World.setCell] using Nat.le_trans hB hb.size⟩
  have hk := q.lt
  exact (((hs k T n F hT q).setOther (by simp; omega) _).setOther (by simp; omega) _).setOther (by simp; omega) _
/-- The boxes that l13Do makes at first. -/
structure Begun (W X : World) (B : Nat) (op n : Int) (vl vs vt : Value) (f : Fs) : Prop where
  bel : Below W.heap.size W X
  size : X.heap.size = W.heap.size + 3
  st : X.rowIs (W.heap.size) 49 2 (rowF [.int .i64 op, .int .i64 n])
  fr : X.rowIs (W.heap.size + 1) 39 3 (rowF [vl, vs, vt])
  ze : X.rowIs (W.heap.size + 2) 39 3 (rowF [.slice none 0 0, .slice none 0 0, .slice none 0 0])
  of : OF X B vl vs vt f
theorem begun (W : World) (B : Nat) (op n : Int) (vl vs vt : Value) (f : Fs) (h : OF W B vl vs vt f) : Begun W (((W.alloc (.cells #[.int .i64 op, .int .i64 n] 49)).alloc (.cells #[vl, vs, vt] 39)).alloc (.cells #[.slice none 0 0, .slice none 0 0, .slice none 0 0] 39)) B op n vl vs vt f := by
  have hb : Below W.heap.size W (((W.alloc (.cells #[.int .i64 op, .int .i64 n] 49)).alloc (.cells #[vl, vs, vt] 39)).alloc (.cells #[.slice none 0 0, .slice none 0 0, .slice none 0 0] 39)) := by go_grown
  refine ⟨hb, by simp, ((row_of W #[.int .i64 op, .int .i64 n] 49).alloc _).alloc _, ?_, ?_, h.kept hb⟩
  · have q := row_of (W.alloc (.cells #[.int .i64 op, .int .i64 n] 49)) #[vl, vs, vt] 39
    rw [show (W.alloc (.cells #[.int .i64 op, .int .i64 n] 49)).heap.size = W.heap.size + 1 by simp] at q
    exact q.alloc _
  · have q := row_of ((W.alloc (.cells #[.int .i64 op, .int .i64 n] 49)).alloc (.cells #[vl, vs, vt] 39)) #[.slice none 0 0, .slice none 0 0, .slice none 0 0] 39
    rw [show ((W.alloc (.cells #[.int .i64 op, .int .i64 n] 49)).alloc (.cells #[vl, vs, vt] 39)).heap.size = W.heap.size + 2 by simp] at q
    exact q
/-- The frame in its box, in the midst. -/
def MidF (W wx : World) (B : Nat) (f : Fs) : Prop := ∃ (al : Option Addr) (ll kl : Nat) (as_ : Option Addr) (ms ks : Nat) (at_ : Option Addr) (lt kt : Nat), OF wx B (.slice al ll kl) (.slice as_ ms ks) (.slice at_ lt kt) f ∧ wx.rowIs (W.heap.size + 1) 39 3 (rowF [.slice al ll kl, .slice as_ ms ks, .slice at_ lt kt]) ∧ wx.rowIs (W.heap.size + 2) 39 3 (rowF [.slice none 0 0, .slice none 0 0, .slice none 0 0]) ∧ Below B W wx ∧ StaysAll W wx
/-- One list of the frame in its box has another value. -/
theorem mid_set1 {W w : World} {B : Nat} {al : Option Addr} {ll kl : Nat} {v : Value} {as_ : Option Addr} {ms ks : Nat} {at_ : Option Addr} {lt kt : Nat} {f : Fs} (h : OF w B (.slice al ll kl) (.slice as_ ms ks) (.slice at_ lt kt) f) (hf : w.rowIs (W.heap.size + 1) 39 3 (rowF [.slice al ll kl, v, .slice at_ lt kt])) (hz : w.rowIs (W.heap.size + 2) 39 3 (rowF [.slice none 0 0, .slice none 0 0, .slice none 0 0])) (hb : Below B W w) (hs : StaysAll W w) (hB : B ≤ W.heap.size) : MidF W (w.setCell ⟨W.heap.size + 1, 1, none⟩ (.slice as_ ms ks)) B f :=
  ⟨al, ll, kl, as_, ms, ks, at_, lt, kt, h.box hf (by decide), (hf.set 1 _).congr rowF_set, hz.setOther (by simp) _, hb.setCell (by simp; omega) _, fun k T q F hT r => (hs k T q F hT r).setOther (by have := r.lt; simp; omega) _⟩
theorem mid_set2 {W w : World} {B : Nat} {al : Option Addr} {ll kl : Nat} {v : Value} {as_ : Option Addr} {ms ks : Nat} {at_ : Option Addr} {lt kt : Nat} {f : Fs} (h : OF w B (.slice al ll kl) (.slice as_ ms ks) (.slice at_ lt kt) f) (hf : w.rowIs (W.heap.size + 1) 39 3 (rowF [.slice al ll kl, .slice as_ ms ks, v])) (hz : w.rowIs (W.heap.size + 2) 39 3 (rowF [.slice none 0 0, .slice none 0 0, .slice none 0 0])) (hb : Below B W w) (hs : StaysAll W w) (hB : B ≤ W.heap.size) : MidF W (w.setCell ⟨W.heap.size + 1, 2, none⟩ (.slice at_ lt kt)) B f :=
  ⟨al, ll, kl, as_, ms, ks, at_, lt, kt, h.box hf (by decide), (hf.set 2 _).congr rowF_set2, hz.setOther (by simp) _, hb.setCell (by simp; omega) _, fun k T q F hT r => (hs k T q F hT r).setOther (by have := r.lt; simp; omega) _⟩
theorem Begun.drew {W X : World} {B : Nat} {op n : Int} {vl vs vt : Value} {f : Fs} (h : Begun W X B op n vl vs vt f) : Begun W X.drew B op n vl vs vt f := ⟨h.bel.drew, h.size, h.st.drew, h.fr.drew, h.ze.drew, h.of.kept (Below.refl _ _).drew⟩
theorem Begun.drewN {W X : World} {B : Nat} {op n : Int} {vl vs vt : Value} {f : Fs} (h : Begun W X B op n vl vs vt f) : ∀ q, Begun W (X.drewN q) B op n vl vs vt f
  | 0 => h
  | q + 1 => (h.drewN q).drew
theorem sop_quiet {o q : Int} (h1 : 4 ≤ o) (h2 : o ≤ 7) (hq : o - 1 = q) (W : World) : Calls Try.prog 52 #[.int .i64 o] W fun e W' => e = .returned (.int .i64 q) ∧ W' = W := by
  subst hq
  rcases (show o = 4 ∨ o = 5 ∨ o = 6 ∨ o = 7 by omega) with rfl | rfl | rfl | rfl
  all_goals
    go_enter Try.func52, Try.ntmps52
    go_wp2
    go_ret
    exact ⟨rfl, rfl⟩

set_option maxHeartbeats 8000000 in
theorem sdo_push (B : Nat) (vl vs vt : Value) (ls ss ts : List Int) (n : Int) (W : World) (hB : B ≤ W.heap.size) (hl : ss.length ≤ 900) (h : Hid (OF W B vl vs vt ⟨ls, ss, ts⟩)) :
    Calls Try.prog 41 #[.agg #[.int .i64 1, .int .i64 n], .agg #[vl, vs, vt]] W (SDoAns B ⟨ls, ss ++ [n], ts⟩ W) := by
  obtain ⟨i0, hi, hz0, hz1, hz2⟩ := parts_of (P := Try.prog) (e := 3) (z := .int .i64 0) (a := 1) (b := 8) (by kernel_rfl)
  obtain ⟨al, kl, el, -⟩ := h.out.l.mine
  obtain ⟨as_, ks, es, -⟩ := h.out.s.mine
  obtain ⟨at_, kt, et, -⟩ := h.out.t.mine
  subst el es et
  dsimp only at h ⊢
  obtain ⟨lls, HLL⟩ : ∃ q, Hid (ls.length = q) := ⟨_, rfl⟩
  obtain ⟨lss, HLS⟩ : ∃ q, Hid ((ss).length = q) := ⟨_, rfl⟩
  obtain ⟨lts, HLT⟩ : ∃ q, Hid (ts.length = q) := ⟨_, rfl⟩
  rw [HLL.out, HLS.out, HLT.out] at h ⊢
  obtain ⟨X, hX⟩ : ∃ X, Hid (((W.alloc (.cells #[.int .i64 1, .int .i64 n] 49)).alloc (.cells #[(.slice al lls kl), (.slice as_ lss ks), (.slice at_ lts kt)] 39)).alloc (.cells #[.slice none 0 0, .slice none 0 0, .slice none 0 0] 39) = X) := ⟨_, rfl⟩
  have HB : Hid (Begun W X B 1 n (.slice al lls kl) (.slice as_ lss ks) (.slice at_ lts kt) ⟨ls, ss, ts⟩) := by show Begun _ _ _ _ _ _ _ _ _; rw [← hX.out]; exact begun W B 1 n _ _ _ _ h.out
  have sX : Hid (X.heap.size = W.heap.size + 3) := HB.out.size
  have s0 : X.cell? ⟨W.heap.size, 0, none⟩ = some (.int .i64 1) := HB.out.st.cell (i := 0) (by decide)
  have s1 : X.cell? ⟨W.heap.size, 1, none⟩ = some (.int .i64 n) := HB.out.st.cell (i := 1) (by decide)
  have lX : W.heap.size < X.heap.size := HB.out.st.lt
  have BWX : Hid (Below W.heap.size W X) := HB.out.bel
  clear h
  go_enter Try.func41, Try.ntmps41
  go_upto_region 1 with fail
  rw [hX.out]
  clear hX
  try rw [show W.heap.size + 1 + 1 = W.heap.size + 2 from rfl]
  have KF := HB.out.fr
  have KZ := HB.out.ze
  have f0 : X.cell? ⟨W.heap.size + 1, 0, none⟩ = some (.slice al lls kl) := KF.cell (i := 0) (by decide)
  have z0 : X.cell? ⟨W.heap.size + 2, 0, none⟩ = some (.slice none 0 0) := KZ.cell (i := 0) (by decide)
  have fz0 : X.frozen? ⟨W.heap.size + 2, 0, none⟩ = false := KZ.frozen 0
  have ff0 : X.frozen? ⟨W.heap.size + 1, 0, none⟩ = false := KF.frozen 0
  have f1 : X.cell? ⟨W.heap.size + 1, 1, none⟩ = some (.slice as_ lss ks) := KF.cell (i := 1) (by decide)
  have z1 : X.cell? ⟨W.heap.size + 2, 1, none⟩ = some (.slice none 0 0) := KZ.cell (i := 1) (by decide)
  have fz1 : X.frozen? ⟨W.heap.size + 2, 1, none⟩ = false := KZ.frozen 1
  have ff1 : X.frozen? ⟨W.heap.size + 1, 1, none⟩ = false := KF.frozen 1
  have f2 : X.cell? ⟨W.heap.size + 1, 2, none⟩ = some (.slice at_ lts kt) := KF.cell (i := 2) (by decide)
  have z2 : X.cell? ⟨W.heap.size + 2, 2, none⟩ = some (.slice none 0 0) := KZ.cell (i := 2) (by decide)
  have fz2 : X.frozen? ⟨W.heap.size + 2, 2, none⟩ = false := KZ.frozen 2
  have ff2 : X.frozen? ⟨W.heap.size + 1, 2, none⟩ = false := KF.frozen 2
  have lf : W.heap.size + 1 < X.heap.size := KF.lt
  have lz : W.heap.size + 2 < X.heap.size := KZ.lt
  clear KF KZ
  have hl' : lss ≤ 900 + 0 := by rw [← HLS.out]; simp; omega
  go_upto_region 2 with fail
  obtain ⟨V, eV⟩ : ∃ V, Value.slice as_ lss ks = V := ⟨_, rfl⟩
  rw [eV] at HB f1 ⊢
  clear eV
  have HOS : Hid (X.ownsRow B 3 1 V lss ((ss).map (Value.int .i64))) := by have q := HB.out.of.s; unfold Own at q; rw [HLS.out] at q; exact q
  have sB : B ≤ X.heap.size := by have := sX.out; omega
  go_wp2_with (first
    | (at_builtin; refine wpList_append_own_at _ rfl _ _ 29 rfl B 3 i0 (.int .i64 0) 1 8 Try.underlying29 hi hz0 hz1 hz2 rfl (by decide) _ _ _ rfl (World.ownsRow.alloc HOS.out _) ⟨X.heap.size, 0, none⟩ 1 1 [.int .i64 n] rfl rfl (new_one X n _) (one_of n) ?c3 ?c4 ?c5 ?_)
    | fail)
  case c3 => unfold maxLen; omega
  case c4 => omega
  case c5 => first | omega | (simp; omega)
  intro v2 w2 hown hgrow hnil hat; clear hnil
  have O2 : Hid (OF w2 B (.slice al lls kl) v2 (.slice at_ lts kt) ⟨ls, ss ++ [n], ts⟩) := HB.out.of.push (by have q := hown; rw [← HLS.out] at q; exact q) hgrow (by simpa using hat)
  have F2 : Hid (w2.rowIs (W.heap.size + 1) 39 3 (rowF [.slice al lls kl, V, .slice at_ lts kt])) := row_grown HB.out.of.s hgrow (by decide) HB.out.fr
  have Z2 : Hid (w2.rowIs (W.heap.size + 2) 39 3 (rowF [.slice none 0 0, .slice none 0 0, .slice none 0 0])) := row_grown HB.out.of.s hgrow (by decide) HB.out.ze
  have B2 : Hid (Below B W w2) := (HB.out.bel.mono hB).trans (below_grown HB.out.of.s sB hgrow)
  have S2 : Hid (StaysAll W w2) := (stays_all HB.out.bel).trans (fun k T q F hT r => row_grown HB.out.of.s hgrow hT r)
  clear hown hgrow hat HOS
  obtain ⟨a2, k2, e2, -⟩ := O2.out.s.mine
  dsimp only at e2
  obtain ⟨m2, em2⟩ : ∃ q, Hid ((ss ++ [n]).length = q) := ⟨_, rfl⟩
  rw [em2.out] at e2
  subst e2
  clear f0 f1 f2 z0 z1 z2 fz0 fz1 fz2 ff0 ff1 ff2 lf lz s0 s1 hi hz0 hz1 hz2
  have KF := F2.out
  have KZ := Z2.out
  have f0 : w2.cell? ⟨W.heap.size + 1, 0, none⟩ = some (.slice al lls kl) := KF.cell (i := 0) (by decide)
  have z0 : w2.cell? ⟨W.heap.size + 2, 0, none⟩ = some (.slice none 0 0) := KZ.cell (i := 0) (by decide)
  have fz0 : w2.frozen? ⟨W.heap.size + 2, 0, none⟩ = false := KZ.frozen 0
  have ff0 : w2.frozen? ⟨W.heap.size + 1, 0, none⟩ = false := KF.frozen 0
  have f1 : w2.cell? ⟨W.heap.size + 1, 1, none⟩ = some (V) := KF.cell (i := 1) (by decide)
  have z1 : w2.cell? ⟨W.heap.size + 2, 1, none⟩ = some (.slice none 0 0) := KZ.cell (i := 1) (by decide)
  have fz1 : w2.frozen? ⟨W.heap.size + 2, 1, none⟩ = false := KZ.frozen 1
  have ff1 : w2.frozen? ⟨W.heap.size + 1, 1, none⟩ = false := KF.frozen 1
  have f2 : w2.cell? ⟨W.heap.size + 1, 2, none⟩ = some (.slice at_ lts kt) := KF.cell (i := 2) (by decide)
  have z2 : w2.cell? ⟨W.heap.size + 2, 2, none⟩ = some (.slice none 0 0) := KZ.cell (i := 2) (by decide)
  have fz2 : w2.frozen? ⟨W.heap.size + 2, 2, none⟩ = false := KZ.frozen 2
  have ff2 : w2.frozen? ⟨W.heap.size + 1, 2, none⟩ = false := KF.frozen 2
  have lf : W.heap.size + 1 < w2.heap.size := KF.lt
  have lz : W.heap.size + 2 < w2.heap.size := KZ.lt
  clear KF KZ
  go_wp2
  refine bodyPost_ret (v := .agg #[.slice al lls kl, .slice a2 m2 k2, .slice at_ lts kt]) (by simp only [results, Try.results41]; go_simp) rfl (sdo_fin (O2.out.box F2.out (by decide)) (B2.out.setCell (by simp; omega) _) (fun k T q F hT r => (S2.out k T q F hT r).setOther (by have := r.lt; simp; omega) _) (Z2.out.setOther (by simp) _) hB)
set_option maxHeartbeats 8000000 in
theorem sdo_load (B : Nat) (vl vs vt : Value) (ls ss ts : List Int) (k : Nat) (x : Int) (hk : k < 3) (HL3 : Hid (ls.length = 3)) (HX : Hid (ls.getD k 0 = x)) (W : World) (hB : B ≤ W.heap.size) (hl : ss.length ≤ 900) (h : Hid (OF W B vl vs vt ⟨ls, ss, ts⟩)) :
    Calls Try.prog 41 #[.agg #[.int .i64 2, .int .i64 (k : Int)], .agg #[vl, vs, vt]] W (SDoAns B ⟨ls, ss ++ [x], ts⟩ W) := by
  obtain ⟨i0, hi, hz0, hz1, hz2⟩ := parts_of (P := Try.prog) (e := 3) (z := .int .i64 0) (a := 1) (b := 8) (by kernel_rfl)
  obtain ⟨al, kl, el, -⟩ := h.out.l.mine
  obtain ⟨as_, ks, es, -⟩ := h.out.s.mine
  obtain ⟨at_, kt, et, -⟩ := h.out.t.mine
  subst el es et
  dsimp only at h ⊢
  obtain ⟨lls, HLL⟩ : ∃ q, Hid (ls.length = q) := ⟨_, rfl⟩
  obtain ⟨lss, HLS⟩ : ∃ q, Hid ((ss).length = q) := ⟨_, rfl⟩
  obtain ⟨lts, HLT⟩ : ∃ q, Hid (ts.length = q) := ⟨_, rfl⟩
  rw [HLL.out, HLS.out, HLT.out] at h ⊢
  obtain rfl : lls = 3 := by have q := HLL.out; rw [HL3.out] at q; exact q.symm
  obtain ⟨gl, cl, e1, hgB, hgl, hcl, hcm⟩ := own_form13 h.out.l (by show 0 < ls.length; rw [HL3.out]; decide)
  dsimp only at e1 hcl
  rw [HL3.out] at e1 hcl
  simp only [Value.slice.injEq, true_and] at e1
  obtain ⟨rfl, rfl⟩ := e1
  have CL : Hid (W.cell? ⟨gl, k, none⟩ = some (.int .i64 x)) := by
    have q := own_cell13 (w := W) (B := B) (g := gl) (cap := kl) (zs := ls) (by rw [HL3.out]; exact h.out.l) (k := k) (by rw [HL3.out]; exact hk)
    rw [HX.out] at q; exact q
  have kI : (k : Int) < 3 := by omega
  clear hcl hcm
  obtain ⟨X, hX⟩ : ∃ X, Hid (((W.alloc (.cells #[.int .i64 2, .int .i64 (k : Int)] 49)).alloc (.cells #[(.slice (some ⟨gl, 0, none⟩) 3 kl), (.slice as_ lss ks), (.slice at_ lts kt)] 39)).alloc (.cells #[.slice none 0 0, .slice none 0 0, .slice none 0 0] 39) = X) := ⟨_, rfl⟩
  have HB : Hid (Begun W X B 2 (k : Int) (.slice (some ⟨gl, 0, none⟩) 3 kl) (.slice as_ lss ks) (.slice at_ lts kt) ⟨ls, ss, ts⟩) := by show Begun _ _ _ _ _ _ _ _ _; rw [← hX.out]; exact begun W B 2 (k : Int) _ _ _ _ h.out
  have sX : Hid (X.heap.size = W.heap.size + 3) := HB.out.size
  have s0 : X.cell? ⟨W.heap.size, 0, none⟩ = some (.int .i64 2) := HB.out.st.cell (i := 0) (by decide)
  have s1 : X.cell? ⟨W.heap.size, 1, none⟩ = some (.int .i64 (k : Int)) := HB.out.st.cell (i := 1) (by decide)
  have lX : W.heap.size < X.heap.size := HB.out.st.lt
  have BWX : Hid (Below W.heap.size W X) := HB.out.bel
  clear h
  go_enter Try.func41, Try.ntmps41
  go_upto_region 1 with fail
  rw [hX.out]
  clear hX
  try rw [show W.heap.size + 1 + 1 = W.heap.size + 2 from rfl]
  have hc : X.cell? ⟨gl, k, none⟩ = some (.int .i64 x) := (BWX.out.cell (p := ⟨gl, k, none⟩) hgl).trans CL.out
  have KF := HB.out.fr
  have KZ := HB.out.ze
  have f0 : X.cell? ⟨W.heap.size + 1, 0, none⟩ = some (.slice (some ⟨gl, 0, none⟩) 3 kl) := KF.cell (i := 0) (by decide)
  have z0 : X.cell? ⟨W.heap.size + 2, 0, none⟩ = some (.slice none 0 0) := KZ.cell (i := 0) (by decide)
  have fz0 : X.frozen? ⟨W.heap.size + 2, 0, none⟩ = false := KZ.frozen 0
  have ff0 : X.frozen? ⟨W.heap.size + 1, 0, none⟩ = false := KF.frozen 0
  have f1 : X.cell? ⟨W.heap.size + 1, 1, none⟩ = some (.slice as_ lss ks) := KF.cell (i := 1) (by decide)
  have z1 : X.cell? ⟨W.heap.size + 2, 1, none⟩ = some (.slice none 0 0) := KZ.cell (i := 1) (by decide)
  have fz1 : X.frozen? ⟨W.heap.size + 2, 1, none⟩ = false := KZ.frozen 1
  have ff1 : X.frozen? ⟨W.heap.size + 1, 1, none⟩ = false := KF.frozen 1
  have f2 : X.cell? ⟨W.heap.size + 1, 2, none⟩ = some (.slice at_ lts kt) := KF.cell (i := 2) (by decide)
  have z2 : X.cell? ⟨W.heap.size + 2, 2, none⟩ = some (.slice none 0 0) := KZ.cell (i := 2) (by decide)
  have fz2 : X.frozen? ⟨W.heap.size + 2, 2, none⟩ = false := KZ.frozen 2
  have ff2 : X.frozen? ⟨W.heap.size + 1, 2, none⟩ = false := KF.frozen 2
  have lf : W.heap.size + 1 < X.heap.size := KF.lt
  have lz : W.heap.size + 2 < X.heap.size := KZ.lt
  clear KF KZ
  have hl' : lss ≤ 900 + 0 := by rw [← HLS.out]; simp; omega
  go_upto_region 2 with fail
  obtain ⟨V, eV⟩ : ∃ V, Value.slice as_ lss ks = V := ⟨_, rfl⟩
  rw [eV] at HB f1 ⊢
  clear eV
  have HOS : Hid (X.ownsRow B 3 1 V lss ((ss).map (Value.int .i64))) := by have q := HB.out.of.s; unfold Own at q; rw [HLS.out] at q; exact q
  have sB : B ≤ X.heap.size := by have := sX.out; omega
  go_upto_region 8 with fail
  go_region_law (refine step_append_at _ rfl (.tmp 49) (.tmp 56) 29 rfl B 3 i0 (.int .i64 0) 1 8 Try.underlying29 hi hz0 hz1 hz2 rfl (by decide) V lss (ss.map (Value.int .i64)) (by simp [Act.eval]) (World.ownsRow.alloc (World.ownsRow.drew HOS.out) _) ⟨X.heap.size, 0, none⟩ 1 1 [.int .i64 x] (by simp [Act.eval]) rfl (new_one X.drew x _) (one_of x) (by unfold maxLen; omega) (by omega) (by simp; omega) ?_; intro v2 w2 hown hgrow hnil hat; clear hnil; have O2 : Hid (OF w2 B (.slice (some ⟨gl, 0, none⟩) 3 kl) v2 (.slice at_ lts kt) ⟨ls, ss ++ [x], ts⟩) := HB.out.drew.of.push (by have q := hown; rw [← HLS.out] at q; exact q) hgrow (by simpa using hat); have F2 : Hid (w2.rowIs (W.heap.size + 1) 39 3 (rowF [.slice (some ⟨gl, 0, none⟩) 3 kl, V, .slice at_ lts kt])) := row_grown HB.out.drew.of.s hgrow (by decide) HB.out.drew.fr; have Z2 : Hid (w2.rowIs (W.heap.size + 2) 39 3 (rowF [.slice none 0 0, .slice none 0 0, .slice none 0 0])) := row_grown HB.out.drew.of.s hgrow (by decide) HB.out.drew.ze; have B2 : Hid (Below B W w2) := (HB.out.drew.bel.mono hB).trans (below_grown HB.out.drew.of.s sB hgrow); have S2 : Hid (StaysAll W w2) := (stays_all HB.out.drew.bel).trans (fun k T q F hT r => row_grown HB.out.drew.of.s hgrow hT r); clear hown hgrow hat HOS; obtain ⟨a2, k2, e2, -⟩ := O2.out.s.mine; dsimp only at e2; obtain ⟨m2, em2⟩ : ∃ q, Hid ((ss ++ [x]).length = q) := ⟨_, rfl⟩; rw [em2.out] at e2; subst e2; clear f0 f1 f2 z0 z1 z2 fz0 fz1 fz2 ff0 ff1 ff2 lf lz s0 s1 hc hi hz0 hz1 hz2 HB; have KF := F2.out;   have KZ := Z2.out;   have f0 : w2.cell? ⟨W.heap.size + 1, 0, none⟩ = some (.slice (some ⟨gl, 0, none⟩) 3 kl) := KF.cell (i := 0) (by decide);   have z0 : w2.cell? ⟨W.heap.size + 2, 0, none⟩ = some (.slice none 0 0) := KZ.cell (i := 0) (by decide);   have fz0 : w2.frozen? ⟨W.heap.size + 2, 0, none⟩ = false := KZ.frozen 0;   have ff0 : w2.frozen? ⟨W.heap.size + 1, 0, none⟩ = false := KF.frozen 0;   have f1 : w2.cell? ⟨W.heap.size + 1, 1, none⟩ = some (V) := KF.cell (i := 1) (by decide);   have z1 : w2.cell? ⟨W.heap.size + 2, 1, none⟩ = some (.slice none 0 0) := KZ.cell (i := 1) (by decide);   have fz1 : w2.frozen? ⟨W.heap.size + 2, 1, none⟩ = false := KZ.frozen 1;   have ff1 : w2.frozen? ⟨W.heap.size + 1, 1, none⟩ = false := KF.frozen 1;   have f2 : w2.cell? ⟨W.heap.size + 1, 2, none⟩ = some (.slice at_ lts kt) := KF.cell (i := 2) (by decide);   have z2 : w2.cell? ⟨W.heap.size + 2, 2, none⟩ = some (.slice none 0 0) := KZ.cell (i := 2) (by decide);   have fz2 : w2.frozen? ⟨W.heap.size + 2, 2, none⟩ = false := KZ.frozen 2;   have ff2 : w2.frozen? ⟨W.heap.size + 1, 2, none⟩ = false := KF.frozen 2;   have lf : W.heap.size + 1 < w2.heap.size := KF.lt;   have lz : W.heap.size + 2 < w2.heap.size := KZ.lt;   clear KF KZ)
  all_goals go_wp2
  all_goals (refine bodyPost_ret (v := .agg #[.slice (some ⟨gl, 0, none⟩) 3 kl, .slice a2 m2 k2, .slice at_ lts kt]) (by simp only [results, Try.results41]; go_simp) rfl (sdo_fin (O2.out.box F2.out (by decide)) (B2.out.setCell (by simp; omega) _) (fun k T q F hT r => (S2.out k T q F hT r).setOther (by have := r.lt; simp; omega) _) (Z2.out.setOther (by simp) _) hB))
set_option maxHeartbeats 8000000 in
theorem sdo_drop (B : Nat) (vl vs vt : Value) (ls ss ts : List Int) (x : Int) (W : World) (hB : B ≤ W.heap.size) (hl : ss.length ≤ 900) (h : Hid (OF W B vl vs vt ⟨ls, ss ++ [x], ts⟩)) :
    Calls Try.prog 41 #[.agg #[.int .i64 9, .int .i64 0], .agg #[vl, vs, vt]] W (SDoAns B ⟨ls, ss, ts⟩ W) := by
  obtain ⟨i0, hi, hz0, hz1, hz2⟩ := parts_of (P := Try.prog) (e := 3) (z := .int .i64 0) (a := 1) (b := 8) (by kernel_rfl)
  obtain ⟨al, kl, el, -⟩ := h.out.l.mine
  obtain ⟨as_, ks, es, -⟩ := h.out.s.mine
  obtain ⟨at_, kt, et, -⟩ := h.out.t.mine
  subst el es et
  dsimp only at h ⊢
  obtain ⟨lls, HLL⟩ : ∃ q, Hid (ls.length = q) := ⟨_, rfl⟩
  obtain ⟨lss, HLS⟩ : ∃ q, Hid ((ss ++ [x]).length = q) := ⟨_, rfl⟩
  obtain ⟨lts, HLT⟩ : ∃ q, Hid (ts.length = q) := ⟨_, rfl⟩
  rw [HLL.out, HLS.out, HLT.out] at h ⊢
  obtain ⟨gs, cs_, e1, hgB, hgl, hcl, hcm⟩ := own_form13 h.out.s (by simp)
  dsimp only at e1 hcl
  rw [HLS.out] at e1 hcl
  simp only [Value.slice.injEq, true_and] at e1
  obtain ⟨rfl, rfl⟩ := e1
  obtain ⟨m, hm⟩ : ∃ q, Hid (ss.length = q) := ⟨_, rfl⟩
  obtain rfl : lss = m + 1 := by have q := HLS.out; rw [← q, ← hm.out]; simp
  have hm9 : m ≤ 900 := by rw [← hm.out]; exact hl
  unfold maxLen at hcm
  obtain ⟨X, hX⟩ : ∃ X, Hid (((W.alloc (.cells #[.int .i64 9, .int .i64 0] 49)).alloc (.cells #[(.slice al lls kl), (.slice (some ⟨gs, 0, none⟩) (m + 1) ks), (.slice at_ lts kt)] 39)).alloc (.cells #[.slice none 0 0, .slice none 0 0, .slice none 0 0] 39) = X) := ⟨_, rfl⟩
  have HB : Hid (Begun W X B 9 0 (.slice al lls kl) (.slice (some ⟨gs, 0, none⟩) (m + 1) ks) (.slice at_ lts kt) ⟨ls, ss ++ [x], ts⟩) := by show Begun _ _ _ _ _ _ _ _ _; rw [← hX.out]; exact begun W B 9 0 _ _ _ _ h.out
  have sX : Hid (X.heap.size = W.heap.size + 3) := HB.out.size
  have s0 : X.cell? ⟨W.heap.size, 0, none⟩ = some (.int .i64 9) := HB.out.st.cell (i := 0) (by decide)
  have s1 : X.cell? ⟨W.heap.size, 1, none⟩ = some (.int .i64 0) := HB.out.st.cell (i := 1) (by decide)
  have lX : W.heap.size < X.heap.size := HB.out.st.lt
  have BWX : Hid (Below W.heap.size W X) := HB.out.bel
  clear h
  go_enter Try.func41, Try.ntmps41
  go_upto_region 1 with fail
  rw [hX.out]
  clear hX
  try rw [show W.heap.size + 1 + 1 = W.heap.size + 2 from rfl]
  have KF := HB.out.fr
  have KZ := HB.out.ze
  have f0 : X.cell? ⟨W.heap.size + 1, 0, none⟩ = some (.slice al lls kl) := KF.cell (i := 0) (by decide)
  have z0 : X.cell? ⟨W.heap.size + 2, 0, none⟩ = some (.slice none 0 0) := KZ.cell (i := 0) (by decide)
  have fz0 : X.frozen? ⟨W.heap.size + 2, 0, none⟩ = false := KZ.frozen 0
  have ff0 : X.frozen? ⟨W.heap.size + 1, 0, none⟩ = false := KF.frozen 0
  have f1 : X.cell? ⟨W.heap.size + 1, 1, none⟩ = some (.slice (some ⟨gs, 0, none⟩) (m + 1) ks) := KF.cell (i := 1) (by decide)
  have z1 : X.cell? ⟨W.heap.size + 2, 1, none⟩ = some (.slice none 0 0) := KZ.cell (i := 1) (by decide)
  have fz1 : X.frozen? ⟨W.heap.size + 2, 1, none⟩ = false := KZ.frozen 1
  have ff1 : X.frozen? ⟨W.heap.size + 1, 1, none⟩ = false := KF.frozen 1
  have f2 : X.cell? ⟨W.heap.size + 1, 2, none⟩ = some (.slice at_ lts kt) := KF.cell (i := 2) (by decide)
  have z2 : X.cell? ⟨W.heap.size + 2, 2, none⟩ = some (.slice none 0 0) := KZ.cell (i := 2) (by decide)
  have fz2 : X.frozen? ⟨W.heap.size + 2, 2, none⟩ = false := KZ.frozen 2
  have ff2 : X.frozen? ⟨W.heap.size + 1, 2, none⟩ = false := KF.frozen 2
  have lf : W.heap.size + 1 < X.heap.size := KF.lt
  have lz : W.heap.size + 2 < X.heap.size := KZ.lt
  clear KF KZ
  have hcI : (m : Int) ≤ (ks : Int) := by omega
  have hcJ : (m : Int) + 1 - 1 = (m : Int) := by omega
  go_wp2
  refine bodyPost_ret (v := .agg #[.slice al lls kl, .slice (some ⟨gs, 0, none⟩) m ks, .slice at_ lts kt]) (by simp only [results, Try.results41]; go_simp) rfl (sdo_fin ((HB.out.of.pop hm.out).box HB.out.fr (by decide)) ((BWX.out.mono hB).setCell (by simp; omega) _) (fun k T q F hT r => (stays_all BWX.out k T q F hT r).setOther (by have := r.lt; simp; omega) _) (HB.out.ze.setOther (by simp) _) hB)
set_option maxHeartbeats 8000000 in
theorem sdo_dup (B : Nat) (vl vs vt : Value) (ls ss ts : List Int) (x : Int) (W : World) (hB : B ≤ W.heap.size) (hl : ss.length ≤ 900) (h : Hid (OF W B vl vs vt ⟨ls, ss ++ [x], ts⟩)) :
    Calls Try.prog 41 #[.agg #[.int .i64 8, .int .i64 0], .agg #[vl, vs, vt]] W (SDoAns B ⟨ls, ss ++ [x] ++ [x], ts⟩ W) := by
  obtain ⟨i0, hi, hz0, hz1, hz2⟩ := parts_of (P := Try.prog) (e := 3) (z := .int .i64 0) (a := 1) (b := 8) (by kernel_rfl)
  obtain ⟨al, kl, el, -⟩ := h.out.l.mine
  obtain ⟨as_, ks, es, -⟩ := h.out.s.mine
  obtain ⟨at_, kt, et, -⟩ := h.out.t.mine
  subst el es et
  dsimp only at h ⊢
  obtain ⟨lls, HLL⟩ : ∃ q, Hid (ls.length = q) := ⟨_, rfl⟩
  obtain ⟨lss, HLS⟩ : ∃ q, Hid ((ss ++ [x]).length = q) := ⟨_, rfl⟩
  obtain ⟨lts, HLT⟩ : ∃ q, Hid (ts.length = q) := ⟨_, rfl⟩
  rw [HLL.out, HLS.out, HLT.out] at h ⊢
  obtain ⟨gs, cs_, e1, hgB, hgl, hcl, hcm⟩ := own_form13 h.out.s (by simp)
  dsimp only at e1 hcl
  rw [HLS.out] at e1 hcl
  simp only [Value.slice.injEq, true_and] at e1
  obtain ⟨rfl, rfl⟩ := e1
  obtain ⟨m, hm⟩ : ∃ q, Hid (ss.length = q) := ⟨_, rfl⟩
  obtain rfl : lss = m + 1 := by have q := HLS.out; rw [← q, ← hm.out]; simp
  have hm9 : m ≤ 900 := by rw [← hm.out]; exact hl
  unfold maxLen at hcm
  have CL : Hid (W.cell? ⟨gs, m, none⟩ = some (.int .i64 x)) := by
    have q := own_cell13 (w := W) (B := B) (g := gs) (cap := ks) (zs := ss ++ [x]) (by rw [HLS.out]; exact h.out.s) (k := m) (by rw [HLS.out]; omega)
    rw [show (ss ++ [x]).getD m 0 = x by simp [List.getD, ← hm.out]] at q; exact q
  obtain ⟨X, hX⟩ : ∃ X, Hid (((W.alloc (.cells #[.int .i64 8, .int .i64 0] 49)).alloc (.cells #[(.slice al lls kl), (.slice (some ⟨gs, 0, none⟩) (m + 1) ks), (.slice at_ lts kt)] 39)).alloc (.cells #[.slice none 0 0, .slice none 0 0, .slice none 0 0] 39) = X) := ⟨_, rfl⟩
  have HB : Hid (Begun W X B 8 0 (.slice al lls kl) (.slice (some ⟨gs, 0, none⟩) (m + 1) ks) (.slice at_ lts kt) ⟨ls, ss ++ [x], ts⟩) := by show Begun _ _ _ _ _ _ _ _ _; rw [← hX.out]; exact begun W B 8 0 _ _ _ _ h.out
  have sX : Hid (X.heap.size = W.heap.size + 3) := HB.out.size
  have s0 : X.cell? ⟨W.heap.size, 0, none⟩ = some (.int .i64 8) := HB.out.st.cell (i := 0) (by decide)
  have s1 : X.cell? ⟨W.heap.size, 1, none⟩ = some (.int .i64 0) := HB.out.st.cell (i := 1) (by decide)
  have lX : W.heap.size < X.heap.size := HB.out.st.lt
  have BWX : Hid (Below W.heap.size W X) := HB.out.bel
  clear h
  go_enter Try.func41, Try.ntmps41
  go_upto_region 1 with fail
  rw [hX.out]
  clear hX
  try rw [show W.heap.size + 1 + 1 = W.heap.size + 2 from rfl]
  have hc : X.cell? ⟨gs, m, none⟩ = some (.int .i64 x) := (BWX.out.cell (p := ⟨gs, m, none⟩) hgl).trans CL.out
  have KF := HB.out.fr
  have KZ := HB.out.ze
  have f0 : X.cell? ⟨W.heap.size + 1, 0, none⟩ = some (.slice al lls kl) := KF.cell (i := 0) (by decide)
  have z0 : X.cell? ⟨W.heap.size + 2, 0, none⟩ = some (.slice none 0 0) := KZ.cell (i := 0) (by decide)
  have fz0 : X.frozen? ⟨W.heap.size + 2, 0, none⟩ = false := KZ.frozen 0
  have ff0 : X.frozen? ⟨W.heap.size + 1, 0, none⟩ = false := KF.frozen 0
  have f1 : X.cell? ⟨W.heap.size + 1, 1, none⟩ = some (.slice (some ⟨gs, 0, none⟩) (m + 1) ks) := KF.cell (i := 1) (by decide)
  have z1 : X.cell? ⟨W.heap.size + 2, 1, none⟩ = some (.slice none 0 0) := KZ.cell (i := 1) (by decide)
  have fz1 : X.frozen? ⟨W.heap.size + 2, 1, none⟩ = false := KZ.frozen 1
  have ff1 : X.frozen? ⟨W.heap.size + 1, 1, none⟩ = false := KF.frozen 1
  have f2 : X.cell? ⟨W.heap.size + 1, 2, none⟩ = some (.slice at_ lts kt) := KF.cell (i := 2) (by decide)
  have z2 : X.cell? ⟨W.heap.size + 2, 2, none⟩ = some (.slice none 0 0) := KZ.cell (i := 2) (by decide)
  have fz2 : X.frozen? ⟨W.heap.size + 2, 2, none⟩ = false := KZ.frozen 2
  have ff2 : X.frozen? ⟨W.heap.size + 1, 2, none⟩ = false := KF.frozen 2
  have lf : W.heap.size + 1 < X.heap.size := KF.lt
  have lz : W.heap.size + 2 < X.heap.size := KZ.lt
  clear KF KZ
  have mI : (m : Int) < (m : Int) + 1 := by omega
  have m0 : (0 : Int) ≤ (m : Int) := by omega
  have hwr : IntKind.i64.wrap (m : Int) = (m : Int) := Go.IntWalk.i64_in _ (by omega)
  have hcJ : (m : Int) + 1 - 1 = (m : Int) := by omega
  have HOS : Hid (X.ownsRow B 3 1 (.slice (some ⟨gs, 0, none⟩) (m + 1) ks) (m + 1) ((ss ++ [x]).map (Value.int .i64))) := by have q := HB.out.of.s; unfold Own at q; rw [HLS.out] at q; exact q
  have sB : B ≤ X.heap.size := by have := sX.out; omega
  go_upto_region 13 with fail
  go_region_law (refine step_append_at _ rfl (.tmp 81) (.tmp 88) 29 rfl B 3 i0 (.int .i64 0) 1 8 Try.underlying29 hi hz0 hz1 hz2 rfl (by decide) (.slice (some ⟨gs, 0, none⟩) (m + 1) ks) (m + 1) ((ss ++ [x]).map (Value.int .i64)) (by simp [Act.eval]) (World.ownsRow.alloc (World.ownsRow.drew HOS.out) _) ⟨X.heap.size, 0, none⟩ 1 1 [.int .i64 x] (by simp [Act.eval]) rfl (new_one X.drew x _) (one_of x) (by unfold maxLen; omega) (by omega) (by simp; omega) ?_; intro v2 w2 hown hgrow hnil hat; clear hnil; have O2 : Hid (OF w2 B (.slice al lls kl) v2 (.slice at_ lts kt) ⟨ls, (ss ++ [x]) ++ [x], ts⟩) := HB.out.drew.of.push (by have q := hown; rw [← HLS.out] at q; exact q) hgrow (by simpa using hat); have F2 : Hid (w2.rowIs (W.heap.size + 1) 39 3 (rowF [.slice al lls kl, .slice (some ⟨gs, 0, none⟩) (m + 1) ks, .slice at_ lts kt])) := row_grown HB.out.drew.of.s hgrow (by decide) HB.out.drew.fr; have Z2 : Hid (w2.rowIs (W.heap.size + 2) 39 3 (rowF [.slice none 0 0, .slice none 0 0, .slice none 0 0])) := row_grown HB.out.drew.of.s hgrow (by decide) HB.out.drew.ze; have B2 : Hid (Below B W w2) := (HB.out.drew.bel.mono hB).trans (below_grown HB.out.drew.of.s sB hgrow); have S2 : Hid (StaysAll W w2) := (stays_all HB.out.drew.bel).trans (fun k T q F hT r => row_grown HB.out.drew.of.s hgrow hT r); clear hown hgrow hat HOS; obtain ⟨a2, k2, e2, -⟩ := O2.out.s.mine; dsimp only at e2; obtain ⟨m2, em2⟩ : ∃ q, Hid (((ss ++ [x]) ++ [x]).length = q) := ⟨_, rfl⟩; rw [em2.out] at e2; subst e2; clear f0 f1 f2 z0 z1 z2 fz0 fz1 fz2 ff0 ff1 ff2 lf lz s0 s1 hc hi hz0 hz1 hz2 mI hcJ m0 hwr HB; have KF := F2.out;   have KZ := Z2.out;   have f0 : w2.cell? ⟨W.heap.size + 1, 0, none⟩ = some (.slice al lls kl) := KF.cell (i := 0) (by decide);   have z0 : w2.cell? ⟨W.heap.size + 2, 0, none⟩ = some (.slice none 0 0) := KZ.cell (i := 0) (by decide);   have fz0 : w2.frozen? ⟨W.heap.size + 2, 0, none⟩ = false := KZ.frozen 0;   have ff0 : w2.frozen? ⟨W.heap.size + 1, 0, none⟩ = false := KF.frozen 0;   have f1 : w2.cell? ⟨W.heap.size + 1, 1, none⟩ = some (.slice (some ⟨gs, 0, none⟩) (m + 1) ks) := KF.cell (i := 1) (by decide);   have z1 : w2.cell? ⟨W.heap.size + 2, 1, none⟩ = some (.slice none 0 0) := KZ.cell (i := 1) (by decide);   have fz1 : w2.frozen? ⟨W.heap.size + 2, 1, none⟩ = false := KZ.frozen 1;   have ff1 : w2.frozen? ⟨W.heap.size + 1, 1, none⟩ = false := KF.frozen 1;   have f2 : w2.cell? ⟨W.heap.size + 1, 2, none⟩ = some (.slice at_ lts kt) := KF.cell (i := 2) (by decide);   have z2 : w2.cell? ⟨W.heap.size + 2, 2, none⟩ = some (.slice none 0 0) := KZ.cell (i := 2) (by decide);   have fz2 : w2.frozen? ⟨W.heap.size + 2, 2, none⟩ = false := KZ.frozen 2;   have ff2 : w2.frozen? ⟨W.heap.size + 1, 2, none⟩ = false := KF.frozen 2;   have lf : W.heap.size + 1 < w2.heap.size := KF.lt;   have lz : W.heap.size + 2 < w2.heap.size := KZ.lt;   clear KF KZ)
  all_goals go_wp2
  all_goals (refine bodyPost_ret (v := .agg #[.slice al lls kl, .slice a2 m2 k2, .slice at_ lts kt]) (by simp only [results, Try.results41]; go_simp) rfl (sdo_fin (O2.out.box F2.out (by decide)) (B2.out.setCell (by simp; omega) _) (fun k T q F hT r => (S2.out k T q F hT r).setOther (by have := r.lt; simp; omega) _) (Z2.out.setOther (by simp) _) hB))
set_option maxHeartbeats 8000000 in
theorem sdo_out (B : Nat) (vl vs vt : Value) (ls ss ts : List Int) (x : Int) (ht : ts.length ≤ 1000) (W : World) (hB : B ≤ W.heap.size) (hl : ss.length ≤ 900) (h : Hid (OF W B vl vs vt ⟨ls, ss ++ [x], ts⟩)) :
    Calls Try.prog 41 #[.agg #[.int .i64 10, .int .i64 0], .agg #[vl, vs, vt]] W (SDoAns B ⟨ls, ss, ts ++ [x]⟩ W) := by
  obtain ⟨i0, hi, hz0, hz1, hz2⟩ := parts_of (P := Try.prog) (e := 3) (z := .int .i64 0) (a := 1) (b := 8) (by kernel_rfl)
  obtain ⟨al, kl, el, -⟩ := h.out.l.mine
  obtain ⟨as_, ks, es, -⟩ := h.out.s.mine
  obtain ⟨at_, kt, et, -⟩ := h.out.t.mine
  subst el es et
  dsimp only at h ⊢
  obtain ⟨lls, HLL⟩ : ∃ q, Hid (ls.length = q) := ⟨_, rfl⟩
  obtain ⟨lss, HLS⟩ : ∃ q, Hid ((ss ++ [x]).length = q) := ⟨_, rfl⟩
  obtain ⟨lts, HLT⟩ : ∃ q, Hid (ts.length = q) := ⟨_, rfl⟩
  rw [HLL.out, HLS.out, HLT.out] at h ⊢
  obtain ⟨gs, cs_, e1, hgB, hgl, hcl, hcm⟩ := own_form13 h.out.s (by simp)
  dsimp only at e1 hcl
  rw [HLS.out] at e1 hcl
  simp only [Value.slice.injEq, true_and] at e1
  obtain ⟨rfl, rfl⟩ := e1
  obtain ⟨m, hm⟩ : ∃ q, Hid (ss.length = q) := ⟨_, rfl⟩
  obtain rfl : lss = m + 1 := by have q := HLS.out; rw [← q, ← hm.out]; simp
  have hm9 : m ≤ 900 := by rw [← hm.out]; exact hl
  unfold maxLen at hcm
  have CL : Hid (W.cell? ⟨gs, m, none⟩ = some (.int .i64 x)) := by
    have q := own_cell13 (w := W) (B := B) (g := gs) (cap := ks) (zs := ss ++ [x]) (by rw [HLS.out]; exact h.out.s) (k := m) (by rw [HLS.out]; omega)
    rw [show (ss ++ [x]).getD m 0 = x by simp [List.getD, ← hm.out]] at q; exact q
  rw [HLT.out] at ht
  obtain ⟨X, hX⟩ : ∃ X, Hid (((W.alloc (.cells #[.int .i64 10, .int .i64 0] 49)).alloc (.cells #[(.slice al lls kl), (.slice (some ⟨gs, 0, none⟩) (m + 1) ks), (.slice at_ lts kt)] 39)).alloc (.cells #[.slice none 0 0, .slice none 0 0, .slice none 0 0] 39) = X) := ⟨_, rfl⟩
  have HB : Hid (Begun W X B 10 0 (.slice al lls kl) (.slice (some ⟨gs, 0, none⟩) (m + 1) ks) (.slice at_ lts kt) ⟨ls, ss ++ [x], ts⟩) := by show Begun _ _ _ _ _ _ _ _ _; rw [← hX.out]; exact begun W B 10 0 _ _ _ _ h.out
  have sX : Hid (X.heap.size = W.heap.size + 3) := HB.out.size
  have s0 : X.cell? ⟨W.heap.size, 0, none⟩ = some (.int .i64 10) := HB.out.st.cell (i := 0) (by decide)
  have s1 : X.cell? ⟨W.heap.size, 1, none⟩ = some (.int .i64 0) := HB.out.st.cell (i := 1) (by decide)
  have lX : W.heap.size < X.heap.size := HB.out.st.lt
  have BWX : Hid (Below W.heap.size W X) := HB.out.bel
  clear h
  go_enter Try.func41, Try.ntmps41
  go_upto_region 1 with fail
  rw [hX.out]
  clear hX
  try rw [show W.heap.size + 1 + 1 = W.heap.size + 2 from rfl]
  have hc : X.cell? ⟨gs, m, none⟩ = some (.int .i64 x) := (BWX.out.cell (p := ⟨gs, m, none⟩) hgl).trans CL.out
  have KF := HB.out.fr
  have KZ := HB.out.ze
  have f0 : X.cell? ⟨W.heap.size + 1, 0, none⟩ = some (.slice al lls kl) := KF.cell (i := 0) (by decide)
  have z0 : X.cell? ⟨W.heap.size + 2, 0, none⟩ = some (.slice none 0 0) := KZ.cell (i := 0) (by decide)
  have fz0 : X.frozen? ⟨W.heap.size + 2, 0, none⟩ = false := KZ.frozen 0
  have ff0 : X.frozen? ⟨W.heap.size + 1, 0, none⟩ = false := KF.frozen 0
  have f1 : X.cell? ⟨W.heap.size + 1, 1, none⟩ = some (.slice (some ⟨gs, 0, none⟩) (m + 1) ks) := KF.cell (i := 1) (by decide)
  have z1 : X.cell? ⟨W.heap.size + 2, 1, none⟩ = some (.slice none 0 0) := KZ.cell (i := 1) (by decide)
  have fz1 : X.frozen? ⟨W.heap.size + 2, 1, none⟩ = false := KZ.frozen 1
  have ff1 : X.frozen? ⟨W.heap.size + 1, 1, none⟩ = false := KF.frozen 1
  have f2 : X.cell? ⟨W.heap.size + 1, 2, none⟩ = some (.slice at_ lts kt) := KF.cell (i := 2) (by decide)
  have z2 : X.cell? ⟨W.heap.size + 2, 2, none⟩ = some (.slice none 0 0) := KZ.cell (i := 2) (by decide)
  have fz2 : X.frozen? ⟨W.heap.size + 2, 2, none⟩ = false := KZ.frozen 2
  have ff2 : X.frozen? ⟨W.heap.size + 1, 2, none⟩ = false := KF.frozen 2
  have lf : W.heap.size + 1 < X.heap.size := KF.lt
  have lz : W.heap.size + 2 < X.heap.size := KZ.lt
  clear KF KZ
  have mI : (m : Int) < (m : Int) + 1 := by omega
  have m0 : (0 : Int) ≤ (m : Int) := by omega
  have hwr : IntKind.i64.wrap (m : Int) = (m : Int) := Go.IntWalk.i64_in _ (by omega)
  have hcJ : (m : Int) + 1 - 1 = (m : Int) := by omega
  have HOS : Hid (X.ownsRow B 3 1 (.slice at_ lts kt) lts (ts.map (Value.int .i64))) := by have q := HB.out.of.t; unfold Own at q; rw [HLT.out] at q; exact q
  have sB : B ≤ X.heap.size := by have := sX.out; omega
  go_upto_region 17 with fail
  go_cut [111] (fun _v wx => MidF W wx B ⟨ls, ss ++ [x], ts ++ [x]⟩)
  case first =>
    go_region_law (refine step_append_at _ rfl (.tmp 102) (.tmp 109) 29 rfl B 3 i0 (.int .i64 0) 1 8 Try.underlying29 hi hz0 hz1 hz2 rfl (by decide) (.slice at_ lts kt) lts (ts.map (Value.int .i64)) (by simp [Act.eval]) (World.ownsRow.alloc (World.ownsRow.drew HOS.out) _) ⟨X.heap.size, 0, none⟩ 1 1 [.int .i64 x] (by simp [Act.eval]) rfl (new_one X.drew x _) (one_of x) (by unfold maxLen; omega) (by omega) (by simp; omega) ?_; intro v2 w2 hown hgrow hnil hat; clear hnil; have O2 : Hid (OF w2 B (.slice al lls kl) (.slice (some ⟨gs, 0, none⟩) (m + 1) ks) v2 ⟨ls, ss ++ [x], ts ++ [x]⟩) := HB.out.drew.of.tell (by have q := hown; rw [← HLT.out] at q; exact q) hgrow (by simpa using hat); have F2 : Hid (w2.rowIs (W.heap.size + 1) 39 3 (rowF [.slice al lls kl, .slice (some ⟨gs, 0, none⟩) (m + 1) ks, .slice at_ lts kt])) := row_grown HB.out.drew.of.t hgrow (by decide) HB.out.drew.fr; have Z2 : Hid (w2.rowIs (W.heap.size + 2) 39 3 (rowF [.slice none 0 0, .slice none 0 0, .slice none 0 0])) := row_grown HB.out.drew.of.t hgrow (by decide) HB.out.drew.ze; have B2 : Hid (Below B W w2) := (HB.out.drew.bel.mono hB).trans (below_grown HB.out.drew.of.t sB hgrow); have S2 : Hid (StaysAll W w2) := (stays_all HB.out.drew.bel).trans (fun k T q F hT r => row_grown HB.out.drew.of.t hgrow hT r); clear hown hgrow hat HOS; obtain ⟨a2, k2, e2, -⟩ := O2.out.t.mine; dsimp only at e2; obtain ⟨m2, em2⟩ : ∃ q, Hid ((ts ++ [x]).length = q) := ⟨_, rfl⟩; rw [em2.out] at e2; subst e2; have HM : Hid (MidF W (w2.setCell ⟨W.heap.size + 1, 2, none⟩ (.slice a2 m2 k2)) B ⟨ls, ss ++ [x], ts ++ [x]⟩) := mid_set2 O2.out F2.out Z2.out B2.out S2.out hB; clear f0 f1 f2 z0 z1 z2 fz0 fz1 fz2 ff0 ff1 ff2 lf lz s0 s1 hc hi hz0 hz1 hz2 mI m0 hwr hcJ; have KF := F2.out;   have KZ := Z2.out;   have f0 : w2.cell? ⟨W.heap.size + 1, 0, none⟩ = some (.slice al lls kl) := KF.cell (i := 0) (by decide);   have z0 : w2.cell? ⟨W.heap.size + 2, 0, none⟩ = some (.slice none 0 0) := KZ.cell (i := 0) (by decide);   have fz0 : w2.frozen? ⟨W.heap.size + 2, 0, none⟩ = false := KZ.frozen 0;   have ff0 : w2.frozen? ⟨W.heap.size + 1, 0, none⟩ = false := KF.frozen 0;   have f1 : w2.cell? ⟨W.heap.size + 1, 1, none⟩ = some (.slice (some ⟨gs, 0, none⟩) (m + 1) ks) := KF.cell (i := 1) (by decide);   have z1 : w2.cell? ⟨W.heap.size + 2, 1, none⟩ = some (.slice none 0 0) := KZ.cell (i := 1) (by decide);   have fz1 : w2.frozen? ⟨W.heap.size + 2, 1, none⟩ = false := KZ.frozen 1;   have ff1 : w2.frozen? ⟨W.heap.size + 1, 1, none⟩ = false := KF.frozen 1;   have f2 : w2.cell? ⟨W.heap.size + 1, 2, none⟩ = some (.slice at_ lts kt) := KF.cell (i := 2) (by decide);   have z2 : w2.cell? ⟨W.heap.size + 2, 2, none⟩ = some (.slice none 0 0) := KZ.cell (i := 2) (by decide);   have fz2 : w2.frozen? ⟨W.heap.size + 2, 2, none⟩ = false := KZ.frozen 2;   have ff2 : w2.frozen? ⟨W.heap.size + 1, 2, none⟩ = false := KF.frozen 2;   have lf : W.heap.size + 1 < w2.heap.size := KF.lt;   have lz : W.heap.size + 2 < w2.heap.size := KZ.lt;   clear KF KZ)
    all_goals (go_wp2_with fail; go_meet; exact HM.out)
  clear HB f0 f1 f2 z0 z1 z2 fz0 fz1 fz2 ff0 ff1 ff2 lf lz s0 s1 hc hi hz0 hz1 hz2 mI m0 hwr hcJ HOS
  obtain ⟨al2, ll2, kl2, as2, ms2, ks2, at2, lt2, kt2, O2, F2, Z2, B2, S2⟩ := hcut
  have O2 : Hid (OF wc B (.slice al2 ll2 kl2) (.slice as2 ms2 ks2) (.slice at2 lt2 kt2) ⟨ls, ss ++ [x], ts ++ [x]⟩) := O2
  have Z2 : Hid (wc.rowIs (W.heap.size + 2) 39 3 (rowF [.slice none 0 0, .slice none 0 0, .slice none 0 0])) := Z2
  have F2 : Hid (wc.rowIs (W.heap.size + 1) 39 3 (rowF [.slice al2 ll2 kl2, .slice as2 ms2 ks2, .slice at2 lt2 kt2])) := F2
  have B2 : Hid (Below B W wc) := B2
  have S2 : Hid (StaysAll W wc) := S2
  obtain ⟨g2, c2, e2, hgB2, hgl2, hcl2, hcm2⟩ := own_form13 O2.out.s (by simp)
  dsimp only at e2 hcl2
  rw [HLS.out] at e2 hcl2
  simp only [Value.slice.injEq] at e2
  obtain ⟨rfl, rfl, rfl⟩ := e2
  unfold maxLen at hcm2
  have KF := F2.out
  have KZ := Z2.out
  have f0 : wc.cell? ⟨W.heap.size + 1, 0, none⟩ = some (.slice al2 ll2 kl2) := KF.cell (i := 0) (by decide)
  have z0 : wc.cell? ⟨W.heap.size + 2, 0, none⟩ = some (.slice none 0 0) := KZ.cell (i := 0) (by decide)
  have fz0 : wc.frozen? ⟨W.heap.size + 2, 0, none⟩ = false := KZ.frozen 0
  have ff0 : wc.frozen? ⟨W.heap.size + 1, 0, none⟩ = false := KF.frozen 0
  have f1 : wc.cell? ⟨W.heap.size + 1, 1, none⟩ = some (.slice (some ⟨g2, 0, none⟩) (m + 1) ks2) := KF.cell (i := 1) (by decide)
  have z1 : wc.cell? ⟨W.heap.size + 2, 1, none⟩ = some (.slice none 0 0) := KZ.cell (i := 1) (by decide)
  have fz1 : wc.frozen? ⟨W.heap.size + 2, 1, none⟩ = false := KZ.frozen 1
  have ff1 : wc.frozen? ⟨W.heap.size + 1, 1, none⟩ = false := KF.frozen 1
  have f2 : wc.cell? ⟨W.heap.size + 1, 2, none⟩ = some (.slice at2 lt2 kt2) := KF.cell (i := 2) (by decide)
  have z2 : wc.cell? ⟨W.heap.size + 2, 2, none⟩ = some (.slice none 0 0) := KZ.cell (i := 2) (by decide)
  have fz2 : wc.frozen? ⟨W.heap.size + 2, 2, none⟩ = false := KZ.frozen 2
  have ff2 : wc.frozen? ⟨W.heap.size + 1, 2, none⟩ = false := KF.frozen 2
  have lf : W.heap.size + 1 < wc.heap.size := KF.lt
  have lz : W.heap.size + 2 < wc.heap.size := KZ.lt
  clear KF KZ
  have hcI : (m : Int) ≤ (ks2 : Int) := by omega
  have hcJ : (m : Int) + 1 - 1 = (m : Int) := by omega
  go_wp2
  refine bodyPost_ret (v := .agg #[.slice al2 ll2 kl2, .slice (some ⟨g2, 0, none⟩) m ks2, .slice at2 lt2 kt2]) (by simp only [results, Try.results41]; go_simp) rfl (sdo_fin ((O2.out.pop hm.out).box F2.out (by decide)) (B2.out.setCell (by simp; omega) _) (fun k T q F hT r => (S2.out k T q F hT r).setOther (by have := r.lt; simp; omega) _) (Z2.out.setOther (by simp) _) hB)
set_option maxHeartbeats 8000000 in
theorem sdo_store (B : Nat) (vl vs vt : Value) (ls ss ts : List Int) (k : Nat) (x : Int) (hk : k < 3) (HL3 : Hid (ls.length = 3)) (W : World) (hB : B ≤ W.heap.size) (hl : ss.length ≤ 900) (h : Hid (OF W B vl vs vt ⟨ls, ss ++ [x], ts⟩)) :
    Calls Try.prog 41 #[.agg #[.int .i64 3, .int .i64 (k : Int)], .agg #[vl, vs, vt]] W (SDoAns B ⟨ls.set k x, ss, ts⟩ W) := by
  obtain ⟨i0, hi, hz0, hz1, hz2⟩ := parts_of (P := Try.prog) (e := 3) (z := .int .i64 0) (a := 1) (b := 8) (by kernel_rfl)
  obtain ⟨al, kl, el, -⟩ := h.out.l.mine
  obtain ⟨as_, ks, es, -⟩ := h.out.s.mine
  obtain ⟨at_, kt, et, -⟩ := h.out.t.mine
  subst el es et
  dsimp only at h ⊢
  obtain ⟨lls, HLL⟩ : ∃ q, Hid (ls.length = q) := ⟨_, rfl⟩
  obtain ⟨lss, HLS⟩ : ∃ q, Hid ((ss ++ [x]).length = q) := ⟨_, rfl⟩
  obtain ⟨lts, HLT⟩ : ∃ q, Hid (ts.length = q) := ⟨_, rfl⟩
  rw [HLL.out, HLS.out, HLT.out] at h ⊢
  obtain rfl : lls = 3 := by have q := HLL.out; rw [HL3.out] at q; exact q.symm
  obtain ⟨gl, cl, e1, hgB', hgl', hcl, hcm⟩ := own_form13 h.out.l (by show 0 < ls.length; rw [HL3.out]; decide)
  dsimp only at e1 hcl
  rw [HL3.out] at e1 hcl
  simp only [Value.slice.injEq, true_and] at e1
  obtain ⟨rfl, rfl⟩ := e1
  have kI : (k : Int) < 3 := by omega
  have k0 : (0 : Int) ≤ (k : Int) := by omega
  clear hcl hcm
  obtain ⟨gs, cs_, e1, hgB, hgl, hcl, hcm⟩ := own_form13 h.out.s (by simp)
  dsimp only at e1 hcl
  rw [HLS.out] at e1 hcl
  simp only [Value.slice.injEq, true_and] at e1
  obtain ⟨rfl, rfl⟩ := e1
  obtain ⟨m, hm⟩ : ∃ q, Hid (ss.length = q) := ⟨_, rfl⟩
  obtain rfl : lss = m + 1 := by have q := HLS.out; rw [← q, ← hm.out]; simp
  have hm9 : m ≤ 900 := by rw [← hm.out]; exact hl
  unfold maxLen at hcm
  have CL : Hid (W.cell? ⟨gs, m, none⟩ = some (.int .i64 x)) := by
    have q := own_cell13 (w := W) (B := B) (g := gs) (cap := ks) (zs := ss ++ [x]) (by rw [HLS.out]; exact h.out.s) (k := m) (by rw [HLS.out]; omega)
    rw [show (ss ++ [x]).getD m 0 = x by simp [List.getD, ← hm.out]] at q; exact q
  obtain ⟨X, hX⟩ : ∃ X, Hid (((W.alloc (.cells #[.int .i64 3, .int .i64 (k : Int)] 49)).alloc (.cells #[(.slice (some ⟨gl, 0, none⟩) 3 kl), (.slice (some ⟨gs, 0, none⟩) (m + 1) ks), (.slice at_ lts kt)] 39)).alloc (.cells #[.slice none 0 0, .slice none 0 0, .slice none 0 0] 39) = X) := ⟨_, rfl⟩
  have HB : Hid (Begun W X B 3 (k : Int) (.slice (some ⟨gl, 0, none⟩) 3 kl) (.slice (some ⟨gs, 0, none⟩) (m + 1) ks) (.slice at_ lts kt) ⟨ls, ss ++ [x], ts⟩) := by show Begun _ _ _ _ _ _ _ _ _; rw [← hX.out]; exact begun W B 3 (k : Int) _ _ _ _ h.out
  have sX : Hid (X.heap.size = W.heap.size + 3) := HB.out.size
  have s0 : X.cell? ⟨W.heap.size, 0, none⟩ = some (.int .i64 3) := HB.out.st.cell (i := 0) (by decide)
  have s1 : X.cell? ⟨W.heap.size, 1, none⟩ = some (.int .i64 (k : Int)) := HB.out.st.cell (i := 1) (by decide)
  have lX : W.heap.size < X.heap.size := HB.out.st.lt
  have BWX : Hid (Below W.heap.size W X) := HB.out.bel
  clear h
  go_enter Try.func41, Try.ntmps41
  go_upto_region 1 with fail
  rw [hX.out]
  clear hX
  try rw [show W.heap.size + 1 + 1 = W.heap.size + 2 from rfl]
  have hc : X.cell? ⟨gs, m, none⟩ = some (.int .i64 x) := (BWX.out.cell (p := ⟨gs, m, none⟩) hgl).trans CL.out
  have KF := HB.out.fr
  have KZ := HB.out.ze
  have f0 : X.cell? ⟨W.heap.size + 1, 0, none⟩ = some (.slice (some ⟨gl, 0, none⟩) 3 kl) := KF.cell (i := 0) (by decide)
  have z0 : X.cell? ⟨W.heap.size + 2, 0, none⟩ = some (.slice none 0 0) := KZ.cell (i := 0) (by decide)
  have fz0 : X.frozen? ⟨W.heap.size + 2, 0, none⟩ = false := KZ.frozen 0
  have ff0 : X.frozen? ⟨W.heap.size + 1, 0, none⟩ = false := KF.frozen 0
  have f1 : X.cell? ⟨W.heap.size + 1, 1, none⟩ = some (.slice (some ⟨gs, 0, none⟩) (m + 1) ks) := KF.cell (i := 1) (by decide)
  have z1 : X.cell? ⟨W.heap.size + 2, 1, none⟩ = some (.slice none 0 0) := KZ.cell (i := 1) (by decide)
  have fz1 : X.frozen? ⟨W.heap.size + 2, 1, none⟩ = false := KZ.frozen 1
  have ff1 : X.frozen? ⟨W.heap.size + 1, 1, none⟩ = false := KF.frozen 1
  have f2 : X.cell? ⟨W.heap.size + 1, 2, none⟩ = some (.slice at_ lts kt) := KF.cell (i := 2) (by decide)
  have z2 : X.cell? ⟨W.heap.size + 2, 2, none⟩ = some (.slice none 0 0) := KZ.cell (i := 2) (by decide)
  have fz2 : X.frozen? ⟨W.heap.size + 2, 2, none⟩ = false := KZ.frozen 2
  have ff2 : X.frozen? ⟨W.heap.size + 1, 2, none⟩ = false := KF.frozen 2
  have lf : W.heap.size + 1 < X.heap.size := KF.lt
  have lz : W.heap.size + 2 < X.heap.size := KZ.lt
  clear KF KZ
  have mI : (m : Int) < (m : Int) + 1 := by omega
  have m0 : (0 : Int) ≤ (m : Int) := by omega
  have hwr : IntKind.i64.wrap (m : Int) = (m : Int) := Go.IntWalk.i64_in _ (by omega)
  have hcJ : (m : Int) + 1 - 1 = (m : Int) := by omega
  have HST := HB.out.drew.of.store HL3.out hk x
  have qg : X.cell? ⟨gl, k, none⟩ = some (.int .i64 (ls.getD k 0)) := HST.2.2.2.1
  have qf : X.frozen? ⟨gl, k, none⟩ = false := HST.2.2.2.2
  have lgl : gl < X.heap.size := by have := sX.out; omega
  have ngl : gl ≠ W.heap.size := by omega
  have HM : Hid (MidF W (X.drew.setCell ⟨gl, k, none⟩ (.int .i64 x)) B ⟨ls.set k x, ss ++ [x], ts⟩) := ⟨_, _, _, _, _, _, _, _, _, HST.1, HST.2.2.1 _ _ _ _ (by decide) HB.out.drew.fr, HST.2.2.1 _ _ _ _ (by decide) HB.out.drew.ze, (HB.out.drew.bel.mono hB).trans HST.2.1, (stays_all HB.out.drew.bel).trans HST.2.2.1⟩
  clear HST
  go_upto_region 10 with fail
  go_cut [71] (fun _v wx => MidF W wx B ⟨ls.set k x, ss ++ [x], ts⟩)
  case first =>
    go_region_law (fail)
    all_goals (go_wp2_with fail; go_meet; exact HM.out)
  clear HB HM qg qf f0 f1 f2 z0 z1 z2 fz0 fz1 fz2 ff0 ff1 ff2 lf lz s0 s1 hc mI m0 hwr hcJ hi hz0 hz1 hz2
  obtain ⟨al2, ll2, kl2, as2, ms2, ks2, at2, lt2, kt2, O2, F2, Z2, B2, S2⟩ := hcut
  have O2 : Hid (OF wc B (.slice al2 ll2 kl2) (.slice as2 ms2 ks2) (.slice at2 lt2 kt2) ⟨ls.set k x, ss ++ [x], ts⟩) := O2
  have Z2 : Hid (wc.rowIs (W.heap.size + 2) 39 3 (rowF [.slice none 0 0, .slice none 0 0, .slice none 0 0])) := Z2
  have F2 : Hid (wc.rowIs (W.heap.size + 1) 39 3 (rowF [.slice al2 ll2 kl2, .slice as2 ms2 ks2, .slice at2 lt2 kt2])) := F2
  have B2 : Hid (Below B W wc) := B2
  have S2 : Hid (StaysAll W wc) := S2
  obtain ⟨g2, c2, e2, hgB2, hgl2, hcl2, hcm2⟩ := own_form13 O2.out.s (by simp)
  dsimp only at e2 hcl2
  rw [HLS.out] at e2 hcl2
  simp only [Value.slice.injEq] at e2
  obtain ⟨rfl, rfl, rfl⟩ := e2
  unfold maxLen at hcm2
  have KF := F2.out
  have KZ := Z2.out
  have f0 : wc.cell? ⟨W.heap.size + 1, 0, none⟩ = some (.slice al2 ll2 kl2) := KF.cell (i := 0) (by decide)
  have z0 : wc.cell? ⟨W.heap.size + 2, 0, none⟩ = some (.slice none 0 0) := KZ.cell (i := 0) (by decide)
  have fz0 : wc.frozen? ⟨W.heap.size + 2, 0, none⟩ = false := KZ.frozen 0
  have ff0 : wc.frozen? ⟨W.heap.size + 1, 0, none⟩ = false := KF.frozen 0
  have f1 : wc.cell? ⟨W.heap.size + 1, 1, none⟩ = some (.slice (some ⟨g2, 0, none⟩) (m + 1) ks2) := KF.cell (i := 1) (by decide)
  have z1 : wc.cell? ⟨W.heap.size + 2, 1, none⟩ = some (.slice none 0 0) := KZ.cell (i := 1) (by decide)
  have fz1 : wc.frozen? ⟨W.heap.size + 2, 1, none⟩ = false := KZ.frozen 1
  have ff1 : wc.frozen? ⟨W.heap.size + 1, 1, none⟩ = false := KF.frozen 1
  have f2 : wc.cell? ⟨W.heap.size + 1, 2, none⟩ = some (.slice at2 lt2 kt2) := KF.cell (i := 2) (by decide)
  have z2 : wc.cell? ⟨W.heap.size + 2, 2, none⟩ = some (.slice none 0 0) := KZ.cell (i := 2) (by decide)
  have fz2 : wc.frozen? ⟨W.heap.size + 2, 2, none⟩ = false := KZ.frozen 2
  have ff2 : wc.frozen? ⟨W.heap.size + 1, 2, none⟩ = false := KF.frozen 2
  have lf : W.heap.size + 1 < wc.heap.size := KF.lt
  have lz : W.heap.size + 2 < wc.heap.size := KZ.lt
  clear KF KZ
  have hcI : (m : Int) ≤ (ks2 : Int) := by omega
  have hcJ : (m : Int) + 1 - 1 = (m : Int) := by omega
  go_wp2
  refine bodyPost_ret (v := .agg #[.slice al2 ll2 kl2, .slice (some ⟨g2, 0, none⟩) m ks2, .slice at2 lt2 kt2]) (by simp only [results, Try.results41]; go_simp) rfl (sdo_fin ((O2.out.pop hm.out).box F2.out (by decide)) (B2.out.setCell (by simp; omega) _) (fun k T q F hT r => (S2.out k T q F hT r).setOther (by have := r.lt; simp; omega) _) (Z2.out.setOther (by simp) _) hB)
set_option maxHeartbeats 8000000 in
theorem sdo_pair4 (B : Nat) (vl vs vt : Value) (ls ss ts : List Int) (x y : Int) (x0 : 0 ≤ x) (x1 : x ≤ 65535) (y0 : 0 ≤ y) (y1 : y ≤ 65535) (W : World) (hB : B ≤ W.heap.size) (hl : ss.length ≤ 900) (h : Hid (OF W B vl vs vt ⟨ls, ss ++ [x] ++ [y], ts⟩)) :
    Calls Try.prog 41 #[.agg #[.int .i64 4, .int .i64 0], .agg #[vl, vs, vt]] W (SDoAns B ⟨ls, ss ++ [doV 3 x y], ts⟩ W) := by
  obtain ⟨i0, hi, hz0, hz1, hz2⟩ := parts_of (P := Try.prog) (e := 3) (z := .int .i64 0) (a := 1) (b := 8) (by kernel_rfl)
  obtain ⟨al, kl, el, -⟩ := h.out.l.mine
  obtain ⟨as_, ks, es, -⟩ := h.out.s.mine
  obtain ⟨at_, kt, et, -⟩ := h.out.t.mine
  subst el es et
  dsimp only at h ⊢
  obtain ⟨lls, HLL⟩ : ∃ q, Hid (ls.length = q) := ⟨_, rfl⟩
  obtain ⟨lss, HLS⟩ : ∃ q, Hid ((ss ++ [x] ++ [y]).length = q) := ⟨_, rfl⟩
  obtain ⟨lts, HLT⟩ : ∃ q, Hid (ts.length = q) := ⟨_, rfl⟩
  rw [HLL.out, HLS.out, HLT.out] at h ⊢
  obtain ⟨gs, cs_, e1, hgB, hgl, hcl, hcm⟩ := own_form13 h.out.s (by simp)
  dsimp only at e1 hcl
  rw [HLS.out] at e1 hcl
  simp only [Value.slice.injEq, true_and] at e1
  obtain ⟨rfl, rfl⟩ := e1
  obtain ⟨m, hm⟩ : ∃ q, Hid (ss.length = q) := ⟨_, rfl⟩
  obtain rfl : lss = m + 2 := by have q := HLS.out; rw [← q, ← hm.out]; simp
  have hm9 : m ≤ 900 := by rw [← hm.out]; exact hl
  unfold maxLen at hcm
  have CL : Hid (W.cell? ⟨gs, m, none⟩ = some (.int .i64 x) ∧ W.cell? ⟨gs, m + 1, none⟩ = some (.int .i64 y)) := by
    have q := fun k hk => own_cell13 (w := W) (B := B) (g := gs) (cap := ks) (zs := ss ++ [x] ++ [y]) (by rw [HLS.out]; exact h.out.s) (k := k) hk
    refine ⟨?_, ?_⟩
    · have r := q m (by rw [HLS.out]; omega)
      rw [show (ss ++ [x] ++ [y]).getD m 0 = x by simp [List.getD, ← hm.out]] at r; exact r
    · have r := q (m + 1) (by rw [HLS.out]; omega)
      rw [show (ss ++ [x] ++ [y]).getD (m + 1) 0 = y by simp [List.getD, ← hm.out]] at r; exact r
  obtain ⟨z, HZV⟩ : ∃ z, Hid (doV 3 x y = z) := ⟨_, rfl⟩
  rw [HZV.out]
  obtain ⟨X, hX⟩ : ∃ X, Hid (((W.alloc (.cells #[.int .i64 4, .int .i64 0] 49)).alloc (.cells #[(.slice al lls kl), (.slice (some ⟨gs, 0, none⟩) (m + 2) ks), (.slice at_ lts kt)] 39)).alloc (.cells #[.slice none 0 0, .slice none 0 0, .slice none 0 0] 39) = X) := ⟨_, rfl⟩
  have HB : Hid (Begun W X B 4 0 (.slice al lls kl) (.slice (some ⟨gs, 0, none⟩) (m + 2) ks) (.slice at_ lts kt) ⟨ls, ss ++ [x] ++ [y], ts⟩) := by show Begun _ _ _ _ _ _ _ _ _; rw [← hX.out]; exact begun W B 4 0 _ _ _ _ h.out
  have sX : Hid (X.heap.size = W.heap.size + 3) := HB.out.size
  have s0 : X.cell? ⟨W.heap.size, 0, none⟩ = some (.int .i64 4) := HB.out.st.cell (i := 0) (by decide)
  have s1 : X.cell? ⟨W.heap.size, 1, none⟩ = some (.int .i64 0) := HB.out.st.cell (i := 1) (by decide)
  have lX : W.heap.size < X.heap.size := HB.out.st.lt
  have BWX : Hid (Below W.heap.size W X) := HB.out.bel
  clear h
  go_enter Try.func41, Try.ntmps41
  go_upto_region 1 with fail
  rw [hX.out]
  clear hX
  try rw [show W.heap.size + 1 + 1 = W.heap.size + 2 from rfl]
  have hc : X.cell? ⟨gs, m, none⟩ = some (.int .i64 x) := (BWX.out.cell (p := ⟨gs, m, none⟩) hgl).trans CL.out.1
  have hd : X.cell? ⟨gs, m + 1, none⟩ = some (.int .i64 y) := (BWX.out.cell (p := ⟨gs, m + 1, none⟩) hgl).trans CL.out.2
  have KF := HB.out.fr
  have KZ := HB.out.ze
  have f0 : X.cell? ⟨W.heap.size + 1, 0, none⟩ = some (.slice al lls kl) := KF.cell (i := 0) (by decide)
  have z0 : X.cell? ⟨W.heap.size + 2, 0, none⟩ = some (.slice none 0 0) := KZ.cell (i := 0) (by decide)
  have fz0 : X.frozen? ⟨W.heap.size + 2, 0, none⟩ = false := KZ.frozen 0
  have ff0 : X.frozen? ⟨W.heap.size + 1, 0, none⟩ = false := KF.frozen 0
  have f1 : X.cell? ⟨W.heap.size + 1, 1, none⟩ = some (.slice (some ⟨gs, 0, none⟩) (m + 2) ks) := KF.cell (i := 1) (by decide)
  have z1 : X.cell? ⟨W.heap.size + 2, 1, none⟩ = some (.slice none 0 0) := KZ.cell (i := 1) (by decide)
  have fz1 : X.frozen? ⟨W.heap.size + 2, 1, none⟩ = false := KZ.frozen 1
  have ff1 : X.frozen? ⟨W.heap.size + 1, 1, none⟩ = false := KF.frozen 1
  have f2 : X.cell? ⟨W.heap.size + 1, 2, none⟩ = some (.slice at_ lts kt) := KF.cell (i := 2) (by decide)
  have z2 : X.cell? ⟨W.heap.size + 2, 2, none⟩ = some (.slice none 0 0) := KZ.cell (i := 2) (by decide)
  have fz2 : X.frozen? ⟨W.heap.size + 2, 2, none⟩ = false := KZ.frozen 2
  have ff2 : X.frozen? ⟨W.heap.size + 1, 2, none⟩ = false := KF.frozen 2
  have lf : W.heap.size + 1 < X.heap.size := KF.lt
  have lz : W.heap.size + 2 < X.heap.size := KZ.lt
  clear KF KZ
  have mI : (m : Int) < (m : Int) + 2 := by omega
  have mJ : (m : Int) + 1 < (m : Int) + 2 := by omega
  have m0 : (0 : Int) ≤ (m : Int) := by omega
  have hcI : (m : Int) ≤ (ks : Int) := by omega
  have e1 : (m : Int) + 2 - 2 = (m : Int) := by omega
  have e2 : (m : Int) + 2 - 1 = (m : Int) + 1 := by omega
  have CD : Hid (∀ V : World, Calls Try.prog 51 #[.int .i64 3, .int .i64 x, .int .i64 y] V fun e W' => e = .returned (.int .i64 z) ∧ W' = V) := fun V => by have q := spec_do2 3 x y V (by decide) (by decide) x0 x1 y0 y1; rw [HZV.out] at q; exact q
  go_upto_region 3 with fail
  go_quiet (first
    | (go_at_call 52; refine Calls.quiet_of_same (sop_quiet (o := 4) (q := 3) (by decide) (by decide) (by decide) _))
    | (go_at_call 51; refine Calls.quiet_of_same (CD.out _)))
  obtain ⟨Y, eY⟩ : ∃ Y, X.drewN nq = Y := ⟨_, rfl⟩
  have HY : Hid (Begun W Y B 4 0 (.slice al lls kl) (.slice (some ⟨gs, 0, none⟩) (m + 2) ks) (.slice at_ lts kt) ⟨ls, ss ++ [x] ++ [y], ts⟩) := by show Begun _ _ _ _ _ _ _ _ _; rw [← eY]; exact HB.out.drewN nq
  rw [eY]
  clear eY HB f0 f1 f2 z0 z1 z2 fz0 fz1 fz2 ff0 ff1 ff2 lf lz s0 s1 hc hd lX BWX
  have sB : B ≤ Y.heap.size := by have := HY.out.size; omega
  have OP : Hid (OF Y B (.slice al lls kl) (.slice (some ⟨gs, 0, none⟩) m ks) (.slice at_ lts kt) ⟨ls, ss, ts⟩) := (HY.out.of.pop (n := m + 1) (by simp [hm.out])).pop hm.out
  have HOS : Hid (Y.ownsRow B 3 1 (.slice (some ⟨gs, 0, none⟩) m ks) m (ss.map (Value.int .i64))) := by have q := OP.out.s; unfold Own at q; dsimp only at q; rw [hm.out] at q; exact q
  have KF := HY.out.fr
  have KZ := HY.out.ze
  have f0 : Y.cell? ⟨W.heap.size + 1, 0, none⟩ = some (.slice al lls kl) := KF.cell (i := 0) (by decide)
  have z0 : Y.cell? ⟨W.heap.size + 2, 0, none⟩ = some (.slice none 0 0) := KZ.cell (i := 0) (by decide)
  have fz0 : Y.frozen? ⟨W.heap.size + 2, 0, none⟩ = false := KZ.frozen 0
  have ff0 : Y.frozen? ⟨W.heap.size + 1, 0, none⟩ = false := KF.frozen 0
  have f1 : Y.cell? ⟨W.heap.size + 1, 1, none⟩ = some (.slice (some ⟨gs, 0, none⟩) (m + 2) ks) := KF.cell (i := 1) (by decide)
  have z1 : Y.cell? ⟨W.heap.size + 2, 1, none⟩ = some (.slice none 0 0) := KZ.cell (i := 1) (by decide)
  have fz1 : Y.frozen? ⟨W.heap.size + 2, 1, none⟩ = false := KZ.frozen 1
  have ff1 : Y.frozen? ⟨W.heap.size + 1, 1, none⟩ = false := KF.frozen 1
  have f2 : Y.cell? ⟨W.heap.size + 1, 2, none⟩ = some (.slice at_ lts kt) := KF.cell (i := 2) (by decide)
  have z2 : Y.cell? ⟨W.heap.size + 2, 2, none⟩ = some (.slice none 0 0) := KZ.cell (i := 2) (by decide)
  have fz2 : Y.frozen? ⟨W.heap.size + 2, 2, none⟩ = false := KZ.frozen 2
  have ff2 : Y.frozen? ⟨W.heap.size + 1, 2, none⟩ = false := KF.frozen 2
  have lf : W.heap.size + 1 < Y.heap.size := KF.lt
  have lz : W.heap.size + 2 < Y.heap.size := KZ.lt
  clear KF KZ
  go_wp2_with (first
    | (at_builtin; refine wpList_append_own_at _ rfl _ _ 29 rfl B 3 i0 (.int .i64 0) 1 8 Try.underlying29 hi hz0 hz1 hz2 rfl (by decide) (.slice (some ⟨gs, 0, none⟩) m ks) m (ss.map (Value.int .i64)) rfl (World.ownsRow.alloc HOS.out _) ⟨Y.heap.size, 0, none⟩ 1 1 [.int .i64 z] rfl rfl (new_one Y z _) (one_of z) ?c3 ?c4 ?c5 ?_)
    | fail)
  case c3 => unfold maxLen; omega
  case c4 => omega
  case c5 => first | omega | (simp; omega)
  intro v2 w2 hown hgrow hnil hat
  clear hnil
  have O2 : Hid (OF w2 B (.slice al lls kl) v2 (.slice at_ lts kt) ⟨ls, ss ++ [z], ts⟩) := OP.out.push (by have q := hown; rw [← hm.out] at q; exact q) hgrow (by simpa using hat)
  have F2 : Hid (w2.rowIs (W.heap.size + 1) 39 3 (rowF [.slice al lls kl, .slice (some ⟨gs, 0, none⟩) (m + 2) ks, .slice at_ lts kt])) := row_grown OP.out.s hgrow (by decide) HY.out.fr
  have Z2 : Hid (w2.rowIs (W.heap.size + 2) 39 3 (rowF [.slice none 0 0, .slice none 0 0, .slice none 0 0])) := row_grown OP.out.s hgrow (by decide) HY.out.ze
  have B2 : Hid (Below B W w2) := (HY.out.bel.mono hB).trans (below_grown OP.out.s sB hgrow)
  have S2 : Hid (StaysAll W w2) := (stays_all HY.out.bel).trans (fun k T q F hT r => row_grown OP.out.s hgrow hT r)
  clear hown hgrow hat HOS OP HY
  obtain ⟨a2, k2, e2', -⟩ := O2.out.s.mine
  dsimp only at e2'
  obtain ⟨m2, em2⟩ : ∃ q, Hid ((ss ++ [z]).length = q) := ⟨_, rfl⟩
  rw [em2.out] at e2'
  subst e2'
  clear f0 f1 f2 z0 z1 z2 fz0 fz1 fz2 ff0 ff1 ff2 lf lz hi hz0 hz1 hz2
  have KF := F2.out
  have KZ := Z2.out
  have f0 : w2.cell? ⟨W.heap.size + 1, 0, none⟩ = some (.slice al lls kl) := KF.cell (i := 0) (by decide)
  have z0 : w2.cell? ⟨W.heap.size + 2, 0, none⟩ = some (.slice none 0 0) := KZ.cell (i := 0) (by decide)
  have fz0 : w2.frozen? ⟨W.heap.size + 2, 0, none⟩ = false := KZ.frozen 0
  have ff0 : w2.frozen? ⟨W.heap.size + 1, 0, none⟩ = false := KF.frozen 0
  have f1 : w2.cell? ⟨W.heap.size + 1, 1, none⟩ = some (.slice (some ⟨gs, 0, none⟩) (m + 2) ks) := KF.cell (i := 1) (by decide)
  have z1 : w2.cell? ⟨W.heap.size + 2, 1, none⟩ = some (.slice none 0 0) := KZ.cell (i := 1) (by decide)
  have fz1 : w2.frozen? ⟨W.heap.size + 2, 1, none⟩ = false := KZ.frozen 1
  have ff1 : w2.frozen? ⟨W.heap.size + 1, 1, none⟩ = false := KF.frozen 1
  have f2 : w2.cell? ⟨W.heap.size + 1, 2, none⟩ = some (.slice at_ lts kt) := KF.cell (i := 2) (by decide)
  have z2 : w2.cell? ⟨W.heap.size + 2, 2, none⟩ = some (.slice none 0 0) := KZ.cell (i := 2) (by decide)
  have fz2 : w2.frozen? ⟨W.heap.size + 2, 2, none⟩ = false := KZ.frozen 2
  have ff2 : w2.frozen? ⟨W.heap.size + 1, 2, none⟩ = false := KF.frozen 2
  have lf : W.heap.size + 1 < w2.heap.size := KF.lt
  have lz : W.heap.size + 2 < w2.heap.size := KZ.lt
  clear KF KZ
  go_wp2
  refine bodyPost_ret (v := .agg #[.slice al lls kl, .slice a2 m2 k2, .slice at_ lts kt]) (by simp only [results, Try.results41]; go_simp) rfl (sdo_fin (O2.out.box F2.out (by decide)) (B2.out.setCell (by simp; omega) _) (fun k T q F hT r => (S2.out k T q F hT r).setOther (by have := r.lt; simp; omega) _) (Z2.out.setOther (by simp) _) hB)
set_option maxHeartbeats 8000000 in
theorem sdo_pair5 (B : Nat) (vl vs vt : Value) (ls ss ts : List Int) (x y : Int) (x0 : 0 ≤ x) (x1 : x ≤ 65535) (y0 : 0 ≤ y) (y1 : y ≤ 65535) (W : World) (hB : B ≤ W.heap.size) (hl : ss.length ≤ 900) (h : Hid (OF W B vl vs vt ⟨ls, ss ++ [x] ++ [y], ts⟩)) :
    Calls Try.prog 41 #[.agg #[.int .i64 5, .int .i64 0], .agg #[vl, vs, vt]] W (SDoAns B ⟨ls, ss ++ [doV 4 x y], ts⟩ W) := by
  obtain ⟨i0, hi, hz0, hz1, hz2⟩ := parts_of (P := Try.prog) (e := 3) (z := .int .i64 0) (a := 1) (b := 8) (by kernel_rfl)
  obtain ⟨al, kl, el, -⟩ := h.out.l.mine
  obtain ⟨as_, ks, es, -⟩ := h.out.s.mine
  obtain ⟨at_, kt, et, -⟩ := h.out.t.mine
  subst el es et
  dsimp only at h ⊢
  obtain ⟨lls, HLL⟩ : ∃ q, Hid (ls.length = q) := ⟨_, rfl⟩
  obtain ⟨lss, HLS⟩ : ∃ q, Hid ((ss ++ [x] ++ [y]).length = q) := ⟨_, rfl⟩
  obtain ⟨lts, HLT⟩ : ∃ q, Hid (ts.length = q) := ⟨_, rfl⟩
  rw [HLL.out, HLS.out, HLT.out] at h ⊢
  obtain ⟨gs, cs_, e1, hgB, hgl, hcl, hcm⟩ := own_form13 h.out.s (by simp)
  dsimp only at e1 hcl
  rw [HLS.out] at e1 hcl
  simp only [Value.slice.injEq, true_and] at e1
  obtain ⟨rfl, rfl⟩ := e1
  obtain ⟨m, hm⟩ : ∃ q, Hid (ss.length = q) := ⟨_, rfl⟩
  obtain rfl : lss = m + 2 := by have q := HLS.out; rw [← q, ← hm.out]; simp
  have hm9 : m ≤ 900 := by rw [← hm.out]; exact hl
  unfold maxLen at hcm
  have CL : Hid (W.cell? ⟨gs, m, none⟩ = some (.int .i64 x) ∧ W.cell? ⟨gs, m + 1, none⟩ = some (.int .i64 y)) := by
    have q := fun k hk => own_cell13 (w := W) (B := B) (g := gs) (cap := ks) (zs := ss ++ [x] ++ [y]) (by rw [HLS.out]; exact h.out.s) (k := k) hk
    refine ⟨?_, ?_⟩
    · have r := q m (by rw [HLS.out]; omega)
      rw [show (ss ++ [x] ++ [y]).getD m 0 = x by simp [List.getD, ← hm.out]] at r; exact r
    · have r := q (m + 1) (by rw [HLS.out]; omega)
      rw [show (ss ++ [x] ++ [y]).getD (m + 1) 0 = y by simp [List.getD, ← hm.out]] at r; exact r
  obtain ⟨z, HZV⟩ : ∃ z, Hid (doV 4 x y = z) := ⟨_, rfl⟩
  rw [HZV.out]
  obtain ⟨X, hX⟩ : ∃ X, Hid (((W.alloc (.cells #[.int .i64 5, .int .i64 0] 49)).alloc (.cells #[(.slice al lls kl), (.slice (some ⟨gs, 0, none⟩) (m + 2) ks), (.slice at_ lts kt)] 39)).alloc (.cells #[.slice none 0 0, .slice none 0 0, .slice none 0 0] 39) = X) := ⟨_, rfl⟩
  have HB : Hid (Begun W X B 5 0 (.slice al lls kl) (.slice (some ⟨gs, 0, none⟩) (m + 2) ks) (.slice at_ lts kt) ⟨ls, ss ++ [x] ++ [y], ts⟩) := by show Begun _ _ _ _ _ _ _ _ _; rw [← hX.out]; exact begun W B 5 0 _ _ _ _ h.out
  have sX : Hid (X.heap.size = W.heap.size + 3) := HB.out.size
  have s0 : X.cell? ⟨W.heap.size, 0, none⟩ = some (.int .i64 5) := HB.out.st.cell (i := 0) (by decide)
  have s1 : X.cell? ⟨W.heap.size, 1, none⟩ = some (.int .i64 0) := HB.out.st.cell (i := 1) (by decide)
  have lX : W.heap.size < X.heap.size := HB.out.st.lt
  have BWX : Hid (Below W.heap.size W X) := HB.out.bel
  clear h
  go_enter Try.func41, Try.ntmps41
  go_upto_region 1 with fail
  rw [hX.out]
  clear hX
  try rw [show W.heap.size + 1 + 1 = W.heap.size + 2 from rfl]
  have hc : X.cell? ⟨gs, m, none⟩ = some (.int .i64 x) := (BWX.out.cell (p := ⟨gs, m, none⟩) hgl).trans CL.out.1
  have hd : X.cell? ⟨gs, m + 1, none⟩ = some (.int .i64 y) := (BWX.out.cell (p := ⟨gs, m + 1, none⟩) hgl).trans CL.out.2
  have KF := HB.out.fr
  have KZ := HB.out.ze
  have f0 : X.cell? ⟨W.heap.size + 1, 0, none⟩ = some (.slice al lls kl) := KF.cell (i := 0) (by decide)
  have z0 : X.cell? ⟨W.heap.size + 2, 0, none⟩ = some (.slice none 0 0) := KZ.cell (i := 0) (by decide)
  have fz0 : X.frozen? ⟨W.heap.size + 2, 0, none⟩ = false := KZ.frozen 0
  have ff0 : X.frozen? ⟨W.heap.size + 1, 0, none⟩ = false := KF.frozen 0
  have f1 : X.cell? ⟨W.heap.size + 1, 1, none⟩ = some (.slice (some ⟨gs, 0, none⟩) (m + 2) ks) := KF.cell (i := 1) (by decide)
  have z1 : X.cell? ⟨W.heap.size + 2, 1, none⟩ = some (.slice none 0 0) := KZ.cell (i := 1) (by decide)
  have fz1 : X.frozen? ⟨W.heap.size + 2, 1, none⟩ = false := KZ.frozen 1
  have ff1 : X.frozen? ⟨W.heap.size + 1, 1, none⟩ = false := KF.frozen 1
  have f2 : X.cell? ⟨W.heap.size + 1, 2, none⟩ = some (.slice at_ lts kt) := KF.cell (i := 2) (by decide)
  have z2 : X.cell? ⟨W.heap.size + 2, 2, none⟩ = some (.slice none 0 0) := KZ.cell (i := 2) (by decide)
  have fz2 : X.frozen? ⟨W.heap.size + 2, 2, none⟩ = false := KZ.frozen 2
  have ff2 : X.frozen? ⟨W.heap.size + 1, 2, none⟩ = false := KF.frozen 2
  have lf : W.heap.size + 1 < X.heap.size := KF.lt
  have lz : W.heap.size + 2 < X.heap.size := KZ.lt
  clear KF KZ
  have mI : (m : Int) < (m : Int) + 2 := by omega
  have mJ : (m : Int) + 1 < (m : Int) + 2 := by omega
  have m0 : (0 : Int) ≤ (m : Int) := by omega
  have hcI : (m : Int) ≤ (ks : Int) := by omega
  have e1 : (m : Int) + 2 - 2 = (m : Int) := by omega
  have e2 : (m : Int) + 2 - 1 = (m : Int) + 1 := by omega
  have CD : Hid (∀ V : World, Calls Try.prog 51 #[.int .i64 4, .int .i64 x, .int .i64 y] V fun e W' => e = .returned (.int .i64 z) ∧ W' = V) := fun V => by have q := spec_do2 4 x y V (by decide) (by decide) x0 x1 y0 y1; rw [HZV.out] at q; exact q
  go_upto_region 3 with fail
  go_quiet (first
    | (go_at_call 52; refine Calls.quiet_of_same (sop_quiet (o := 5) (q := 4) (by decide) (by decide) (by decide) _))
    | (go_at_call 51; refine Calls.quiet_of_same (CD.out _)))
  obtain ⟨Y, eY⟩ : ∃ Y, X.drewN nq = Y := ⟨_, rfl⟩
  have HY : Hid (Begun W Y B 5 0 (.slice al lls kl) (.slice (some ⟨gs, 0, none⟩) (m + 2) ks) (.slice at_ lts kt) ⟨ls, ss ++ [x] ++ [y], ts⟩) := by show Begun _ _ _ _ _ _ _ _ _; rw [← eY]; exact HB.out.drewN nq
  rw [eY]
  clear eY HB f0 f1 f2 z0 z1 z2 fz0 fz1 fz2 ff0 ff1 ff2 lf lz s0 s1 hc hd lX BWX
  have sB : B ≤ Y.heap.size := by have := HY.out.size; omega
  have OP : Hid (OF Y B (.slice al lls kl) (.slice (some ⟨gs, 0, none⟩) m ks) (.slice at_ lts kt) ⟨ls, ss, ts⟩) := (HY.out.of.pop (n := m + 1) (by simp [hm.out])).pop hm.out
  have HOS : Hid (Y.ownsRow B 3 1 (.slice (some ⟨gs, 0, none⟩) m ks) m (ss.map (Value.int .i64))) := by have q := OP.out.s; unfold Own at q; dsimp only at q; rw [hm.out] at q; exact q
  have KF := HY.out.fr
  have KZ := HY.out.ze
  have f0 : Y.cell? ⟨W.heap.size + 1, 0, none⟩ = some (.slice al lls kl) := KF.cell (i := 0) (by decide)
  have z0 : Y.cell? ⟨W.heap.size + 2, 0, none⟩ = some (.slice none 0 0) := KZ.cell (i := 0) (by decide)
  have fz0 : Y.frozen? ⟨W.heap.size + 2, 0, none⟩ = false := KZ.frozen 0
  have ff0 : Y.frozen? ⟨W.heap.size + 1, 0, none⟩ = false := KF.frozen 0
  have f1 : Y.cell? ⟨W.heap.size + 1, 1, none⟩ = some (.slice (some ⟨gs, 0, none⟩) (m + 2) ks) := KF.cell (i := 1) (by decide)
  have z1 : Y.cell? ⟨W.heap.size + 2, 1, none⟩ = some (.slice none 0 0) := KZ.cell (i := 1) (by decide)
  have fz1 : Y.frozen? ⟨W.heap.size + 2, 1, none⟩ = false := KZ.frozen 1
  have ff1 : Y.frozen? ⟨W.heap.size + 1, 1, none⟩ = false := KF.frozen 1
  have f2 : Y.cell? ⟨W.heap.size + 1, 2, none⟩ = some (.slice at_ lts kt) := KF.cell (i := 2) (by decide)
  have z2 : Y.cell? ⟨W.heap.size + 2, 2, none⟩ = some (.slice none 0 0) := KZ.cell (i := 2) (by decide)
  have fz2 : Y.frozen? ⟨W.heap.size + 2, 2, none⟩ = false := KZ.frozen 2
  have ff2 : Y.frozen? ⟨W.heap.size + 1, 2, none⟩ = false := KF.frozen 2
  have lf : W.heap.size + 1 < Y.heap.size := KF.lt
  have lz : W.heap.size + 2 < Y.heap.size := KZ.lt
  clear KF KZ
  go_wp2_with (first
    | (at_builtin; refine wpList_append_own_at _ rfl _ _ 29 rfl B 3 i0 (.int .i64 0) 1 8 Try.underlying29 hi hz0 hz1 hz2 rfl (by decide) (.slice (some ⟨gs, 0, none⟩) m ks) m (ss.map (Value.int .i64)) rfl (World.ownsRow.alloc HOS.out _) ⟨Y.heap.size, 0, none⟩ 1 1 [.int .i64 z] rfl rfl (new_one Y z _) (one_of z) ?c3 ?c4 ?c5 ?_)
    | fail)
  case c3 => unfold maxLen; omega
  case c4 => omega
  case c5 => first | omega | (simp; omega)
  intro v2 w2 hown hgrow hnil hat
  clear hnil
  have O2 : Hid (OF w2 B (.slice al lls kl) v2 (.slice at_ lts kt) ⟨ls, ss ++ [z], ts⟩) := OP.out.push (by have q := hown; rw [← hm.out] at q; exact q) hgrow (by simpa using hat)
  have F2 : Hid (w2.rowIs (W.heap.size + 1) 39 3 (rowF [.slice al lls kl, .slice (some ⟨gs, 0, none⟩) (m + 2) ks, .slice at_ lts kt])) := row_grown OP.out.s hgrow (by decide) HY.out.fr
  have Z2 : Hid (w2.rowIs (W.heap.size + 2) 39 3 (rowF [.slice none 0 0, .slice none 0 0, .slice none 0 0])) := row_grown OP.out.s hgrow (by decide) HY.out.ze
  have B2 : Hid (Below B W w2) := (HY.out.bel.mono hB).trans (below_grown OP.out.s sB hgrow)
  have S2 : Hid (StaysAll W w2) := (stays_all HY.out.bel).trans (fun k T q F hT r => row_grown OP.out.s hgrow hT r)
  clear hown hgrow hat HOS OP HY
  obtain ⟨a2, k2, e2', -⟩ := O2.out.s.mine
  dsimp only at e2'
  obtain ⟨m2, em2⟩ : ∃ q, Hid ((ss ++ [z]).length = q) := ⟨_, rfl⟩
  rw [em2.out] at e2'
  subst e2'
  clear f0 f1 f2 z0 z1 z2 fz0 fz1 fz2 ff0 ff1 ff2 lf lz hi hz0 hz1 hz2
  have KF := F2.out
  have KZ := Z2.out
  have f0 : w2.cell? ⟨W.heap.size + 1, 0, none⟩ = some (.slice al lls kl) := KF.cell (i := 0) (by decide)
  have z0 : w2.cell? ⟨W.heap.size + 2, 0, none⟩ = some (.slice none 0 0) := KZ.cell (i := 0) (by decide)
  have fz0 : w2.frozen? ⟨W.heap.size + 2, 0, none⟩ = false := KZ.frozen 0
  have ff0 : w2.frozen? ⟨W.heap.size + 1, 0, none⟩ = false := KF.frozen 0
  have f1 : w2.cell? ⟨W.heap.size + 1, 1, none⟩ = some (.slice (some ⟨gs, 0, none⟩) (m + 2) ks) := KF.cell (i := 1) (by decide)
  have z1 : w2.cell? ⟨W.heap.size + 2, 1, none⟩ = some (.slice none 0 0) := KZ.cell (i := 1) (by decide)
  have fz1 : w2.frozen? ⟨W.heap.size + 2, 1, none⟩ = false := KZ.frozen 1
  have ff1 : w2.frozen? ⟨W.heap.size + 1, 1, none⟩ = false := KF.frozen 1
  have f2 : w2.cell? ⟨W.heap.size + 1, 2, none⟩ = some (.slice at_ lts kt) := KF.cell (i := 2) (by decide)
  have z2 : w2.cell? ⟨W.heap.size + 2, 2, none⟩ = some (.slice none 0 0) := KZ.cell (i := 2) (by decide)
  have fz2 : w2.frozen? ⟨W.heap.size + 2, 2, none⟩ = false := KZ.frozen 2
  have ff2 : w2.frozen? ⟨W.heap.size + 1, 2, none⟩ = false := KF.frozen 2
  have lf : W.heap.size + 1 < w2.heap.size := KF.lt
  have lz : W.heap.size + 2 < w2.heap.size := KZ.lt
  clear KF KZ
  go_wp2
  refine bodyPost_ret (v := .agg #[.slice al lls kl, .slice a2 m2 k2, .slice at_ lts kt]) (by simp only [results, Try.results41]; go_simp) rfl (sdo_fin (O2.out.box F2.out (by decide)) (B2.out.setCell (by simp; omega) _) (fun k T q F hT r => (S2.out k T q F hT r).setOther (by have := r.lt; simp; omega) _) (Z2.out.setOther (by simp) _) hB)
set_option maxHeartbeats 8000000 in
theorem sdo_pair6 (B : Nat) (vl vs vt : Value) (ls ss ts : List Int) (x y : Int) (x0 : 0 ≤ x) (x1 : x ≤ 65535) (y0 : 0 ≤ y) (y1 : y ≤ 65535) (W : World) (hB : B ≤ W.heap.size) (hl : ss.length ≤ 900) (h : Hid (OF W B vl vs vt ⟨ls, ss ++ [x] ++ [y], ts⟩)) :
    Calls Try.prog 41 #[.agg #[.int .i64 6, .int .i64 0], .agg #[vl, vs, vt]] W (SDoAns B ⟨ls, ss ++ [doV 5 x y], ts⟩ W) := by
  obtain ⟨i0, hi, hz0, hz1, hz2⟩ := parts_of (P := Try.prog) (e := 3) (z := .int .i64 0) (a := 1) (b := 8) (by kernel_rfl)
  obtain ⟨al, kl, el, -⟩ := h.out.l.mine
  obtain ⟨as_, ks, es, -⟩ := h.out.s.mine
  obtain ⟨at_, kt, et, -⟩ := h.out.t.mine
  subst el es et
  dsimp only at h ⊢
  obtain ⟨lls, HLL⟩ : ∃ q, Hid (ls.length = q) := ⟨_, rfl⟩
  obtain ⟨lss, HLS⟩ : ∃ q, Hid ((ss ++ [x] ++ [y]).length = q) := ⟨_, rfl⟩
  obtain ⟨lts, HLT⟩ : ∃ q, Hid (ts.length = q) := ⟨_, rfl⟩
  rw [HLL.out, HLS.out, HLT.out] at h ⊢
  obtain ⟨gs, cs_, e1, hgB, hgl, hcl, hcm⟩ := own_form13 h.out.s (by simp)
  dsimp only at e1 hcl
  rw [HLS.out] at e1 hcl
  simp only [Value.slice.injEq, true_and] at e1
  obtain ⟨rfl, rfl⟩ := e1
  obtain ⟨m, hm⟩ : ∃ q, Hid (ss.length = q) := ⟨_, rfl⟩
  obtain rfl : lss = m + 2 := by have q := HLS.out; rw [← q, ← hm.out]; simp
  have hm9 : m ≤ 900 := by rw [← hm.out]; exact hl
  unfold maxLen at hcm
  have CL : Hid (W.cell? ⟨gs, m, none⟩ = some (.int .i64 x) ∧ W.cell? ⟨gs, m + 1, none⟩ = some (.int .i64 y)) := by
    have q := fun k hk => own_cell13 (w := W) (B := B) (g := gs) (cap := ks) (zs := ss ++ [x] ++ [y]) (by rw [HLS.out]; exact h.out.s) (k := k) hk
    refine ⟨?_, ?_⟩
    · have r := q m (by rw [HLS.out]; omega)
      rw [show (ss ++ [x] ++ [y]).getD m 0 = x by simp [List.getD, ← hm.out]] at r; exact r
    · have r := q (m + 1) (by rw [HLS.out]; omega)
      rw [show (ss ++ [x] ++ [y]).getD (m + 1) 0 = y by simp [List.getD, ← hm.out]] at r; exact r
  obtain ⟨z, HZV⟩ : ∃ z, Hid (doV 5 x y = z) := ⟨_, rfl⟩
  rw [HZV.out]
  obtain ⟨X, hX⟩ : ∃ X, Hid (((W.alloc (.cells #[.int .i64 6, .int .i64 0] 49)).alloc (.cells #[(.slice al lls kl), (.slice (some ⟨gs, 0, none⟩) (m + 2) ks), (.slice at_ lts kt)] 39)).alloc (.cells #[.slice none 0 0, .slice none 0 0, .slice none 0 0] 39) = X) := ⟨_, rfl⟩
  have HB : Hid (Begun W X B 6 0 (.slice al lls kl) (.slice (some ⟨gs, 0, none⟩) (m + 2) ks) (.slice at_ lts kt) ⟨ls, ss ++ [x] ++ [y], ts⟩) := by show Begun _ _ _ _ _ _ _ _ _; rw [← hX.out]; exact begun W B 6 0 _ _ _ _ h.out
  have sX : Hid (X.heap.size = W.heap.size + 3) := HB.out.size
  have s0 : X.cell? ⟨W.heap.size, 0, none⟩ = some (.int .i64 6) := HB.out.st.cell (i := 0) (by decide)
  have s1 : X.cell? ⟨W.heap.size, 1, none⟩ = some (.int .i64 0) := HB.out.st.cell (i := 1) (by decide)
  have lX : W.heap.size < X.heap.size := HB.out.st.lt
  have BWX : Hid (Below W.heap.size W X) := HB.out.bel
  clear h
  go_enter Try.func41, Try.ntmps41
  go_upto_region 1 with fail
  rw [hX.out]
  clear hX
  try rw [show W.heap.size + 1 + 1 = W.heap.size + 2 from rfl]
  have hc : X.cell? ⟨gs, m, none⟩ = some (.int .i64 x) := (BWX.out.cell (p := ⟨gs, m, none⟩) hgl).trans CL.out.1
  have hd : X.cell? ⟨gs, m + 1, none⟩ = some (.int .i64 y) := (BWX.out.cell (p := ⟨gs, m + 1, none⟩) hgl).trans CL.out.2
  have KF := HB.out.fr
  have KZ := HB.out.ze
  have f0 : X.cell? ⟨W.heap.size + 1, 0, none⟩ = some (.slice al lls kl) := KF.cell (i := 0) (by decide)
  have z0 : X.cell? ⟨W.heap.size + 2, 0, none⟩ = some (.slice none 0 0) := KZ.cell (i := 0) (by decide)
  have fz0 : X.frozen? ⟨W.heap.size + 2, 0, none⟩ = false := KZ.frozen 0
  have ff0 : X.frozen? ⟨W.heap.size + 1, 0, none⟩ = false := KF.frozen 0
  have f1 : X.cell? ⟨W.heap.size + 1, 1, none⟩ = some (.slice (some ⟨gs, 0, none⟩) (m + 2) ks) := KF.cell (i := 1) (by decide)
  have z1 : X.cell? ⟨W.heap.size + 2, 1, none⟩ = some (.slice none 0 0) := KZ.cell (i := 1) (by decide)
  have fz1 : X.frozen? ⟨W.heap.size + 2, 1, none⟩ = false := KZ.frozen 1
  have ff1 : X.frozen? ⟨W.heap.size + 1, 1, none⟩ = false := KF.frozen 1
  have f2 : X.cell? ⟨W.heap.size + 1, 2, none⟩ = some (.slice at_ lts kt) := KF.cell (i := 2) (by decide)
  have z2 : X.cell? ⟨W.heap.size + 2, 2, none⟩ = some (.slice none 0 0) := KZ.cell (i := 2) (by decide)
  have fz2 : X.frozen? ⟨W.heap.size + 2, 2, none⟩ = false := KZ.frozen 2
  have ff2 : X.frozen? ⟨W.heap.size + 1, 2, none⟩ = false := KF.frozen 2
  have lf : W.heap.size + 1 < X.heap.size := KF.lt
  have lz : W.heap.size + 2 < X.heap.size := KZ.lt
  clear KF KZ
  have mI : (m : Int) < (m : Int) + 2 := by omega
  have mJ : (m : Int) + 1 < (m : Int) + 2 := by omega
  have m0 : (0 : Int) ≤ (m : Int) := by omega
  have hcI : (m : Int) ≤ (ks : Int) := by omega
  have e1 : (m : Int) + 2 - 2 = (m : Int) := by omega
  have e2 : (m : Int) + 2 - 1 = (m : Int) + 1 := by omega
  have CD : Hid (∀ V : World, Calls Try.prog 51 #[.int .i64 5, .int .i64 x, .int .i64 y] V fun e W' => e = .returned (.int .i64 z) ∧ W' = V) := fun V => by have q := spec_do2 5 x y V (by decide) (by decide) x0 x1 y0 y1; rw [HZV.out] at q; exact q
  go_upto_region 3 with fail
  go_quiet (first
    | (go_at_call 52; refine Calls.quiet_of_same (sop_quiet (o := 6) (q := 5) (by decide) (by decide) (by decide) _))
    | (go_at_call 51; refine Calls.quiet_of_same (CD.out _)))
  obtain ⟨Y, eY⟩ : ∃ Y, X.drewN nq = Y := ⟨_, rfl⟩
  have HY : Hid (Begun W Y B 6 0 (.slice al lls kl) (.slice (some ⟨gs, 0, none⟩) (m + 2) ks) (.slice at_ lts kt) ⟨ls, ss ++ [x] ++ [y], ts⟩) := by show Begun _ _ _ _ _ _ _ _ _; rw [← eY]; exact HB.out.drewN nq
  rw [eY]
  clear eY HB f0 f1 f2 z0 z1 z2 fz0 fz1 fz2 ff0 ff1 ff2 lf lz s0 s1 hc hd lX BWX
  have sB : B ≤ Y.heap.size := by have := HY.out.size; omega
  have OP : Hid (OF Y B (.slice al lls kl) (.slice (some ⟨gs, 0, none⟩) m ks) (.slice at_ lts kt) ⟨ls, ss, ts⟩) := (HY.out.of.pop (n := m + 1) (by simp [hm.out])).pop hm.out
  have HOS : Hid (Y.ownsRow B 3 1 (.slice (some ⟨gs, 0, none⟩) m ks) m (ss.map (Value.int .i64))) := by have q := OP.out.s; unfold Own at q; dsimp only at q; rw [hm.out] at q; exact q
  have KF := HY.out.fr
  have KZ := HY.out.ze
  have f0 : Y.cell? ⟨W.heap.size + 1, 0, none⟩ = some (.slice al lls kl) := KF.cell (i := 0) (by decide)
  have z0 : Y.cell? ⟨W.heap.size + 2, 0, none⟩ = some (.slice none 0 0) := KZ.cell (i := 0) (by decide)
  have fz0 : Y.frozen? ⟨W.heap.size + 2, 0, none⟩ = false := KZ.frozen 0
  have ff0 : Y.frozen? ⟨W.heap.size + 1, 0, none⟩ = false := KF.frozen 0
  have f1 : Y.cell? ⟨W.heap.size + 1, 1, none⟩ = some (.slice (some ⟨gs, 0, none⟩) (m + 2) ks) := KF.cell (i := 1) (by decide)
  have z1 : Y.cell? ⟨W.heap.size + 2, 1, none⟩ = some (.slice none 0 0) := KZ.cell (i := 1) (by decide)
  have fz1 : Y.frozen? ⟨W.heap.size + 2, 1, none⟩ = false := KZ.frozen 1
  have ff1 : Y.frozen? ⟨W.heap.size + 1, 1, none⟩ = false := KF.frozen 1
  have f2 : Y.cell? ⟨W.heap.size + 1, 2, none⟩ = some (.slice at_ lts kt) := KF.cell (i := 2) (by decide)
  have z2 : Y.cell? ⟨W.heap.size + 2, 2, none⟩ = some (.slice none 0 0) := KZ.cell (i := 2) (by decide)
  have fz2 : Y.frozen? ⟨W.heap.size + 2, 2, none⟩ = false := KZ.frozen 2
  have ff2 : Y.frozen? ⟨W.heap.size + 1, 2, none⟩ = false := KF.frozen 2
  have lf : W.heap.size + 1 < Y.heap.size := KF.lt
  have lz : W.heap.size + 2 < Y.heap.size := KZ.lt
  clear KF KZ
  go_wp2_with (first
    | (at_builtin; refine wpList_append_own_at _ rfl _ _ 29 rfl B 3 i0 (.int .i64 0) 1 8 Try.underlying29 hi hz0 hz1 hz2 rfl (by decide) (.slice (some ⟨gs, 0, none⟩) m ks) m (ss.map (Value.int .i64)) rfl (World.ownsRow.alloc HOS.out _) ⟨Y.heap.size, 0, none⟩ 1 1 [.int .i64 z] rfl rfl (new_one Y z _) (one_of z) ?c3 ?c4 ?c5 ?_)
    | fail)
  case c3 => unfold maxLen; omega
  case c4 => omega
  case c5 => first | omega | (simp; omega)
  intro v2 w2 hown hgrow hnil hat
  clear hnil
  have O2 : Hid (OF w2 B (.slice al lls kl) v2 (.slice at_ lts kt) ⟨ls, ss ++ [z], ts⟩) := OP.out.push (by have q := hown; rw [← hm.out] at q; exact q) hgrow (by simpa using hat)
  have F2 : Hid (w2.rowIs (W.heap.size + 1) 39 3 (rowF [.slice al lls kl, .slice (some ⟨gs, 0, none⟩) (m + 2) ks, .slice at_ lts kt])) := row_grown OP.out.s hgrow (by decide) HY.out.fr
  have Z2 : Hid (w2.rowIs (W.heap.size + 2) 39 3 (rowF [.slice none 0 0, .slice none 0 0, .slice none 0 0])) := row_grown OP.out.s hgrow (by decide) HY.out.ze
  have B2 : Hid (Below B W w2) := (HY.out.bel.mono hB).trans (below_grown OP.out.s sB hgrow)
  have S2 : Hid (StaysAll W w2) := (stays_all HY.out.bel).trans (fun k T q F hT r => row_grown OP.out.s hgrow hT r)
  clear hown hgrow hat HOS OP HY
  obtain ⟨a2, k2, e2', -⟩ := O2.out.s.mine
  dsimp only at e2'
  obtain ⟨m2, em2⟩ : ∃ q, Hid ((ss ++ [z]).length = q) := ⟨_, rfl⟩
  rw [em2.out] at e2'
  subst e2'
  clear f0 f1 f2 z0 z1 z2 fz0 fz1 fz2 ff0 ff1 ff2 lf lz hi hz0 hz1 hz2
  have KF := F2.out
  have KZ := Z2.out
  have f0 : w2.cell? ⟨W.heap.size + 1, 0, none⟩ = some (.slice al lls kl) := KF.cell (i := 0) (by decide)
  have z0 : w2.cell? ⟨W.heap.size + 2, 0, none⟩ = some (.slice none 0 0) := KZ.cell (i := 0) (by decide)
  have fz0 : w2.frozen? ⟨W.heap.size + 2, 0, none⟩ = false := KZ.frozen 0
  have ff0 : w2.frozen? ⟨W.heap.size + 1, 0, none⟩ = false := KF.frozen 0
  have f1 : w2.cell? ⟨W.heap.size + 1, 1, none⟩ = some (.slice (some ⟨gs, 0, none⟩) (m + 2) ks) := KF.cell (i := 1) (by decide)
  have z1 : w2.cell? ⟨W.heap.size + 2, 1, none⟩ = some (.slice none 0 0) := KZ.cell (i := 1) (by decide)
  have fz1 : w2.frozen? ⟨W.heap.size + 2, 1, none⟩ = false := KZ.frozen 1
  have ff1 : w2.frozen? ⟨W.heap.size + 1, 1, none⟩ = false := KF.frozen 1
  have f2 : w2.cell? ⟨W.heap.size + 1, 2, none⟩ = some (.slice at_ lts kt) := KF.cell (i := 2) (by decide)
  have z2 : w2.cell? ⟨W.heap.size + 2, 2, none⟩ = some (.slice none 0 0) := KZ.cell (i := 2) (by decide)
  have fz2 : w2.frozen? ⟨W.heap.size + 2, 2, none⟩ = false := KZ.frozen 2
  have ff2 : w2.frozen? ⟨W.heap.size + 1, 2, none⟩ = false := KF.frozen 2
  have lf : W.heap.size + 1 < w2.heap.size := KF.lt
  have lz : W.heap.size + 2 < w2.heap.size := KZ.lt
  clear KF KZ
  go_wp2
  refine bodyPost_ret (v := .agg #[.slice al lls kl, .slice a2 m2 k2, .slice at_ lts kt]) (by simp only [results, Try.results41]; go_simp) rfl (sdo_fin (O2.out.box F2.out (by decide)) (B2.out.setCell (by simp; omega) _) (fun k T q F hT r => (S2.out k T q F hT r).setOther (by have := r.lt; simp; omega) _) (Z2.out.setOther (by simp) _) hB)
set_option maxHeartbeats 8000000 in
theorem sdo_pair7 (B : Nat) (vl vs vt : Value) (ls ss ts : List Int) (x y : Int) (x0 : 0 ≤ x) (x1 : x ≤ 65535) (y0 : 0 ≤ y) (y1 : y ≤ 65535) (W : World) (hB : B ≤ W.heap.size) (hl : ss.length ≤ 900) (h : Hid (OF W B vl vs vt ⟨ls, ss ++ [x] ++ [y], ts⟩)) :
    Calls Try.prog 41 #[.agg #[.int .i64 7, .int .i64 0], .agg #[vl, vs, vt]] W (SDoAns B ⟨ls, ss ++ [doV 6 x y], ts⟩ W) := by
  obtain ⟨i0, hi, hz0, hz1, hz2⟩ := parts_of (P := Try.prog) (e := 3) (z := .int .i64 0) (a := 1) (b := 8) (by kernel_rfl)
  obtain ⟨al, kl, el, -⟩ := h.out.l.mine
  obtain ⟨as_, ks, es, -⟩ := h.out.s.mine
  obtain ⟨at_, kt, et, -⟩ := h.out.t.mine
  subst el es et
  dsimp only at h ⊢
  obtain ⟨lls, HLL⟩ : ∃ q, Hid (ls.length = q) := ⟨_, rfl⟩
  obtain ⟨lss, HLS⟩ : ∃ q, Hid ((ss ++ [x] ++ [y]).length = q) := ⟨_, rfl⟩
  obtain ⟨lts, HLT⟩ : ∃ q, Hid (ts.length = q) := ⟨_, rfl⟩
  rw [HLL.out, HLS.out, HLT.out] at h ⊢
  obtain ⟨gs, cs_, e1, hgB, hgl, hcl, hcm⟩ := own_form13 h.out.s (by simp)
  dsimp only at e1 hcl
  rw [HLS.out] at e1 hcl
  simp only [Value.slice.injEq, true_and] at e1
  obtain ⟨rfl, rfl⟩ := e1
  obtain ⟨m, hm⟩ : ∃ q, Hid (ss.length = q) := ⟨_, rfl⟩
  obtain rfl : lss = m + 2 := by have q := HLS.out; rw [← q, ← hm.out]; simp
  have hm9 : m ≤ 900 := by rw [← hm.out]; exact hl
  unfold maxLen at hcm
  have CL : Hid (W.cell? ⟨gs, m, none⟩ = some (.int .i64 x) ∧ W.cell? ⟨gs, m + 1, none⟩ = some (.int .i64 y)) := by
    have q := fun k hk => own_cell13 (w := W) (B := B) (g := gs) (cap := ks) (zs := ss ++ [x] ++ [y]) (by rw [HLS.out]; exact h.out.s) (k := k) hk
    refine ⟨?_, ?_⟩
    · have r := q m (by rw [HLS.out]; omega)
      rw [show (ss ++ [x] ++ [y]).getD m 0 = x by simp [List.getD, ← hm.out]] at r; exact r
    · have r := q (m + 1) (by rw [HLS.out]; omega)
      rw [show (ss ++ [x] ++ [y]).getD (m + 1) 0 = y by simp [List.getD, ← hm.out]] at r; exact r
  obtain ⟨z, HZV⟩ : ∃ z, Hid (doV 6 x y = z) := ⟨_, rfl⟩
  rw [HZV.out]
  obtain ⟨X, hX⟩ : ∃ X, Hid (((W.alloc (.cells #[.int .i64 7, .int .i64 0] 49)).alloc (.cells #[(.slice al lls kl), (.slice (some ⟨gs, 0, none⟩) (m + 2) ks), (.slice at_ lts kt)] 39)).alloc (.cells #[.slice none 0 0, .slice none 0 0, .slice none 0 0] 39) = X) := ⟨_, rfl⟩
  have HB : Hid (Begun W X B 7 0 (.slice al lls kl) (.slice (some ⟨gs, 0, none⟩) (m + 2) ks) (.slice at_ lts kt) ⟨ls, ss ++ [x] ++ [y], ts⟩) := by show Begun _ _ _ _ _ _ _ _ _; rw [← hX.out]; exact begun W B 7 0 _ _ _ _ h.out
  have sX : Hid (X.heap.size = W.heap.size + 3) := HB.out.size
  have s0 : X.cell? ⟨W.heap.size, 0, none⟩ = some (.int .i64 7) := HB.out.st.cell (i := 0) (by decide)
  have s1 : X.cell? ⟨W.heap.size, 1, none⟩ = some (.int .i64 0) := HB.out.st.cell (i := 1) (by decide)
  have lX : W.heap.size < X.heap.size := HB.out.st.lt
  have BWX : Hid (Below W.heap.size W X) := HB.out.bel
  clear h
  go_enter Try.func41, Try.ntmps41
  go_upto_region 1 with fail
  rw [hX.out]
  clear hX
  try rw [show W.heap.size + 1 + 1 = W.heap.size + 2 from rfl]
  have hc : X.cell? ⟨gs, m, none⟩ = some (.int .i64 x) := (BWX.out.cell (p := ⟨gs, m, none⟩) hgl).trans CL.out.1
  have hd : X.cell? ⟨gs, m + 1, none⟩ = some (.int .i64 y) := (BWX.out.cell (p := ⟨gs, m + 1, none⟩) hgl).trans CL.out.2
  have KF := HB.out.fr
  have KZ := HB.out.ze
  have f0 : X.cell? ⟨W.heap.size + 1, 0, none⟩ = some (.slice al lls kl) := KF.cell (i := 0) (by decide)
  have z0 : X.cell? ⟨W.heap.size + 2, 0, none⟩ = some (.slice none 0 0) := KZ.cell (i := 0) (by decide)
  have fz0 : X.frozen? ⟨W.heap.size + 2, 0, none⟩ = false := KZ.frozen 0
  have ff0 : X.frozen? ⟨W.heap.size + 1, 0, none⟩ = false := KF.frozen 0
  have f1 : X.cell? ⟨W.heap.size + 1, 1, none⟩ = some (.slice (some ⟨gs, 0, none⟩) (m + 2) ks) := KF.cell (i := 1) (by decide)
  have z1 : X.cell? ⟨W.heap.size + 2, 1, none⟩ = some (.slice none 0 0) := KZ.cell (i := 1) (by decide)
  have fz1 : X.frozen? ⟨W.heap.size + 2, 1, none⟩ = false := KZ.frozen 1
  have ff1 : X.frozen? ⟨W.heap.size + 1, 1, none⟩ = false := KF.frozen 1
  have f2 : X.cell? ⟨W.heap.size + 1, 2, none⟩ = some (.slice at_ lts kt) := KF.cell (i := 2) (by decide)
  have z2 : X.cell? ⟨W.heap.size + 2, 2, none⟩ = some (.slice none 0 0) := KZ.cell (i := 2) (by decide)
  have fz2 : X.frozen? ⟨W.heap.size + 2, 2, none⟩ = false := KZ.frozen 2
  have ff2 : X.frozen? ⟨W.heap.size + 1, 2, none⟩ = false := KF.frozen 2
  have lf : W.heap.size + 1 < X.heap.size := KF.lt
  have lz : W.heap.size + 2 < X.heap.size := KZ.lt
  clear KF KZ
  have mI : (m : Int) < (m : Int) + 2 := by omega
  have mJ : (m : Int) + 1 < (m : Int) + 2 := by omega
  have m0 : (0 : Int) ≤ (m : Int) := by omega
  have hcI : (m : Int) ≤ (ks : Int) := by omega
  have e1 : (m : Int) + 2 - 2 = (m : Int) := by omega
  have e2 : (m : Int) + 2 - 1 = (m : Int) + 1 := by omega
  have CD : Hid (∀ V : World, Calls Try.prog 51 #[.int .i64 6, .int .i64 x, .int .i64 y] V fun e W' => e = .returned (.int .i64 z) ∧ W' = V) := fun V => by have q := spec_do2 6 x y V (by decide) (by decide) x0 x1 y0 y1; rw [HZV.out] at q; exact q
  go_upto_region 3 with fail
  go_quiet (first
    | (go_at_call 52; refine Calls.quiet_of_same (sop_quiet (o := 7) (q := 6) (by decide) (by decide) (by decide) _))
    | (go_at_call 51; refine Calls.quiet_of_same (CD.out _)))
  obtain ⟨Y, eY⟩ : ∃ Y, X.drewN nq = Y := ⟨_, rfl⟩
  have HY : Hid (Begun W Y B 7 0 (.slice al lls kl) (.slice (some ⟨gs, 0, none⟩) (m + 2) ks) (.slice at_ lts kt) ⟨ls, ss ++ [x] ++ [y], ts⟩) := by show Begun _ _ _ _ _ _ _ _ _; rw [← eY]; exact HB.out.drewN nq
  rw [eY]
  clear eY HB f0 f1 f2 z0 z1 z2 fz0 fz1 fz2 ff0 ff1 ff2 lf lz s0 s1 hc hd lX BWX
  have sB : B ≤ Y.heap.size := by have := HY.out.size; omega
  have OP : Hid (OF Y B (.slice al lls kl) (.slice (some ⟨gs, 0, none⟩) m ks) (.slice at_ lts kt) ⟨ls, ss, ts⟩) := (HY.out.of.pop (n := m + 1) (by simp [hm.out])).pop hm.out
  have HOS : Hid (Y.ownsRow B 3 1 (.slice (some ⟨gs, 0, none⟩) m ks) m (ss.map (Value.int .i64))) := by have q := OP.out.s; unfold Own at q; dsimp only at q; rw [hm.out] at q; exact q
  have KF := HY.out.fr
  have KZ := HY.out.ze
  have f0 : Y.cell? ⟨W.heap.size + 1, 0, none⟩ = some (.slice al lls kl) := KF.cell (i := 0) (by decide)
  have z0 : Y.cell? ⟨W.heap.size + 2, 0, none⟩ = some (.slice none 0 0) := KZ.cell (i := 0) (by decide)
  have fz0 : Y.frozen? ⟨W.heap.size + 2, 0, none⟩ = false := KZ.frozen 0
  have ff0 : Y.frozen? ⟨W.heap.size + 1, 0, none⟩ = false := KF.frozen 0
  have f1 : Y.cell? ⟨W.heap.size + 1, 1, none⟩ = some (.slice (some ⟨gs, 0, none⟩) (m + 2) ks) := KF.cell (i := 1) (by decide)
  have z1 : Y.cell? ⟨W.heap.size + 2, 1, none⟩ = some (.slice none 0 0) := KZ.cell (i := 1) (by decide)
  have fz1 : Y.frozen? ⟨W.heap.size + 2, 1, none⟩ = false := KZ.frozen 1
  have ff1 : Y.frozen? ⟨W.heap.size + 1, 1, none⟩ = false := KF.frozen 1
  have f2 : Y.cell? ⟨W.heap.size + 1, 2, none⟩ = some (.slice at_ lts kt) := KF.cell (i := 2) (by decide)
  have z2 : Y.cell? ⟨W.heap.size + 2, 2, none⟩ = some (.slice none 0 0) := KZ.cell (i := 2) (by decide)
  have fz2 : Y.frozen? ⟨W.heap.size + 2, 2, none⟩ = false := KZ.frozen 2
  have ff2 : Y.frozen? ⟨W.heap.size + 1, 2, none⟩ = false := KF.frozen 2
  have lf : W.heap.size + 1 < Y.heap.size := KF.lt
  have lz : W.heap.size + 2 < Y.heap.size := KZ.lt
  clear KF KZ
  go_wp2_with (first
    | (at_builtin; refine wpList_append_own_at _ rfl _ _ 29 rfl B 3 i0 (.int .i64 0) 1 8 Try.underlying29 hi hz0 hz1 hz2 rfl (by decide) (.slice (some ⟨gs, 0, none⟩) m ks) m (ss.map (Value.int .i64)) rfl (World.ownsRow.alloc HOS.out _) ⟨Y.heap.size, 0, none⟩ 1 1 [.int .i64 z] rfl rfl (new_one Y z _) (one_of z) ?c3 ?c4 ?c5 ?_)
    | fail)
  case c3 => unfold maxLen; omega
  case c4 => omega
  case c5 => first | omega | (simp; omega)
  intro v2 w2 hown hgrow hnil hat
  clear hnil
  have O2 : Hid (OF w2 B (.slice al lls kl) v2 (.slice at_ lts kt) ⟨ls, ss ++ [z], ts⟩) := OP.out.push (by have q := hown; rw [← hm.out] at q; exact q) hgrow (by simpa using hat)
  have F2 : Hid (w2.rowIs (W.heap.size + 1) 39 3 (rowF [.slice al lls kl, .slice (some ⟨gs, 0, none⟩) (m + 2) ks, .slice at_ lts kt])) := row_grown OP.out.s hgrow (by decide) HY.out.fr
  have Z2 : Hid (w2.rowIs (W.heap.size + 2) 39 3 (rowF [.slice none 0 0, .slice none 0 0, .slice none 0 0])) := row_grown OP.out.s hgrow (by decide) HY.out.ze
  have B2 : Hid (Below B W w2) := (HY.out.bel.mono hB).trans (below_grown OP.out.s sB hgrow)
  have S2 : Hid (StaysAll W w2) := (stays_all HY.out.bel).trans (fun k T q F hT r => row_grown OP.out.s hgrow hT r)
  clear hown hgrow hat HOS OP HY
  obtain ⟨a2, k2, e2', -⟩ := O2.out.s.mine
  dsimp only at e2'
  obtain ⟨m2, em2⟩ : ∃ q, Hid ((ss ++ [z]).length = q) := ⟨_, rfl⟩
  rw [em2.out] at e2'
  subst e2'
  clear f0 f1 f2 z0 z1 z2 fz0 fz1 fz2 ff0 ff1 ff2 lf lz hi hz0 hz1 hz2
  have KF := F2.out
  have KZ := Z2.out
  have f0 : w2.cell? ⟨W.heap.size + 1, 0, none⟩ = some (.slice al lls kl) := KF.cell (i := 0) (by decide)
  have z0 : w2.cell? ⟨W.heap.size + 2, 0, none⟩ = some (.slice none 0 0) := KZ.cell (i := 0) (by decide)
  have fz0 : w2.frozen? ⟨W.heap.size + 2, 0, none⟩ = false := KZ.frozen 0
  have ff0 : w2.frozen? ⟨W.heap.size + 1, 0, none⟩ = false := KF.frozen 0
  have f1 : w2.cell? ⟨W.heap.size + 1, 1, none⟩ = some (.slice (some ⟨gs, 0, none⟩) (m + 2) ks) := KF.cell (i := 1) (by decide)
  have z1 : w2.cell? ⟨W.heap.size + 2, 1, none⟩ = some (.slice none 0 0) := KZ.cell (i := 1) (by decide)
  have fz1 : w2.frozen? ⟨W.heap.size + 2, 1, none⟩ = false := KZ.frozen 1
  have ff1 : w2.frozen? ⟨W.heap.size + 1, 1, none⟩ = false := KF.frozen 1
  have f2 : w2.cell? ⟨W.heap.size + 1, 2, none⟩ = some (.slice at_ lts kt) := KF.cell (i := 2) (by decide)
  have z2 : w2.cell? ⟨W.heap.size + 2, 2, none⟩ = some (.slice none 0 0) := KZ.cell (i := 2) (by decide)
  have fz2 : w2.frozen? ⟨W.heap.size + 2, 2, none⟩ = false := KZ.frozen 2
  have ff2 : w2.frozen? ⟨W.heap.size + 1, 2, none⟩ = false := KF.frozen 2
  have lf : W.heap.size + 1 < w2.heap.size := KF.lt
  have lz : W.heap.size + 2 < w2.heap.size := KZ.lt
  clear KF KZ
  go_wp2
  refine bodyPost_ret (v := .agg #[.slice al lls kl, .slice a2 m2 k2, .slice at_ lts kt]) (by simp only [results, Try.results41]; go_simp) rfl (sdo_fin (O2.out.box F2.out (by decide)) (B2.out.setCell (by simp; omega) _) (fun k T q F hT r => (S2.out k T q F hT r).setOther (by have := r.lt; simp; omega) _) (Z2.out.setOther (by simp) _) hB)
end Go.Proofs.Ytdacpbhdemkacaa.walks
