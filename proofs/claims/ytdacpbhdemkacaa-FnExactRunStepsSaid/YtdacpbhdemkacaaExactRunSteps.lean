/-
  At every argument RunSteps answers as the specification, field by field; it writes into no argument and keeps nothing of one; its answer owns its memory, behind another call too.
-/
import Derived.Test.YtdacpbhdemkacaaRows
import Derived.WalkKit
import Derived.ProofKit
import Derived.OpenShut
import Derived.ShutString
import Derived.ChangeOld
import Derived.Below
import Derived.Carry
import Derived.Deep.DeepFit
import Derived.Deep.DeepCutAuto
import Derived.Deep.RegionHeld3
import Derived.SizedLaws
import Derived.Test.YtdacpbhdemkacaaMagMath
import Derived.Test.YtdacpbhdemkacaaInts
import Derived.Test.YtdacpbhdemkacaaOwnInts
import Derived.Test.YtdacpbhdemkacaaOwnMath
import Derived.Test.YtdacpbhdemkacaaDeep
import Derived.Test.YtdacpbhdemkacaaDeepOpen
import Derived.Test.YtdacpbhdemkacaaDeepRow
import Derived.Test.YtdacpbhdemkacaaDeepF
import Derived.Test.YtdacpbhdemkacaaStackMath
import Derived.Test.YtdacpbhdemkacaaDepths
import Derived.Test.YtdacpbhdemkacaaFrames
import Derived.Test.YtdacpbhdemkacaaFrameMath
import Derived.Test.YtdacpbhdemkacaaRsImpl
import Derived.Test.YtdacpbhdemkacaaRsSpec
namespace Go.Proofs.Ytdacpbhdemkacaa.fnExactRunSteps
open Go.ChangeShapes Go.WideShapes Go.ChangeAt Go.RowKit
open Go.ChangeMaps (open_string shut_string)
open Go.Proofs.Ytdacpbhdemkacaa.math
open Go.Proofs.Ytdacpbhdemkacaa.ints
open Go.Proofs.Ytdacpbhdemkacaa.deep
open Go.Proofs.Ytdacpbhdemkacaa.walks
open Go.Proofs.Ytdacpbhdemkacaa.deep
set_option linter.unusedVariables false

theorem own : ownKnob Try.prog.godebug = none := by kernel_rfl
theorem laidOut : laidOutB Try.prog = true := by kernel_rfl

/-- What RsAns says, as the law's walk asks it. -/
theorem rs_tells {R g : Fs} {ok ok' : Bool} {W W' : World} {e : Ending} (h1 : R = g) (h2 : ok = ok') (h : RsAns R ok W e W') : ∃ (g0 : Option Addr) (d0 : Nat) (g1 : Option Addr) (d1 : Nat) (g2 : Option Addr) (d2 : Nat) (F0 F1 F2 : Nat → Prop), e = .returned (.tuple #[.agg #[.slice g0 g.l.length d0, .slice g1 g.s.length d1, .slice g2 g.t.length d2], .bool ok']) ∧ Owns W' false W.heap.size (.l g.l.length 1 (fun i => .n (g.l.getD i 0))) (.slice g0 g.l.length d0) F0 ∧ (∀ x, F0 x → W.heap.size ≤ x ∧ x < W'.heap.size) ∧ Owns W' false W.heap.size (.l g.s.length 1 (fun i => .n (g.s.getD i 0))) (.slice g1 g.s.length d1) F1 ∧ (∀ x, F1 x → W.heap.size ≤ x ∧ x < W'.heap.size) ∧ Owns W' false W.heap.size (.l g.t.length 1 (fun i => .n (g.t.getD i 0))) (.slice g2 g.t.length d2) F2 ∧ (∀ x, F2 x → W.heap.size ≤ x ∧ x < W'.heap.size) ∧ (∀ x, F0 x → ¬ F1 x) ∧ (∀ x, F0 x → ¬ F2 x) ∧ (∀ x, F1 x → ¬ F2 x) ∧ Below W.heap.size W W' := by
  subst h1 h2
  obtain ⟨vl, vs, vt, e1, o1, o2, o3, d1, d2, d3, hb⟩ := h
  obtain ⟨a1, c1, r1, q1⟩ := ints_row o1 (es := fun i => .n (R.l.getD i 0)) rfl (fun i _ => rfl)
  obtain ⟨a2, c2, r2, q2⟩ := ints_row o2 (es := fun i => .n (R.s.getD i 0)) rfl (fun i _ => rfl)
  obtain ⟨a3, c3, r3, q3⟩ := ints_row o3 (es := fun i => .n (R.t.getD i 0)) rfl (fun i _ => rfl)
  subst r1 r2 r3
  exact ⟨a1, c1, a2, c2, a3, c3, _, _, _, e1, q1, fun x hx => World.ownsRow.lt o1 x hx, q2, fun x hx => World.ownsRow.lt o2 x hx, q3, fun x hx => World.ownsRow.lt o3 x hx, fun x hx hy => d1 x hx hy, fun x hx hy => d2 x hx hy, fun x hx hy => d3 x hx hy, hb⟩
theorem rs_len {cs : Nat → Dv} {n : Nat} {f : Fs} {b t : Int} : (rsF cs n f b t).l.length ≤ 3 ∧ (rsF cs n f b t).s.length ≤ 4 ∧ (rsF cs n f b t).t.length ≤ 100 := by
  cases h : rsB cs n f b t
  · rw [rsF_no h]; exact ⟨Nat.zero_le _, Nat.zero_le _, Nat.zero_le _⟩
  · rw [rsF_yes h]
    obtain ⟨h1, h2, h3, h4, h5, h6, h7⟩ := rs_out h
    have g := run_good (b := b.toNat) (steps_out h1).2 (good_of_frame h2 h6) (t.toNat - b.toNat) (by omega)
    have hd := (dpt_in (cs := cs) (k := b.toNat + (t.toNat - b.toNat)) (fun j hj => (steps_out h1).2 j (by omega))).2
    have g3 := g.sd
    exact ⟨Nat.le_of_eq g.l3, by omega, h7⟩
def SpecTells (l0 : Nat) (cs0 : Nat → Dv) (l1_0 : Nat) (cs1_0 : Nat → Dv) (l1_1 : Nat) (cs1_1 : Nat → Dv) (l1_2 : Nat) (cs1_2 : Nat → Dv) (x2 : Int) (x3 : Int) (lr0_0 : Nat) (csr0_0 : Nat → Dv) (lr0_1 : Nat) (csr0_1 : Nat → Dv) (lr0_2 : Nat) (csr0_2 : Nat → Dv) (xr1 : Bool) : Prop := ∀ (W : World) (a0 : Option Addr) (cap0 : Nat) (a1_0 : Option Addr) (cap1_0 : Nat) (a1_1 : Option Addr) (cap1_1 : Nat) (a1_2 : Option Addr) (cap1_2 : Nat), Holds W true (.l l0 2 cs0) (.slice a0 l0 cap0) → Holds W true (.l l1_0 1 cs1_0) (.slice a1_0 l1_0 cap1_0) → Holds W true (.l l1_1 1 cs1_1) (.slice a1_1 l1_1 cap1_1) → Holds W true (.l l1_2 1 cs1_2) (.slice a1_2 l1_2 cap1_2) → Calls Try.prog 24 #[.slice a0 l0 cap0, .agg #[.slice a1_0 l1_0 cap1_0, .slice a1_1 l1_1 cap1_1, .slice a1_2 l1_2 cap1_2], .int .i64 x2, .int .i64 x3] W fun e W' => ∃ (g0_0 : Option Addr) (d0_0 : Nat) (g0_1 : Option Addr) (d0_1 : Nat) (g0_2 : Option Addr) (d0_2 : Nat) (F0_0 : Nat → Prop) (F0_1 : Nat → Prop) (F0_2 : Nat → Prop), e = .returned (.tuple #[.agg #[.slice g0_0 lr0_0 d0_0, .slice g0_1 lr0_1 d0_1, .slice g0_2 lr0_2 d0_2], .bool xr1]) ∧ Owns W' false W.heap.size (.l lr0_0 1 csr0_0) (.slice g0_0 lr0_0 d0_0) F0_0 ∧ (∀ x, F0_0 x → W.heap.size ≤ x ∧ x < W'.heap.size) ∧ Owns W' false W.heap.size (.l lr0_1 1 csr0_1) (.slice g0_1 lr0_1 d0_1) F0_1 ∧ (∀ x, F0_1 x → W.heap.size ≤ x ∧ x < W'.heap.size) ∧ Owns W' false W.heap.size (.l lr0_2 1 csr0_2) (.slice g0_2 lr0_2 d0_2) F0_2 ∧ (∀ x, F0_2 x → W.heap.size ≤ x ∧ x < W'.heap.size) ∧ (∀ x, F0_0 x → ¬ F0_1 x) ∧ (∀ x, F0_0 x → ¬ F0_2 x) ∧ (∀ x, F0_1 x → ¬ F0_2 x) ∧ Below W.heap.size W W'
def ImplTells (l0 : Nat) (cs0 : Nat → Dv) (l1_0 : Nat) (cs1_0 : Nat → Dv) (l1_1 : Nat) (cs1_1 : Nat → Dv) (l1_2 : Nat) (cs1_2 : Nat → Dv) (x2 : Int) (x3 : Int) (lr0_0 : Nat) (csr0_0 : Nat → Dv) (lr0_1 : Nat) (csr0_1 : Nat → Dv) (lr0_2 : Nat) (csr0_2 : Nat → Dv) (xr1 : Bool) : Prop := ∀ (W : World) (a0 : Option Addr) (cap0 : Nat) (a1_0 : Option Addr) (cap1_0 : Nat) (a1_1 : Option Addr) (cap1_1 : Nat) (a1_2 : Option Addr) (cap1_2 : Nat), Holds W true (.l l0 2 cs0) (.slice a0 l0 cap0) → Holds W true (.l l1_0 1 cs1_0) (.slice a1_0 l1_0 cap1_0) → Holds W true (.l l1_1 1 cs1_1) (.slice a1_1 l1_1 cap1_1) → Holds W true (.l l1_2 1 cs1_2) (.slice a1_2 l1_2 cap1_2) → Calls Try.prog 25 #[.slice a0 l0 cap0, .agg #[.slice a1_0 l1_0 cap1_0, .slice a1_1 l1_1 cap1_1, .slice a1_2 l1_2 cap1_2], .int .i64 x2, .int .i64 x3] W fun e W' => ∃ (g0_0 : Option Addr) (d0_0 : Nat) (g0_1 : Option Addr) (d0_1 : Nat) (g0_2 : Option Addr) (d0_2 : Nat) (F0_0 : Nat → Prop) (F0_1 : Nat → Prop) (F0_2 : Nat → Prop), e = .returned (.tuple #[.agg #[.slice g0_0 lr0_0 d0_0, .slice g0_1 lr0_1 d0_1, .slice g0_2 lr0_2 d0_2], .bool xr1]) ∧ Owns W' false W.heap.size (.l lr0_0 1 csr0_0) (.slice g0_0 lr0_0 d0_0) F0_0 ∧ (∀ x, F0_0 x → W.heap.size ≤ x ∧ x < W'.heap.size) ∧ Owns W' false W.heap.size (.l lr0_1 1 csr0_1) (.slice g0_1 lr0_1 d0_1) F0_1 ∧ (∀ x, F0_1 x → W.heap.size ≤ x ∧ x < W'.heap.size) ∧ Owns W' false W.heap.size (.l lr0_2 1 csr0_2) (.slice g0_2 lr0_2 d0_2) F0_2 ∧ (∀ x, F0_2 x → W.heap.size ≤ x ∧ x < W'.heap.size) ∧ (∀ x, F0_0 x → ¬ F0_1 x) ∧ (∀ x, F0_0 x → ¬ F0_2 x) ∧ (∀ x, F0_1 x → ¬ F0_2 x) ∧ Below W.heap.size W W'
theorem below_put {W w : World} {B g : Nat} (h : Below B W w) (hg : B ≤ g) (y0 y1 y2 : Value) : Below B W (((w.setCell ⟨g, 0, none⟩ y0).setCell ⟨g, 1, none⟩ y1).setCell ⟨g, 2, none⟩ y2) := (((h.setCell (by simpa using hg) _).setCell (by simpa using hg) _).setCell (by simpa using hg) _)
theorem row_put {w : World} {g : Nat} {T : TypeId} {F : Nat → Value} (q : w.rowIs g T 3 F) (y0 y1 y2 : Value) : (((w.setCell ⟨g, 0, none⟩ y0).setCell ⟨g, 1, none⟩ y1).setCell ⟨g, 2, none⟩ y2).rowIs g T 3 (rowF [y0, y1, y2]) := ((((q.set 0 _).set 1 _).set 2 _)).congr (fun i hi => by
  match i, hi with
  | 0, _ => rfl
  | 1, _ => rfl
  | 2, _ => rfl)
theorem owns_put1 {w : World} {c : Bool} {B g i : Nat} {d : Dv} {v u : Value} {F : Nat → Prop} (h : Owns w c B d v F) (hg : ¬ F g) : Owns (w.setCell ⟨g, i, none⟩ u) c B d v F := h.agree (by simp [World.setCell]) (fun b hb hl => Below.heap_setCell _ _ _ _ (by intro e; have e' : b = g := e; rw [e'] at hb; exact hg hb))
theorem owns_put {w : World} {c : Bool} {B g : Nat} {d : Dv} {v : Value} {F : Nat → Prop} (h : Owns w c B d v F) (hg : ¬ F g) (y0 y1 y2 : Value) : Owns (((w.setCell ⟨g, 0, none⟩ y0).setCell ⟨g, 1, none⟩ y1).setCell ⟨g, 2, none⟩ y2) c B d v F := owns_put1 (owns_put1 (owns_put1 (h) hg) hg) hg
theorem nf_of {w : World} {g n m : Nat} {T : TypeId} {f : Nat → Value} (q : w.rowIs g T n f) {F : Nat → Prop} (hF : ∀ x, F x → w.heap.size ≤ x ∧ x < m) : ¬ F g := fun h => by have h1 := (hF g h).1; have h2 := q.lt; omega
set_option maxHeartbeats 16000000 in
set_option maxRecDepth 100000 in
theorem walk_of (a0 : Option Addr) (cap0 : Nat) (a1_0 : Option Addr) (cap1_0 : Nat) (a1_1 : Option Addr) (cap1_1 : Nat) (a1_2 : Option Addr) (cap1_2 : Nat) (l0 : Nat) (cs0 : Nat → Dv) (l1_0 : Nat) (cs1_0 : Nat → Dv) (l1_1 : Nat) (cs1_1 : Nat → Dv) (l1_2 : Nat) (cs1_2 : Nat → Dv) (x2 : Int) (x3 : Int) (lr0_0 : Nat) (csr0_0 : Nat → Dv) (lr0_1 : Nat) (csr0_1 : Nat → Dv) (lr0_2 : Nat) (csr0_2 : Nat → Dv) (xr1 : Bool) (w : World) (hf0 : Hid (Fits shSStepS (.l l0 2 cs0))) (hn0 : Hid (Lens (.l l0 2 cs0))) (h0 : Hid (Holds w false (.l l0 2 cs0) (.slice a0 l0 cap0))) (hf1_0 : Hid (Fits shI (.l l1_0 1 cs1_0))) (hn1_0 : Hid (Lens (.l l1_0 1 cs1_0))) (h1_0 : Hid (Holds w false (.l l1_0 1 cs1_0) (.slice a1_0 l1_0 cap1_0))) (hf1_1 : Hid (Fits shI (.l l1_1 1 cs1_1))) (hn1_1 : Hid (Lens (.l l1_1 1 cs1_1))) (h1_1 : Hid (Holds w false (.l l1_1 1 cs1_1) (.slice a1_1 l1_1 cap1_1))) (hf1_2 : Hid (Fits shI (.l l1_2 1 cs1_2))) (hn1_2 : Hid (Lens (.l l1_2 1 cs1_2))) (h1_2 : Hid (Holds w false (.l l1_2 1 cs1_2) (.slice a1_2 l1_2 cap1_2))) (hfr0_0 : Hid (Fits shI (.l lr0_0 1 csr0_0))) (hsx0_0 : Hid (szD (.l lr0_0 1 csr0_0) ≤ 100000)) (hfr0_1 : Hid (Fits shI (.l lr0_1 1 csr0_1))) (hsx0_1 : Hid (szD (.l lr0_1 1 csr0_1) ≤ 100000)) (hfr0_2 : Hid (Fits shI (.l lr0_2 1 csr0_2))) (hsx0_2 : Hid (szD (.l lr0_2 1 csr0_2) ≤ 100000)) (Hs : Hid (szD (.l l0 2 cs0) ≤ 1048576 → szD (.l l1_0 1 cs1_0) ≤ 1048576 → szD (.l l1_1 1 cs1_1) ≤ 1048576 → szD (.l l1_2 1 cs1_2) ≤ 1048576 → SpecTells l0 cs0 l1_0 cs1_0 l1_1 cs1_1 l1_2 cs1_2 x2 x3 lr0_0 csr0_0 lr0_1 csr0_1 lr0_2 csr0_2 xr1)) (Hi : Hid (szD (.l l0 2 cs0) ≤ 1048576 → szD (.l l1_0 1 cs1_0) ≤ 1048576 → szD (.l l1_1 1 cs1_1) ≤ 1048576 → szD (.l l1_2 1 cs1_2) ≤ 1048576 → ImplTells l0 cs0 l1_0 cs1_0 l1_1 cs1_1 l1_2 cs1_2 x2 x3 lr0_0 csr0_0 lr0_1 csr0_1 lr0_2 csr0_2 xr1)) :
    Calls Try.prog 6 #[.slice a0 l0 cap0, .agg #[.slice a1_0 l1_0 cap1_0, .slice a1_1 l1_1 cap1_1, .slice a1_2 l1_2 cap1_2], .int .i64 x2, .int .i64 x3] w fun e w' => e = .returned (.bool true) ∧ Below w.heap.size w w' := by
  have hsr0_0 : Hid (szD (.l lr0_0 1 csr0_0) ≤ 1048576) := Nat.le_trans hsx0_0.out (by decide)
  have hsr0_1 : Hid (szD (.l lr0_1 1 csr0_1) ≤ 1048576) := Nat.le_trans hsx0_1.out (by decide)
  have hsr0_2 : Hid (szD (.l lr0_2 1 csr0_2) ≤ 1048576) := Nat.le_trans hsx0_2.out (by decide)
  have pe1 : (xr1 != xr1) = false := by cases xr1 <;> rfl
  go_enter Try.func6, Try.ntmps6
  obtain ⟨z0, HZ0⟩ : ∃ z, Hid (szD (.l l0 2 cs0) = z) := ⟨_, rfl⟩
  go_wp2_with fail
  obtain ⟨w1, EWw1⟩ : ∃ X, X = w.alloc (.cells #[.slice a1_0 l1_0 cap1_0, .slice a1_1 l1_1 cap1_1, .slice a1_2 l1_2 cap1_2] 36) := ⟨_, rfl⟩
  rw [← EWw1]
  have hB : Below w.heap.size w w1 := by rw [EWw1]; exact (Below.refl _ _).alloc (Nat.le_refl _) _
  have ESw1 : w1.heap.size = w.heap.size + 1 := by rw [EWw1]; simp
  have BXP1_1 : Hid (w1.rowIs (w.heap.size) 36 3 (rowF [.slice a1_0 l1_0 cap1_0, .slice a1_1 l1_1 cap1_1, .slice a1_2 l1_2 cap1_2])) := by
    have q := row_of w #[.slice a1_0 l1_0 cap1_0, .slice a1_1 l1_1 cap1_1, .slice a1_2 l1_2 cap1_2] 36
    rw [EWw1]; exact q
  have LTP1 : Hid (w.heap.size < w1.heap.size) := BXP1_1.out.lt
  have ADP1 : Hid (w.heap.size = w.heap.size) := by show _ = _; rfl
  have BW1 : Hid (Below w.heap.size w w1) := hB
  have SZ1 : Hid (w.heap.size ≤ w1.heap.size) := hB.size
  clear hB EWw1
  clear ESw1
  refine (SStepS_size _ _ _ cs0 (1048576) _ hf0 hn0 (by omega) (by omega)).mono ?_
  rw [HZ0.out]
  rintro e w' ⟨rfl, hw⟩
  rw [hw]
  clear hw w'
  by_cases ok0 : (z0 : Int) ≤ 1048576
  rotate_left
  · rw [if_neg ok0]
    go_wp2
    go_ret
    exact ⟨rfl, BW1.out⟩
  rw [if_pos ok0]
  have left0 : 0 ≤ 1048576 - ((z0 : Int)) := by omega
  have hs0 : Hid (szD (.l l0 2 cs0) ≤ 1048576) := by show _ ≤ _; rw [HZ0.out]; omega
  obtain ⟨z1_0, HZ1_0⟩ : ∃ z, Hid (szD (.l l1_0 1 cs1_0) = z) := ⟨_, rfl⟩
  obtain ⟨z1_1, HZ1_1⟩ : ∃ z, Hid (szD (.l l1_1 1 cs1_1) = z) := ⟨_, rfl⟩
  obtain ⟨z1_2, HZ1_2⟩ : ∃ z, Hid (szD (.l l1_2 1 cs1_2) = z) := ⟨_, rfl⟩
  have blP1 : w.heap.size < w1.heap.size := BXP1_1.out.lt
  have bcP1_0 : w1.cell? ⟨w.heap.size, 0, none⟩ = some (.slice a1_0 l1_0 cap1_0) := BXP1_1.out.cell (i := 0) (by decide)
  have bcP1_1 : w1.cell? ⟨w.heap.size, 1, none⟩ = some (.slice a1_1 l1_1 cap1_1) := BXP1_1.out.cell (i := 1) (by decide)
  have bcP1_2 : w1.cell? ⟨w.heap.size, 2, none⟩ = some (.slice a1_2 l1_2 cap1_2) := BXP1_1.out.cell (i := 2) (by decide)
  go_wp2_with fail
  clear blP1 bcP1_0 bcP1_1 bcP1_2
  refine (Frame_size _ _ _ cs1_0 _ _ _ cs1_1 _ _ _ cs1_2 (1048576 - ((z0 : Int))) false _ hf1_0 hn1_0 (h1_0.out.kept BW1.out) hf1_1 hn1_1 (h1_1.out.kept BW1.out) hf1_2 hn1_2 (h1_2.out.kept BW1.out) (by omega) (by omega)).mono ?_
  rw [HZ1_0.out, HZ1_1.out, HZ1_2.out]
  rintro e w2 ⟨rfl, hB⟩
  have BW2 : Hid (Below w.heap.size w w2) := BW1.out.trans (hB.mono BW1.out.size)
  have SZ2 : Hid (w1.heap.size ≤ w2.heap.size) := hB.size
  have BXP1_2 : Hid (w2.rowIs (w.heap.size) 36 3 (rowF [.slice a1_0 l1_0 cap1_0, .slice a1_1 l1_1 cap1_1, .slice a1_2 l1_2 cap1_2])) := BXP1_1.out.of_block (hB.block _ BXP1_1.out.lt)
  clear hB
  by_cases ok1 : (z1_0 : Int) + (z1_1 : Int) + (z1_2 : Int) ≤ 1048576 - ((z0 : Int))
  rotate_left
  · rw [if_neg ok1]
    go_wp2
    go_ret
    exact ⟨rfl, BW2.out⟩
  rw [if_pos ok1]
  have left1 : 0 ≤ 1048576 - ((z0 : Int)) - ((z1_0 : Int) + (z1_1 : Int) + (z1_2 : Int)) := by omega
  have hs1_0 : Hid (szD (.l l1_0 1 cs1_0) ≤ 1048576) := by show _ ≤ _; rw [HZ1_0.out]; omega
  have hs1_1 : Hid (szD (.l l1_1 1 cs1_1) ≤ 1048576) := by show _ ≤ _; rw [HZ1_1.out]; omega
  have hs1_2 : Hid (szD (.l l1_2 1 cs1_2) ≤ 1048576) := by show _ ≤ _; rw [HZ1_2.out]; omega
  have HS : Hid (SpecTells l0 cs0 l1_0 cs1_0 l1_1 cs1_1 l1_2 cs1_2 x2 x3 lr0_0 csr0_0 lr0_1 csr0_1 lr0_2 csr0_2 xr1) := Hs.out hs0.out hs1_0.out hs1_1.out hs1_2.out
  have HI : Hid (ImplTells l0 cs0 l1_0 cs1_0 l1_1 cs1_1 l1_2 cs1_2 x2 x3 lr0_0 csr0_0 lr0_1 csr0_1 lr0_2 csr0_2 xr1) := Hi.out hs0.out hs1_0.out hs1_1.out hs1_2.out
  clear Hs Hi
  have blP1 : w.heap.size < w2.heap.size := BXP1_2.out.lt
  have bcP1_0 : w2.cell? ⟨w.heap.size, 0, none⟩ = some (.slice a1_0 l1_0 cap1_0) := BXP1_2.out.cell (i := 0) (by decide)
  have bcP1_1 : w2.cell? ⟨w.heap.size, 1, none⟩ = some (.slice a1_1 l1_1 cap1_1) := BXP1_2.out.cell (i := 1) (by decide)
  have bcP1_2 : w2.cell? ⟨w.heap.size, 2, none⟩ = some (.slice a1_2 l1_2 cap1_2) := BXP1_2.out.cell (i := 2) (by decide)
  go_wp2_with fail
  clear blP1 bcP1_0 bcP1_1 bcP1_2
  have RR2 : Hid (∀ w', Below w2.heap.size w2 w' → (w'.cell? ⟨w.heap.size, 0, none⟩ = some (.slice a1_0 l1_0 cap1_0) ∧ w'.cell? ⟨w.heap.size, 1, none⟩ = some (.slice a1_1 l1_1 cap1_1) ∧ w'.cell? ⟨w.heap.size, 2, none⟩ = some (.slice a1_2 l1_2 cap1_2))) := fun w' q => ⟨(BXP1_2.out.of_block (q.block _ BXP1_2.out.lt)).cell (i := 0)  (by decide), (BXP1_2.out.of_block (q.block _ BXP1_2.out.lt)).cell (i := 1)  (by decide), (BXP1_2.out.of_block (q.block _ BXP1_2.out.lt)).cell (i := 2)  (by decide)⟩
  go_cut [10, 11] (fun v0 v1 wx => ∃ gb sa0_0 sc0_0 sa0_1 sc0_1 sa0_2 sc0_2, v0 = .pointer (some ⟨gb, 0, none⟩) ∧ v1 = .bool xr1 ∧ Hid (Below w2.heap.size w2 wx) ∧ Hid (wx.rowIs gb 39 3 (rowF [.slice sa0_0 lr0_0 sc0_0, .slice sa0_1 lr0_1 sc0_1, .slice sa0_2 lr0_2 sc0_2])) ∧ Hid (Holds wx false (.l lr0_0 1 csr0_0) (.slice sa0_0 lr0_0 sc0_0)) ∧ Hid (Holds wx false (.l lr0_1 1 csr0_1) (.slice sa0_1 lr0_1 sc0_1)) ∧ Hid (Holds wx false (.l lr0_2 1 csr0_2) (.slice sa0_2 lr0_2 sc0_2)))
  case first =>
    have hD : Hid (Below w2.heap.size w2 w2.drew) := (Below.refl _ _).drew
    have qs0 := RR2.out _ (Below.refl w2.heap.size w2)
    have qd0 := RR2.out _ hD.out
    go_region_held3 (fun w' => (w'.cell? ⟨w.heap.size, 0, none⟩ = some (.slice a1_0 l1_0 cap1_0) ∧ w'.cell? ⟨w.heap.size, 1, none⟩ = some (.slice a1_1 l1_1 cap1_1) ∧ w'.cell? ⟨w.heap.size, 2, none⟩ = some (.slice a1_2 l1_2 cap1_2))) (first | exact qs0 | exact qd0 | with_reducible exact RR2.out _ BI1.out | with_reducible exact RR2.out _ BI2.out | with_reducible exact RR2.out _ BI3.out | exact RR2.out _ (hD.out.alloc hD.out.size _) | with_reducible exact RR2.out _ (BI1.out.alloc BI1.out.size _) | with_reducible exact RR2.out _ (BI2.out.alloc BI2.out.size _) | with_reducible exact RR2.out _ (BI3.out.alloc BI3.out.size _) | exact RR2.out _ (below_put BI3.out (by first | exact Nat.le_refl _ | exact BI1.out.size | exact BI2.out.size) _ _ _)) (first
      | (go_at_call 10; go_fit (SStepS_to _ _ _ cs0 false (w2.drew.alloc (.cells #[.slice none 0 0, .slice none 0 0, .slice none 0 0] 39)) hf0 hs0 (h0.out.kept (BW2.out.trans ((hD.out.alloc hD.out.size _).mono BW2.out.size)))); rintro e Au1 ⟨rfl, hO, hB⟩; have BI1 : Hid (Below w2.heap.size w2 Au1) := (hD.out.alloc hD.out.size _).trans (hB.mono (hD.out.alloc hD.out.size _).size); have RB1 : Hid (World.rowIs Au1 w2.heap.size 39 3 (rowF [.slice none 0 0, .slice none 0 0, .slice none 0 0])) := (row_of (w2.drew) #[.slice none 0 0, .slice none 0 0, .slice none 0 0] 39).of_block (hB.block _ (row_of (w2.drew) #[.slice none 0 0, .slice none 0 0, .slice none 0 0] 39).lt); obtain ⟨Ag0, Ae0⟩ : ∃ q, q = (w2.drew.alloc (.cells #[.slice none 0 0, .slice none 0 0, .slice none 0 0] 39)).heap.size := ⟨_, rfl⟩; rw [← Ae0] at hO ⊢; have A0_1 : Hid (Holds Au1 true (.l l0 2 cs0) (.slice (some ⟨Ag0, 0, none⟩) l0 l0)) := hO.holds; clear hO Ae0; clear hB)
      | (go_at_call 10; go_fit (SStepS_to _ _ _ cs0 false w2.drew hf0 hs0 (h0.out.kept (BW2.out.trans (hD.out.mono BW2.out.size)))); rintro e Au1 ⟨rfl, hO, hB⟩; have BI1 : Hid (Below w2.heap.size w2 Au1) := hD.out.trans (hB.mono hD.out.size); obtain ⟨Ag0, Ae0⟩ : ∃ q, q = w2.drew.heap.size := ⟨_, rfl⟩; rw [← Ae0] at hO ⊢; have A0_1 : Hid (Holds Au1 true (.l l0 2 cs0) (.slice (some ⟨Ag0, 0, none⟩) l0 l0)) := hO.holds; clear hO Ae0; clear hB)
      | (go_at_call 21; go_fit (Frame_to _ _ _ cs1_0 _ _ _ cs1_1 _ _ _ cs1_2 false (Au1.alloc (.cells #[.slice none 0 0, .slice none 0 0, .slice none 0 0] 39)) hf1_0 hs1_0 (h1_0.out.kept (BW2.out.trans ((BI1.out.alloc BI1.out.size _).mono BW2.out.size))) hf1_1 hs1_1 (h1_1.out.kept (BW2.out.trans ((BI1.out.alloc BI1.out.size _).mono BW2.out.size))) hf1_2 hs1_2 (h1_2.out.kept (BW2.out.trans ((BI1.out.alloc BI1.out.size _).mono BW2.out.size)))); rintro e Au2 ⟨Ag1_0, Ag1_1, Ag1_2, Aq1_1, Aq1_2, rfl, hO1_0, hO1_1, hO1_2, hle0, hle1, hle2, hB⟩; have BI2 : Hid (Below w2.heap.size w2 Au2) := (BI1.out.alloc BI1.out.size _).trans (hB.mono (BI1.out.alloc BI1.out.size _).size); have RB2 : Hid (World.rowIs Au2 Au1.heap.size 39 3 (rowF [.slice none 0 0, .slice none 0 0, .slice none 0 0])) := (row_of (Au1) #[.slice none 0 0, .slice none 0 0, .slice none 0 0] 39).of_block (hB.block _ (row_of (Au1) #[.slice none 0 0, .slice none 0 0, .slice none 0 0] 39).lt); have A1_0_2 : Hid (Holds Au2 true (.l l1_0 1 cs1_0) (.slice (some ⟨Ag1_0, 0, none⟩) l1_0 l1_0)) := hO1_0.holds; have A1_1_2 : Hid (Holds Au2 true (.l l1_1 1 cs1_1) (.slice (some ⟨Ag1_1, 0, none⟩) l1_1 l1_1)) := hO1_1.holds; have A1_2_2 : Hid (Holds Au2 true (.l l1_2 1 cs1_2) (.slice (some ⟨Ag1_2, 0, none⟩) l1_2 l1_2)) := hO1_2.holds; clear hO1_0 hO1_1 hO1_2 hle0 hle1 hle2; have A0_2 : Hid (Holds Au2 true (.l l0 2 cs0) _) := ((A0_1.out).kept ((Below.refl _ _).alloc (Nat.le_refl _) _)).kept hB; clear hB)
      | (go_at_call 21; go_fit (Frame_to _ _ _ cs1_0 _ _ _ cs1_1 _ _ _ cs1_2 false Au1 hf1_0 hs1_0 (h1_0.out.kept (BW2.out.trans (BI1.out.mono BW2.out.size))) hf1_1 hs1_1 (h1_1.out.kept (BW2.out.trans (BI1.out.mono BW2.out.size))) hf1_2 hs1_2 (h1_2.out.kept (BW2.out.trans (BI1.out.mono BW2.out.size)))); rintro e Au2 ⟨Ag1_0, Ag1_1, Ag1_2, Aq1_1, Aq1_2, rfl, hO1_0, hO1_1, hO1_2, hle0, hle1, hle2, hB⟩; have BI2 : Hid (Below w2.heap.size w2 Au2) := BI1.out.trans (hB.mono BI1.out.size); (try (have RB2 : Hid (World.rowIs Au2 _ 39 3 (rowF [.slice none 0 0, .slice none 0 0, .slice none 0 0])) := RB1.out.of_block (hB.block _ RB1.out.lt))); have A1_0_2 : Hid (Holds Au2 true (.l l1_0 1 cs1_0) (.slice (some ⟨Ag1_0, 0, none⟩) l1_0 l1_0)) := hO1_0.holds; have A1_1_2 : Hid (Holds Au2 true (.l l1_1 1 cs1_1) (.slice (some ⟨Ag1_1, 0, none⟩) l1_1 l1_1)) := hO1_1.holds; have A1_2_2 : Hid (Holds Au2 true (.l l1_2 1 cs1_2) (.slice (some ⟨Ag1_2, 0, none⟩) l1_2 l1_2)) := hO1_2.holds; clear hO1_0 hO1_1 hO1_2 hle0 hle1 hle2; have A0_2 : Hid (Holds Au2 true (.l l0 2 cs0) _) := (A0_1.out).kept hB; clear hB)
      | (go_at_call 24; go_fit (HS.out (Au2.alloc (.cells #[.slice none 0 0, .slice none 0 0, .slice none 0 0] 39)) _ _ _ _ _ _ _ _ (A0_2.out.kept ((Below.refl _ _).alloc (Nat.le_refl _) _)) (A1_0_2.out.kept ((Below.refl _ _).alloc (Nat.le_refl _) _)) (A1_1_2.out.kept ((Below.refl _ _).alloc (Nat.le_refl _) _)) (A1_2_2.out.kept ((Below.refl _ _).alloc (Nat.le_refl _) _))); rintro e Au3 ⟨sa0_0, sc0_0, sa0_1, sc0_1, sa0_2, sc0_2, sP0_0, sP0_1, sP0_2, rfl, hO0_0, hF0_0, hO0_1, hF0_1, hO0_2, hF0_2, hD0_00_1, hD0_00_2, hD0_10_2, hB⟩; have BI3 : Hid (Below w2.heap.size w2 Au3) := (BI2.out.alloc BI2.out.size _).trans (hB.mono (BI2.out.alloc BI2.out.size _).size); have RB3 : Hid (World.rowIs Au3 Au2.heap.size 39 3 (rowF [.slice none 0 0, .slice none 0 0, .slice none 0 0])) := (row_of (Au2) #[.slice none 0 0, .slice none 0 0, .slice none 0 0] 39).of_block (hB.block _ (row_of (Au2) #[.slice none 0 0, .slice none 0 0, .slice none 0 0] 39).lt); have NF0_0 : Hid _ := nf_of (row_of (Au2) #[.slice none 0 0, .slice none 0 0, .slice none 0 0] 39) hF0_0; have NF0_1 : Hid _ := nf_of (row_of (Au2) #[.slice none 0 0, .slice none 0 0, .slice none 0 0] 39) hF0_1; have NF0_2 : Hid _ := nf_of (row_of (Au2) #[.slice none 0 0, .slice none 0 0, .slice none 0 0] 39) hF0_2; have OC0_0 : Hid (Owns Au3 false _ (.l lr0_0 1 csr0_0) (.slice sa0_0 lr0_0 sc0_0) sP0_0) := hO0_0; clear hO0_0 hF0_0; have OC0_1 : Hid (Owns Au3 false _ (.l lr0_1 1 csr0_1) (.slice sa0_1 lr0_1 sc0_1) sP0_1) := hO0_1; clear hO0_1 hF0_1; have OC0_2 : Hid (Owns Au3 false _ (.l lr0_2 1 csr0_2) (.slice sa0_2 lr0_2 sc0_2) sP0_2) := hO0_2; clear hO0_2 hF0_2; clear hD0_00_1; clear hD0_00_2; clear hD0_10_2; have kb := RB3.out; have kc0 : World.cell? Au3 ⟨_, 0, none⟩ = some (.slice none 0 0) := kb.cell (i := 0) (by decide); have kf0 := kb.frozen 0; have kc1 : World.cell? Au3 ⟨_, 1, none⟩ = some (.slice none 0 0) := kb.cell (i := 1) (by decide); have kf1 := kb.frozen 1; have kc2 : World.cell? Au3 ⟨_, 2, none⟩ = some (.slice none 0 0) := kb.cell (i := 2) (by decide); have kf2 := kb.frozen 2; have kl := kb.lt; clear kb; clear hB)
      | (go_at_call 24; go_fit (HS.out Au2 _ _ _ _ _ _ _ _ A0_2 A1_0_2 A1_1_2 A1_2_2); rintro e Au3 ⟨sa0_0, sc0_0, sa0_1, sc0_1, sa0_2, sc0_2, sP0_0, sP0_1, sP0_2, rfl, hO0_0, hF0_0, hO0_1, hF0_1, hO0_2, hF0_2, hD0_00_1, hD0_00_2, hD0_10_2, hB⟩; have BI3 : Hid (Below w2.heap.size w2 Au3) := BI2.out.trans (hB.mono BI2.out.size); (try (have RB3 : Hid (World.rowIs Au3 _ 39 3 (rowF [.slice none 0 0, .slice none 0 0, .slice none 0 0])) := RB2.out.of_block (hB.block _ RB2.out.lt))); (try (have NF0_0 : Hid _ := nf_of RB2.out hF0_0; have NF0_1 : Hid _ := nf_of RB2.out hF0_1; have NF0_2 : Hid _ := nf_of RB2.out hF0_2)); have OC0_0 : Hid (Owns Au3 false _ (.l lr0_0 1 csr0_0) (.slice sa0_0 lr0_0 sc0_0) sP0_0) := hO0_0; clear hO0_0 hF0_0; have OC0_1 : Hid (Owns Au3 false _ (.l lr0_1 1 csr0_1) (.slice sa0_1 lr0_1 sc0_1) sP0_1) := hO0_1; clear hO0_1 hF0_1; have OC0_2 : Hid (Owns Au3 false _ (.l lr0_2 1 csr0_2) (.slice sa0_2 lr0_2 sc0_2) sP0_2) := hO0_2; clear hO0_2 hF0_2; clear hD0_00_1; clear hD0_00_2; clear hD0_10_2; (try (have kb := RB3.out; have kc0 : World.cell? Au3 ⟨_, 0, none⟩ = some (.slice none 0 0) := kb.cell (i := 0) (by decide); have kf0 := kb.frozen 0; have kc1 : World.cell? Au3 ⟨_, 1, none⟩ = some (.slice none 0 0) := kb.cell (i := 1) (by decide); have kf1 := kb.frozen 1; have kc2 : World.cell? Au3 ⟨_, 2, none⟩ = some (.slice none 0 0) := kb.cell (i := 2) (by decide); have kf2 := kb.frozen 2; have kl := kb.lt; clear kb)); clear hB))
    all_goals (go_wp2_with fail; go_meet; first
      | exact ⟨_, sa0_0, sc0_0, sa0_1, sc0_1, sa0_2, sc0_2, rfl, rfl, BI3.out.alloc BI3.out.size _, row_of Au3 #[.slice sa0_0 lr0_0 sc0_0, .slice sa0_1 lr0_1 sc0_1, .slice sa0_2 lr0_2 sc0_2] 39, (OC0_0.out.kept ((Below.refl _ _).alloc (Nat.le_refl _) _)).holds, (OC0_1.out.kept ((Below.refl _ _).alloc (Nat.le_refl _) _)).holds, (OC0_2.out.kept ((Below.refl _ _).alloc (Nat.le_refl _) _)).holds⟩
      | exact ⟨_, sa0_0, sc0_0, sa0_1, sc0_1, sa0_2, sc0_2, rfl, rfl, below_put BI3.out (by first | exact Nat.le_refl _ | exact BI1.out.size | exact BI2.out.size) _ _ _, row_put RB3.out _ _ _, (owns_put OC0_0.out NF0_0.out _ _ _).holds, (owns_put OC0_1.out NF0_1.out _ _ _).holds, (owns_put OC0_2.out NF0_2.out _ _ _).holds⟩)
  obtain ⟨gbs, sa0_0, sc0_0, sa0_1, sc0_1, sa0_2, sc0_2, rfl, rfl, hB, hRW, hH0_0, hH0_1, hH0_2⟩ := hcut
  obtain ⟨w3, ewc⟩ : ∃ q, q = wc := ⟨_, rfl⟩
  subst ewc
  have hB : Below w2.heap.size w2 w3 := hB
  have BW3 : Hid (Below w.heap.size w w3) := BW2.out.trans (hB.mono BW2.out.size)
  have SZ3 : Hid (w2.heap.size ≤ w3.heap.size) := hB.size
  have BXP1_3 : Hid (w3.rowIs (w.heap.size) 36 3 (rowF [.slice a1_0 l1_0 cap1_0, .slice a1_1 l1_1 cap1_1, .slice a1_2 l1_2 cap1_2])) := BXP1_2.out.of_block (hB.block _ BXP1_2.out.lt)
  have BXS0_3 : Hid (w3.rowIs (gbs) 39 3 (rowF [.slice sa0_0 lr0_0 sc0_0, .slice sa0_1 lr0_1 sc0_1, .slice sa0_2 lr0_2 sc0_2])) := hRW
  have LTS0 : Hid (gbs < w3.heap.size) := BXS0_3.out.lt
  have S0_0 : Hid (Holds w3 false (.l lr0_0 1 csr0_0) (.slice sa0_0 lr0_0 sc0_0)) := hH0_0
  have S0_1 : Hid (Holds w3 false (.l lr0_1 1 csr0_1) (.slice sa0_1 lr0_1 sc0_1)) := hH0_1
  have S0_2 : Hid (Holds w3 false (.l lr0_2 1 csr0_2) (.slice sa0_2 lr0_2 sc0_2)) := hH0_2
  clear hB hRW RR2 hH0_0 hH0_1 hH0_2
  have blP1 : w.heap.size < w3.heap.size := BXP1_3.out.lt
  have bcP1_0 : w3.cell? ⟨w.heap.size, 0, none⟩ = some (.slice a1_0 l1_0 cap1_0) := BXP1_3.out.cell (i := 0) (by decide)
  have bcP1_1 : w3.cell? ⟨w.heap.size, 1, none⟩ = some (.slice a1_1 l1_1 cap1_1) := BXP1_3.out.cell (i := 1) (by decide)
  have bcP1_2 : w3.cell? ⟨w.heap.size, 2, none⟩ = some (.slice a1_2 l1_2 cap1_2) := BXP1_3.out.cell (i := 2) (by decide)
  have blS0 : gbs < w3.heap.size := BXS0_3.out.lt
  have bcS0_0 : w3.cell? ⟨gbs, 0, none⟩ = some (.slice sa0_0 lr0_0 sc0_0) := BXS0_3.out.cell (i := 0) (by decide)
  have bcS0_1 : w3.cell? ⟨gbs, 1, none⟩ = some (.slice sa0_1 lr0_1 sc0_1) := BXS0_3.out.cell (i := 1) (by decide)
  have bcS0_2 : w3.cell? ⟨gbs, 2, none⟩ = some (.slice sa0_2 lr0_2 sc0_2) := BXS0_3.out.cell (i := 2) (by decide)
  go_wp2_with fail
  clear blP1 bcP1_0 bcP1_1 bcP1_2 blS0 bcS0_0 bcS0_1 bcS0_2
  refine (SStepS_to _ _ _ cs0 false _ hf0 hs0 (h0.out.kept BW3.out)).mono ?_
  rintro e w4 ⟨rfl, hO, hB⟩
  have X0_4 : Hid (Owns w4 true w3.heap.size (.l l0 2 cs0) (.slice (some ⟨w3.heap.size, 0, none⟩) l0 l0) (rng w3.heap.size w4.heap.size)) := hO
  have BW4 : Hid (Below w.heap.size w w4) := BW3.out.trans (hB.mono BW3.out.size)
  have SZ4 : Hid (w3.heap.size ≤ w4.heap.size) := hB.size
  have BS4 : Hid (Below w3.heap.size w3 w4) := hB
  have BXP1_4 : Hid (w4.rowIs (w.heap.size) 36 3 (rowF [.slice a1_0 l1_0 cap1_0, .slice a1_1 l1_1 cap1_1, .slice a1_2 l1_2 cap1_2])) := BXP1_3.out.of_block (hB.block _ BXP1_3.out.lt)
  have BXS0_4 : Hid (w4.rowIs (gbs) 39 3 (rowF [.slice sa0_0 lr0_0 sc0_0, .slice sa0_1 lr0_1 sc0_1, .slice sa0_2 lr0_2 sc0_2])) := BXS0_3.out.of_block (hB.block _ BXS0_3.out.lt)
  clear hO hB
  have blP1 : w.heap.size < w4.heap.size := BXP1_4.out.lt
  have bcP1_0 : w4.cell? ⟨w.heap.size, 0, none⟩ = some (.slice a1_0 l1_0 cap1_0) := BXP1_4.out.cell (i := 0) (by decide)
  have bcP1_1 : w4.cell? ⟨w.heap.size, 1, none⟩ = some (.slice a1_1 l1_1 cap1_1) := BXP1_4.out.cell (i := 1) (by decide)
  have bcP1_2 : w4.cell? ⟨w.heap.size, 2, none⟩ = some (.slice a1_2 l1_2 cap1_2) := BXP1_4.out.cell (i := 2) (by decide)
  have blS0 : gbs < w4.heap.size := BXS0_4.out.lt
  have bcS0_0 : w4.cell? ⟨gbs, 0, none⟩ = some (.slice sa0_0 lr0_0 sc0_0) := BXS0_4.out.cell (i := 0) (by decide)
  have bcS0_1 : w4.cell? ⟨gbs, 1, none⟩ = some (.slice sa0_1 lr0_1 sc0_1) := BXS0_4.out.cell (i := 1) (by decide)
  have bcS0_2 : w4.cell? ⟨gbs, 2, none⟩ = some (.slice sa0_2 lr0_2 sc0_2) := BXS0_4.out.cell (i := 2) (by decide)
  go_wp2_with fail
  clear blP1 bcP1_0 bcP1_1 bcP1_2 blS0 bcS0_0 bcS0_1 bcS0_2
  refine (Frame_to _ _ _ cs1_0 _ _ _ cs1_1 _ _ _ cs1_2 false _ hf1_0 hs1_0 (h1_0.out.kept BW4.out) hf1_1 hs1_1 (h1_1.out.kept BW4.out) hf1_2 hs1_2 (h1_2.out.kept BW4.out)).mono ?_
  rintro e w5 ⟨Xg1_0, Xg1_1, Xg1_2, Xp1_1, Xp1_2, rfl, hO1_0, hO1_1, hO1_2, hle0, hle1, hle2, hB⟩
  have X1_0_5 : Hid (Owns w5 true w4.heap.size (.l l1_0 1 cs1_0) (.slice (some ⟨Xg1_0, 0, none⟩) l1_0 l1_0) (rng w4.heap.size Xp1_1)) := hO1_0
  have X1_1_5 : Hid (Owns w5 true w4.heap.size (.l l1_1 1 cs1_1) (.slice (some ⟨Xg1_1, 0, none⟩) l1_1 l1_1) (rng Xp1_1 Xp1_2)) := hO1_1
  have X1_2_5 : Hid (Owns w5 true w4.heap.size (.l l1_2 1 cs1_2) (.slice (some ⟨Xg1_2, 0, none⟩) l1_2 l1_2) (rng Xp1_2 w5.heap.size)) := hO1_2
  have BW5 : Hid (Below w.heap.size w w5) := BW4.out.trans (hB.mono BW4.out.size)
  have SZ5 : Hid (w4.heap.size ≤ w5.heap.size) := hB.size
  have BS5 : Hid (Below w3.heap.size w3 w5) := BS4.out.trans (hB.mono BS4.out.size)
  have X0_5 : Hid (Owns w5 true w3.heap.size (.l l0 2 cs0) (.slice (some ⟨w3.heap.size, 0, none⟩) l0 l0) (rng w3.heap.size w4.heap.size)) := X0_4.out.kept hB
  have BXP1_5 : Hid (w5.rowIs (w.heap.size) 36 3 (rowF [.slice a1_0 l1_0 cap1_0, .slice a1_1 l1_1 cap1_1, .slice a1_2 l1_2 cap1_2])) := BXP1_4.out.of_block (hB.block _ BXP1_4.out.lt)
  have BXS0_5 : Hid (w5.rowIs (gbs) 39 3 (rowF [.slice sa0_0 lr0_0 sc0_0, .slice sa0_1 lr0_1 sc0_1, .slice sa0_2 lr0_2 sc0_2])) := BXS0_4.out.of_block (hB.block _ BXS0_4.out.lt)
  clear hB hO1_0 hO1_1 hO1_2
  have Xle1_0 : Hid (w4.heap.size ≤ Xp1_1) := hle0
  clear hle0
  have Xle1_1 : Hid (Xp1_1 ≤ Xp1_2) := hle1
  clear hle1
  have Xle1_2 : Hid (Xp1_2 ≤ w5.heap.size) := hle2
  clear hle2
  have blP1 : w.heap.size < w5.heap.size := BXP1_5.out.lt
  have bcP1_0 : w5.cell? ⟨w.heap.size, 0, none⟩ = some (.slice a1_0 l1_0 cap1_0) := BXP1_5.out.cell (i := 0) (by decide)
  have bcP1_1 : w5.cell? ⟨w.heap.size, 1, none⟩ = some (.slice a1_1 l1_1 cap1_1) := BXP1_5.out.cell (i := 1) (by decide)
  have bcP1_2 : w5.cell? ⟨w.heap.size, 2, none⟩ = some (.slice a1_2 l1_2 cap1_2) := BXP1_5.out.cell (i := 2) (by decide)
  have blS0 : gbs < w5.heap.size := BXS0_5.out.lt
  have bcS0_0 : w5.cell? ⟨gbs, 0, none⟩ = some (.slice sa0_0 lr0_0 sc0_0) := BXS0_5.out.cell (i := 0) (by decide)
  have bcS0_1 : w5.cell? ⟨gbs, 1, none⟩ = some (.slice sa0_1 lr0_1 sc0_1) := BXS0_5.out.cell (i := 1) (by decide)
  have bcS0_2 : w5.cell? ⟨gbs, 2, none⟩ = some (.slice sa0_2 lr0_2 sc0_2) := BXS0_5.out.cell (i := 2) (by decide)
  go_wp2_with fail
  clear blP1 bcP1_0 bcP1_1 bcP1_2 blS0 bcS0_0 bcS0_1 bcS0_2
  obtain ⟨w6, EWw6⟩ : ∃ X, X = w5.alloc (.cells #[.slice (some ⟨Xg1_0, 0, none⟩) l1_0 l1_0, .slice (some ⟨Xg1_1, 0, none⟩) l1_1 l1_1, .slice (some ⟨Xg1_2, 0, none⟩) l1_2 l1_2] 39) := ⟨_, rfl⟩
  rw [← EWw6]
  have hB : Below w5.heap.size w5 w6 := by rw [EWw6]; exact (Below.refl _ _).alloc (Nat.le_refl _) _
  have ESw6 : w6.heap.size = w5.heap.size + 1 := by rw [EWw6]; simp
  have BXX1_6 : Hid (w6.rowIs (w5.heap.size) 39 3 (rowF [.slice (some ⟨Xg1_0, 0, none⟩) l1_0 l1_0, .slice (some ⟨Xg1_1, 0, none⟩) l1_1 l1_1, .slice (some ⟨Xg1_2, 0, none⟩) l1_2 l1_2])) := by
    have q := row_of w5 #[.slice (some ⟨Xg1_0, 0, none⟩) l1_0 l1_0, .slice (some ⟨Xg1_1, 0, none⟩) l1_1 l1_1, .slice (some ⟨Xg1_2, 0, none⟩) l1_2 l1_2] 39
    rw [EWw6]; exact q
  have LTX1 : Hid (w5.heap.size < w6.heap.size) := BXX1_6.out.lt
  have ADX1 : Hid (w5.heap.size = w5.heap.size) := by show _ = _; rfl
  have BW6 : Hid (Below w.heap.size w w6) := BW5.out.trans (hB.mono BW5.out.size)
  have SZ6 : Hid (w5.heap.size ≤ w6.heap.size) := hB.size
  have BS6 : Hid (Below w3.heap.size w3 w6) := BS5.out.trans (hB.mono BS5.out.size)
  have X0_6 : Hid (Owns w6 true w3.heap.size (.l l0 2 cs0) (.slice (some ⟨w3.heap.size, 0, none⟩) l0 l0) (rng w3.heap.size w4.heap.size)) := X0_5.out.kept hB
  have X1_0_6 : Hid (Owns w6 true w4.heap.size (.l l1_0 1 cs1_0) (.slice (some ⟨Xg1_0, 0, none⟩) l1_0 l1_0) (rng w4.heap.size Xp1_1)) := X1_0_5.out.kept hB
  have X1_1_6 : Hid (Owns w6 true w4.heap.size (.l l1_1 1 cs1_1) (.slice (some ⟨Xg1_1, 0, none⟩) l1_1 l1_1) (rng Xp1_1 Xp1_2)) := X1_1_5.out.kept hB
  have X1_2_6 : Hid (Owns w6 true w4.heap.size (.l l1_2 1 cs1_2) (.slice (some ⟨Xg1_2, 0, none⟩) l1_2 l1_2) (rng Xp1_2 w5.heap.size)) := X1_2_5.out.kept hB
  have BXP1_6 : Hid (w6.rowIs (w.heap.size) 36 3 (rowF [.slice a1_0 l1_0 cap1_0, .slice a1_1 l1_1 cap1_1, .slice a1_2 l1_2 cap1_2])) := BXP1_5.out.of_block (hB.block _ BXP1_5.out.lt)
  have BXS0_6 : Hid (w6.rowIs (gbs) 39 3 (rowF [.slice sa0_0 lr0_0 sc0_0, .slice sa0_1 lr0_1 sc0_1, .slice sa0_2 lr0_2 sc0_2])) := BXS0_5.out.of_block (hB.block _ BXS0_5.out.lt)
  clear hB EWw6
  clear ESw6
  refine (HI.out _ _ _ _ _ _ _ _ _ X0_6.out.holds X1_0_6.out.holds X1_1_6.out.holds X1_2_6.out.holds).mono ?_
  rintro e w7 ⟨ga0_0, gc0_0, ga0_1, gc0_1, ga0_2, gc0_2, gP0_0, gP0_1, gP0_2, rfl, hO0_0, hF0_0, hO0_1, hF0_1, hO0_2, hF0_2, hD0_00_1, hD0_00_2, hD0_10_2, hB⟩
  have G0_0_7 : Hid (Owns w7 false w6.heap.size (.l lr0_0 1 csr0_0) (.slice ga0_0 lr0_0 gc0_0) gP0_0) := hO0_0
  have GF0_0 : Hid (∀ x, gP0_0 x → w6.heap.size ≤ x ∧ x < w7.heap.size) := hF0_0
  have G0_1_7 : Hid (Owns w7 false w6.heap.size (.l lr0_1 1 csr0_1) (.slice ga0_1 lr0_1 gc0_1) gP0_1) := hO0_1
  have GF0_1 : Hid (∀ x, gP0_1 x → w6.heap.size ≤ x ∧ x < w7.heap.size) := hF0_1
  have G0_2_7 : Hid (Owns w7 false w6.heap.size (.l lr0_2 1 csr0_2) (.slice ga0_2 lr0_2 gc0_2) gP0_2) := hO0_2
  have GF0_2 : Hid (∀ x, gP0_2 x → w6.heap.size ≤ x ∧ x < w7.heap.size) := hF0_2
  have GD0_00_1 : Hid (∀ x, gP0_0 x → ¬ gP0_1 x) := hD0_00_1
  have GD0_00_2 : Hid (∀ x, gP0_0 x → ¬ gP0_2 x) := hD0_00_2
  have GD0_10_2 : Hid (∀ x, gP0_1 x → ¬ gP0_2 x) := hD0_10_2
  have BW7 : Hid (Below w.heap.size w w7) := BW6.out.trans (hB.mono BW6.out.size)
  have SZ7 : Hid (w6.heap.size ≤ w7.heap.size) := hB.size
  have BS7 : Hid (Below w3.heap.size w3 w7) := BS6.out.trans (hB.mono BS6.out.size)
  have X0_7 : Hid (Owns w7 true w3.heap.size (.l l0 2 cs0) (.slice (some ⟨w3.heap.size, 0, none⟩) l0 l0) (rng w3.heap.size w4.heap.size)) := X0_6.out.kept hB
  have X1_0_7 : Hid (Owns w7 true w4.heap.size (.l l1_0 1 cs1_0) (.slice (some ⟨Xg1_0, 0, none⟩) l1_0 l1_0) (rng w4.heap.size Xp1_1)) := X1_0_6.out.kept hB
  have X1_1_7 : Hid (Owns w7 true w4.heap.size (.l l1_1 1 cs1_1) (.slice (some ⟨Xg1_1, 0, none⟩) l1_1 l1_1) (rng Xp1_1 Xp1_2)) := X1_1_6.out.kept hB
  have X1_2_7 : Hid (Owns w7 true w4.heap.size (.l l1_2 1 cs1_2) (.slice (some ⟨Xg1_2, 0, none⟩) l1_2 l1_2) (rng Xp1_2 w5.heap.size)) := X1_2_6.out.kept hB
  have BXP1_7 : Hid (w7.rowIs (w.heap.size) 36 3 (rowF [.slice a1_0 l1_0 cap1_0, .slice a1_1 l1_1 cap1_1, .slice a1_2 l1_2 cap1_2])) := BXP1_6.out.of_block (hB.block _ BXP1_6.out.lt)
  have BXS0_7 : Hid (w7.rowIs (gbs) 39 3 (rowF [.slice sa0_0 lr0_0 sc0_0, .slice sa0_1 lr0_1 sc0_1, .slice sa0_2 lr0_2 sc0_2])) := BXS0_6.out.of_block (hB.block _ BXS0_6.out.lt)
  have BXX1_7 : Hid (w7.rowIs (w5.heap.size) 39 3 (rowF [.slice (some ⟨Xg1_0, 0, none⟩) l1_0 l1_0, .slice (some ⟨Xg1_1, 0, none⟩) l1_1 l1_1, .slice (some ⟨Xg1_2, 0, none⟩) l1_2 l1_2])) := BXX1_6.out.of_block (hB.block _ BXX1_6.out.lt)
  clear hB hO0_0 hF0_0 hO0_1 hF0_1 hO0_2 hF0_2 hD0_00_1 hD0_00_2 hD0_10_2
  have blP1 : w.heap.size < w7.heap.size := BXP1_7.out.lt
  have bcP1_0 : w7.cell? ⟨w.heap.size, 0, none⟩ = some (.slice a1_0 l1_0 cap1_0) := BXP1_7.out.cell (i := 0) (by decide)
  have bcP1_1 : w7.cell? ⟨w.heap.size, 1, none⟩ = some (.slice a1_1 l1_1 cap1_1) := BXP1_7.out.cell (i := 1) (by decide)
  have bcP1_2 : w7.cell? ⟨w.heap.size, 2, none⟩ = some (.slice a1_2 l1_2 cap1_2) := BXP1_7.out.cell (i := 2) (by decide)
  have blS0 : gbs < w7.heap.size := BXS0_7.out.lt
  have bcS0_0 : w7.cell? ⟨gbs, 0, none⟩ = some (.slice sa0_0 lr0_0 sc0_0) := BXS0_7.out.cell (i := 0) (by decide)
  have bcS0_1 : w7.cell? ⟨gbs, 1, none⟩ = some (.slice sa0_1 lr0_1 sc0_1) := BXS0_7.out.cell (i := 1) (by decide)
  have bcS0_2 : w7.cell? ⟨gbs, 2, none⟩ = some (.slice sa0_2 lr0_2 sc0_2) := BXS0_7.out.cell (i := 2) (by decide)
  have blX1 : w5.heap.size < w7.heap.size := BXX1_7.out.lt
  have bcX1_0 : w7.cell? ⟨w5.heap.size, 0, none⟩ = some (.slice (some ⟨Xg1_0, 0, none⟩) l1_0 l1_0) := BXX1_7.out.cell (i := 0) (by decide)
  have bcX1_1 : w7.cell? ⟨w5.heap.size, 1, none⟩ = some (.slice (some ⟨Xg1_1, 0, none⟩) l1_1 l1_1) := BXX1_7.out.cell (i := 1) (by decide)
  have bcX1_2 : w7.cell? ⟨w5.heap.size, 2, none⟩ = some (.slice (some ⟨Xg1_2, 0, none⟩) l1_2 l1_2) := BXX1_7.out.cell (i := 2) (by decide)
  go_wp2_with fail
  clear blP1 bcP1_0 bcP1_1 bcP1_2 blS0 bcS0_0 bcS0_1 bcS0_2 blX1 bcX1_0 bcX1_1 bcX1_2
  obtain ⟨w8, EWw8⟩ : ∃ X, X = w7.alloc (.cells #[.slice ga0_0 lr0_0 gc0_0, .slice ga0_1 lr0_1 gc0_1, .slice ga0_2 lr0_2 gc0_2] 39) := ⟨_, rfl⟩
  rw [← EWw8]
  have hB : Below w7.heap.size w7 w8 := by rw [EWw8]; exact (Below.refl _ _).alloc (Nat.le_refl _) _
  have ESw8 : w8.heap.size = w7.heap.size + 1 := by rw [EWw8]; simp
  have BXG0_8 : Hid (w8.rowIs (w7.heap.size) 39 3 (rowF [.slice ga0_0 lr0_0 gc0_0, .slice ga0_1 lr0_1 gc0_1, .slice ga0_2 lr0_2 gc0_2])) := by
    have q := row_of w7 #[.slice ga0_0 lr0_0 gc0_0, .slice ga0_1 lr0_1 gc0_1, .slice ga0_2 lr0_2 gc0_2] 39
    rw [EWw8]; exact q
  have LTG0 : Hid (w7.heap.size < w8.heap.size) := BXG0_8.out.lt
  have ADG0 : Hid (w7.heap.size = w7.heap.size) := by show _ = _; rfl
  have BW8 : Hid (Below w.heap.size w w8) := BW7.out.trans (hB.mono BW7.out.size)
  have SZ8 : Hid (w7.heap.size ≤ w8.heap.size) := hB.size
  have BS8 : Hid (Below w3.heap.size w3 w8) := BS7.out.trans (hB.mono BS7.out.size)
  have X0_8 : Hid (Owns w8 true w3.heap.size (.l l0 2 cs0) (.slice (some ⟨w3.heap.size, 0, none⟩) l0 l0) (rng w3.heap.size w4.heap.size)) := X0_7.out.kept hB
  have X1_0_8 : Hid (Owns w8 true w4.heap.size (.l l1_0 1 cs1_0) (.slice (some ⟨Xg1_0, 0, none⟩) l1_0 l1_0) (rng w4.heap.size Xp1_1)) := X1_0_7.out.kept hB
  have X1_1_8 : Hid (Owns w8 true w4.heap.size (.l l1_1 1 cs1_1) (.slice (some ⟨Xg1_1, 0, none⟩) l1_1 l1_1) (rng Xp1_1 Xp1_2)) := X1_1_7.out.kept hB
  have X1_2_8 : Hid (Owns w8 true w4.heap.size (.l l1_2 1 cs1_2) (.slice (some ⟨Xg1_2, 0, none⟩) l1_2 l1_2) (rng Xp1_2 w5.heap.size)) := X1_2_7.out.kept hB
  have G0_0_8 : Hid (Owns w8 false w6.heap.size (.l lr0_0 1 csr0_0) (.slice ga0_0 lr0_0 gc0_0) gP0_0) := G0_0_7.out.kept hB
  have G0_1_8 : Hid (Owns w8 false w6.heap.size (.l lr0_1 1 csr0_1) (.slice ga0_1 lr0_1 gc0_1) gP0_1) := G0_1_7.out.kept hB
  have G0_2_8 : Hid (Owns w8 false w6.heap.size (.l lr0_2 1 csr0_2) (.slice ga0_2 lr0_2 gc0_2) gP0_2) := G0_2_7.out.kept hB
  have BXP1_8 : Hid (w8.rowIs (w.heap.size) 36 3 (rowF [.slice a1_0 l1_0 cap1_0, .slice a1_1 l1_1 cap1_1, .slice a1_2 l1_2 cap1_2])) := BXP1_7.out.of_block (hB.block _ BXP1_7.out.lt)
  have BXS0_8 : Hid (w8.rowIs (gbs) 39 3 (rowF [.slice sa0_0 lr0_0 sc0_0, .slice sa0_1 lr0_1 sc0_1, .slice sa0_2 lr0_2 sc0_2])) := BXS0_7.out.of_block (hB.block _ BXS0_7.out.lt)
  have BXX1_8 : Hid (w8.rowIs (w5.heap.size) 39 3 (rowF [.slice (some ⟨Xg1_0, 0, none⟩) l1_0 l1_0, .slice (some ⟨Xg1_1, 0, none⟩) l1_1 l1_1, .slice (some ⟨Xg1_2, 0, none⟩) l1_2 l1_2])) := BXX1_7.out.of_block (hB.block _ BXX1_7.out.lt)
  clear hB EWw8
  clear ESw8
  refine (Frame_eq _ _ _ csr0_0 _ _ _ csr0_1 _ _ _ csr0_2 _ _ _ _ _ _ _ _ _ hfr0_0 hsr0_0 G0_0_8.out.holds hfr0_1 hsr0_1 G0_1_8.out.holds hfr0_2 hsr0_2 G0_2_8.out.holds (S0_0.out.kept BS8.out) (S0_1.out.kept BS8.out) (S0_2.out.kept BS8.out)).mono ?_
  rintro e w9 ⟨rfl, hB⟩
  have BW9 : Hid (Below w.heap.size w w9) := BW8.out.trans (hB.mono BW8.out.size)
  have SZ9 : Hid (w8.heap.size ≤ w9.heap.size) := hB.size
  have BS9 : Hid (Below w3.heap.size w3 w9) := BS8.out.trans (hB.mono BS8.out.size)
  have X0_9 : Hid (Owns w9 true w3.heap.size (.l l0 2 cs0) (.slice (some ⟨w3.heap.size, 0, none⟩) l0 l0) (rng w3.heap.size w4.heap.size)) := X0_8.out.kept hB
  have X1_0_9 : Hid (Owns w9 true w4.heap.size (.l l1_0 1 cs1_0) (.slice (some ⟨Xg1_0, 0, none⟩) l1_0 l1_0) (rng w4.heap.size Xp1_1)) := X1_0_8.out.kept hB
  have X1_1_9 : Hid (Owns w9 true w4.heap.size (.l l1_1 1 cs1_1) (.slice (some ⟨Xg1_1, 0, none⟩) l1_1 l1_1) (rng Xp1_1 Xp1_2)) := X1_1_8.out.kept hB
  have X1_2_9 : Hid (Owns w9 true w4.heap.size (.l l1_2 1 cs1_2) (.slice (some ⟨Xg1_2, 0, none⟩) l1_2 l1_2) (rng Xp1_2 w5.heap.size)) := X1_2_8.out.kept hB
  have G0_0_9 : Hid (Owns w9 false w6.heap.size (.l lr0_0 1 csr0_0) (.slice ga0_0 lr0_0 gc0_0) gP0_0) := G0_0_8.out.kept hB
  have G0_1_9 : Hid (Owns w9 false w6.heap.size (.l lr0_1 1 csr0_1) (.slice ga0_1 lr0_1 gc0_1) gP0_1) := G0_1_8.out.kept hB
  have G0_2_9 : Hid (Owns w9 false w6.heap.size (.l lr0_2 1 csr0_2) (.slice ga0_2 lr0_2 gc0_2) gP0_2) := G0_2_8.out.kept hB
  have BXP1_9 : Hid (w9.rowIs (w.heap.size) 36 3 (rowF [.slice a1_0 l1_0 cap1_0, .slice a1_1 l1_1 cap1_1, .slice a1_2 l1_2 cap1_2])) := BXP1_8.out.of_block (hB.block _ BXP1_8.out.lt)
  have BXS0_9 : Hid (w9.rowIs (gbs) 39 3 (rowF [.slice sa0_0 lr0_0 sc0_0, .slice sa0_1 lr0_1 sc0_1, .slice sa0_2 lr0_2 sc0_2])) := BXS0_8.out.of_block (hB.block _ BXS0_8.out.lt)
  have BXX1_9 : Hid (w9.rowIs (w5.heap.size) 39 3 (rowF [.slice (some ⟨Xg1_0, 0, none⟩) l1_0 l1_0, .slice (some ⟨Xg1_1, 0, none⟩) l1_1 l1_1, .slice (some ⟨Xg1_2, 0, none⟩) l1_2 l1_2])) := BXX1_8.out.of_block (hB.block _ BXX1_8.out.lt)
  have BXG0_9 : Hid (w9.rowIs (w7.heap.size) 39 3 (rowF [.slice ga0_0 lr0_0 gc0_0, .slice ga0_1 lr0_1 gc0_1, .slice ga0_2 lr0_2 gc0_2])) := BXG0_8.out.of_block (hB.block _ BXG0_8.out.lt)
  clear hB
  have blP1 : w.heap.size < w9.heap.size := BXP1_9.out.lt
  have bcP1_0 : w9.cell? ⟨w.heap.size, 0, none⟩ = some (.slice a1_0 l1_0 cap1_0) := BXP1_9.out.cell (i := 0) (by decide)
  have bcP1_1 : w9.cell? ⟨w.heap.size, 1, none⟩ = some (.slice a1_1 l1_1 cap1_1) := BXP1_9.out.cell (i := 1) (by decide)
  have bcP1_2 : w9.cell? ⟨w.heap.size, 2, none⟩ = some (.slice a1_2 l1_2 cap1_2) := BXP1_9.out.cell (i := 2) (by decide)
  have blS0 : gbs < w9.heap.size := BXS0_9.out.lt
  have bcS0_0 : w9.cell? ⟨gbs, 0, none⟩ = some (.slice sa0_0 lr0_0 sc0_0) := BXS0_9.out.cell (i := 0) (by decide)
  have bcS0_1 : w9.cell? ⟨gbs, 1, none⟩ = some (.slice sa0_1 lr0_1 sc0_1) := BXS0_9.out.cell (i := 1) (by decide)
  have bcS0_2 : w9.cell? ⟨gbs, 2, none⟩ = some (.slice sa0_2 lr0_2 sc0_2) := BXS0_9.out.cell (i := 2) (by decide)
  have blX1 : w5.heap.size < w9.heap.size := BXX1_9.out.lt
  have bcX1_0 : w9.cell? ⟨w5.heap.size, 0, none⟩ = some (.slice (some ⟨Xg1_0, 0, none⟩) l1_0 l1_0) := BXX1_9.out.cell (i := 0) (by decide)
  have bcX1_1 : w9.cell? ⟨w5.heap.size, 1, none⟩ = some (.slice (some ⟨Xg1_1, 0, none⟩) l1_1 l1_1) := BXX1_9.out.cell (i := 1) (by decide)
  have bcX1_2 : w9.cell? ⟨w5.heap.size, 2, none⟩ = some (.slice (some ⟨Xg1_2, 0, none⟩) l1_2 l1_2) := BXX1_9.out.cell (i := 2) (by decide)
  have blG0 : w7.heap.size < w9.heap.size := BXG0_9.out.lt
  have bcG0_0 : w9.cell? ⟨w7.heap.size, 0, none⟩ = some (.slice ga0_0 lr0_0 gc0_0) := BXG0_9.out.cell (i := 0) (by decide)
  have bcG0_1 : w9.cell? ⟨w7.heap.size, 1, none⟩ = some (.slice ga0_1 lr0_1 gc0_1) := BXG0_9.out.cell (i := 1) (by decide)
  have bcG0_2 : w9.cell? ⟨w7.heap.size, 2, none⟩ = some (.slice ga0_2 lr0_2 gc0_2) := BXG0_9.out.cell (i := 2) (by decide)
  go_wp2_with fail
  clear blP1 bcP1_0 bcP1_1 bcP1_2 blS0 bcS0_0 bcS0_1 bcS0_2 blX1 bcX1_0 bcX1_1 bcX1_2 blG0 bcG0_0 bcG0_1 bcG0_2
  refine (SStepS_to _ _ _ cs0 false _ hf0 hs0 (h0.out.kept BW9.out)).mono ?_
  rintro e w10 ⟨rfl, hO, hB⟩
  have Z0_10 : Hid (Owns w10 true w9.heap.size (.l l0 2 cs0) (.slice (some ⟨w9.heap.size, 0, none⟩) l0 l0) (rng w9.heap.size w10.heap.size)) := hO
  have BW10 : Hid (Below w.heap.size w w10) := BW9.out.trans (hB.mono BW9.out.size)
  have SZ10 : Hid (w9.heap.size ≤ w10.heap.size) := hB.size
  have BS10 : Hid (Below w3.heap.size w3 w10) := BS9.out.trans (hB.mono BS9.out.size)
  have X0_10 : Hid (Owns w10 true w3.heap.size (.l l0 2 cs0) (.slice (some ⟨w3.heap.size, 0, none⟩) l0 l0) (rng w3.heap.size w4.heap.size)) := X0_9.out.kept hB
  have X1_0_10 : Hid (Owns w10 true w4.heap.size (.l l1_0 1 cs1_0) (.slice (some ⟨Xg1_0, 0, none⟩) l1_0 l1_0) (rng w4.heap.size Xp1_1)) := X1_0_9.out.kept hB
  have X1_1_10 : Hid (Owns w10 true w4.heap.size (.l l1_1 1 cs1_1) (.slice (some ⟨Xg1_1, 0, none⟩) l1_1 l1_1) (rng Xp1_1 Xp1_2)) := X1_1_9.out.kept hB
  have X1_2_10 : Hid (Owns w10 true w4.heap.size (.l l1_2 1 cs1_2) (.slice (some ⟨Xg1_2, 0, none⟩) l1_2 l1_2) (rng Xp1_2 w5.heap.size)) := X1_2_9.out.kept hB
  have G0_0_10 : Hid (Owns w10 false w6.heap.size (.l lr0_0 1 csr0_0) (.slice ga0_0 lr0_0 gc0_0) gP0_0) := G0_0_9.out.kept hB
  have G0_1_10 : Hid (Owns w10 false w6.heap.size (.l lr0_1 1 csr0_1) (.slice ga0_1 lr0_1 gc0_1) gP0_1) := G0_1_9.out.kept hB
  have G0_2_10 : Hid (Owns w10 false w6.heap.size (.l lr0_2 1 csr0_2) (.slice ga0_2 lr0_2 gc0_2) gP0_2) := G0_2_9.out.kept hB
  have BXP1_10 : Hid (w10.rowIs (w.heap.size) 36 3 (rowF [.slice a1_0 l1_0 cap1_0, .slice a1_1 l1_1 cap1_1, .slice a1_2 l1_2 cap1_2])) := BXP1_9.out.of_block (hB.block _ BXP1_9.out.lt)
  have BXS0_10 : Hid (w10.rowIs (gbs) 39 3 (rowF [.slice sa0_0 lr0_0 sc0_0, .slice sa0_1 lr0_1 sc0_1, .slice sa0_2 lr0_2 sc0_2])) := BXS0_9.out.of_block (hB.block _ BXS0_9.out.lt)
  have BXX1_10 : Hid (w10.rowIs (w5.heap.size) 39 3 (rowF [.slice (some ⟨Xg1_0, 0, none⟩) l1_0 l1_0, .slice (some ⟨Xg1_1, 0, none⟩) l1_1 l1_1, .slice (some ⟨Xg1_2, 0, none⟩) l1_2 l1_2])) := BXX1_9.out.of_block (hB.block _ BXX1_9.out.lt)
  have BXG0_10 : Hid (w10.rowIs (w7.heap.size) 39 3 (rowF [.slice ga0_0 lr0_0 gc0_0, .slice ga0_1 lr0_1 gc0_1, .slice ga0_2 lr0_2 gc0_2])) := BXG0_9.out.of_block (hB.block _ BXG0_9.out.lt)
  clear hO hB
  have blP1 : w.heap.size < w10.heap.size := BXP1_10.out.lt
  have bcP1_0 : w10.cell? ⟨w.heap.size, 0, none⟩ = some (.slice a1_0 l1_0 cap1_0) := BXP1_10.out.cell (i := 0) (by decide)
  have bcP1_1 : w10.cell? ⟨w.heap.size, 1, none⟩ = some (.slice a1_1 l1_1 cap1_1) := BXP1_10.out.cell (i := 1) (by decide)
  have bcP1_2 : w10.cell? ⟨w.heap.size, 2, none⟩ = some (.slice a1_2 l1_2 cap1_2) := BXP1_10.out.cell (i := 2) (by decide)
  have blS0 : gbs < w10.heap.size := BXS0_10.out.lt
  have bcS0_0 : w10.cell? ⟨gbs, 0, none⟩ = some (.slice sa0_0 lr0_0 sc0_0) := BXS0_10.out.cell (i := 0) (by decide)
  have bcS0_1 : w10.cell? ⟨gbs, 1, none⟩ = some (.slice sa0_1 lr0_1 sc0_1) := BXS0_10.out.cell (i := 1) (by decide)
  have bcS0_2 : w10.cell? ⟨gbs, 2, none⟩ = some (.slice sa0_2 lr0_2 sc0_2) := BXS0_10.out.cell (i := 2) (by decide)
  have blX1 : w5.heap.size < w10.heap.size := BXX1_10.out.lt
  have bcX1_0 : w10.cell? ⟨w5.heap.size, 0, none⟩ = some (.slice (some ⟨Xg1_0, 0, none⟩) l1_0 l1_0) := BXX1_10.out.cell (i := 0) (by decide)
  have bcX1_1 : w10.cell? ⟨w5.heap.size, 1, none⟩ = some (.slice (some ⟨Xg1_1, 0, none⟩) l1_1 l1_1) := BXX1_10.out.cell (i := 1) (by decide)
  have bcX1_2 : w10.cell? ⟨w5.heap.size, 2, none⟩ = some (.slice (some ⟨Xg1_2, 0, none⟩) l1_2 l1_2) := BXX1_10.out.cell (i := 2) (by decide)
  have blG0 : w7.heap.size < w10.heap.size := BXG0_10.out.lt
  have bcG0_0 : w10.cell? ⟨w7.heap.size, 0, none⟩ = some (.slice ga0_0 lr0_0 gc0_0) := BXG0_10.out.cell (i := 0) (by decide)
  have bcG0_1 : w10.cell? ⟨w7.heap.size, 1, none⟩ = some (.slice ga0_1 lr0_1 gc0_1) := BXG0_10.out.cell (i := 1) (by decide)
  have bcG0_2 : w10.cell? ⟨w7.heap.size, 2, none⟩ = some (.slice ga0_2 lr0_2 gc0_2) := BXG0_10.out.cell (i := 2) (by decide)
  go_wp2_with fail
  clear blP1 bcP1_0 bcP1_1 bcP1_2 blS0 bcS0_0 bcS0_1 bcS0_2 blX1 bcX1_0 bcX1_1 bcX1_2 blG0 bcG0_0 bcG0_1 bcG0_2
  refine (SStepS_eq _ _ _ _ _ cs0 _ _ _ hf0 hs0 X0_10.out.holds Z0_10.out.holds).mono ?_
  rintro e w11 ⟨rfl, hB⟩
  have BW11 : Hid (Below w.heap.size w w11) := BW10.out.trans (hB.mono BW10.out.size)
  have SZ11 : Hid (w10.heap.size ≤ w11.heap.size) := hB.size
  have BS11 : Hid (Below w3.heap.size w3 w11) := BS10.out.trans (hB.mono BS10.out.size)
  have X0_11 : Hid (Owns w11 true w3.heap.size (.l l0 2 cs0) (.slice (some ⟨w3.heap.size, 0, none⟩) l0 l0) (rng w3.heap.size w4.heap.size)) := X0_10.out.kept hB
  have X1_0_11 : Hid (Owns w11 true w4.heap.size (.l l1_0 1 cs1_0) (.slice (some ⟨Xg1_0, 0, none⟩) l1_0 l1_0) (rng w4.heap.size Xp1_1)) := X1_0_10.out.kept hB
  have X1_1_11 : Hid (Owns w11 true w4.heap.size (.l l1_1 1 cs1_1) (.slice (some ⟨Xg1_1, 0, none⟩) l1_1 l1_1) (rng Xp1_1 Xp1_2)) := X1_1_10.out.kept hB
  have X1_2_11 : Hid (Owns w11 true w4.heap.size (.l l1_2 1 cs1_2) (.slice (some ⟨Xg1_2, 0, none⟩) l1_2 l1_2) (rng Xp1_2 w5.heap.size)) := X1_2_10.out.kept hB
  have G0_0_11 : Hid (Owns w11 false w6.heap.size (.l lr0_0 1 csr0_0) (.slice ga0_0 lr0_0 gc0_0) gP0_0) := G0_0_10.out.kept hB
  have G0_1_11 : Hid (Owns w11 false w6.heap.size (.l lr0_1 1 csr0_1) (.slice ga0_1 lr0_1 gc0_1) gP0_1) := G0_1_10.out.kept hB
  have G0_2_11 : Hid (Owns w11 false w6.heap.size (.l lr0_2 1 csr0_2) (.slice ga0_2 lr0_2 gc0_2) gP0_2) := G0_2_10.out.kept hB
  have Z0_11 : Hid (Owns w11 true w9.heap.size (.l l0 2 cs0) (.slice (some ⟨w9.heap.size, 0, none⟩) l0 l0) (rng w9.heap.size w10.heap.size)) := Z0_10.out.kept hB
  have BXP1_11 : Hid (w11.rowIs (w.heap.size) 36 3 (rowF [.slice a1_0 l1_0 cap1_0, .slice a1_1 l1_1 cap1_1, .slice a1_2 l1_2 cap1_2])) := BXP1_10.out.of_block (hB.block _ BXP1_10.out.lt)
  have BXS0_11 : Hid (w11.rowIs (gbs) 39 3 (rowF [.slice sa0_0 lr0_0 sc0_0, .slice sa0_1 lr0_1 sc0_1, .slice sa0_2 lr0_2 sc0_2])) := BXS0_10.out.of_block (hB.block _ BXS0_10.out.lt)
  have BXX1_11 : Hid (w11.rowIs (w5.heap.size) 39 3 (rowF [.slice (some ⟨Xg1_0, 0, none⟩) l1_0 l1_0, .slice (some ⟨Xg1_1, 0, none⟩) l1_1 l1_1, .slice (some ⟨Xg1_2, 0, none⟩) l1_2 l1_2])) := BXX1_10.out.of_block (hB.block _ BXX1_10.out.lt)
  have BXG0_11 : Hid (w11.rowIs (w7.heap.size) 39 3 (rowF [.slice ga0_0 lr0_0 gc0_0, .slice ga0_1 lr0_1 gc0_1, .slice ga0_2 lr0_2 gc0_2])) := BXG0_10.out.of_block (hB.block _ BXG0_10.out.lt)
  clear hB
  have blP1 : w.heap.size < w11.heap.size := BXP1_11.out.lt
  have bcP1_0 : w11.cell? ⟨w.heap.size, 0, none⟩ = some (.slice a1_0 l1_0 cap1_0) := BXP1_11.out.cell (i := 0) (by decide)
  have bcP1_1 : w11.cell? ⟨w.heap.size, 1, none⟩ = some (.slice a1_1 l1_1 cap1_1) := BXP1_11.out.cell (i := 1) (by decide)
  have bcP1_2 : w11.cell? ⟨w.heap.size, 2, none⟩ = some (.slice a1_2 l1_2 cap1_2) := BXP1_11.out.cell (i := 2) (by decide)
  have blS0 : gbs < w11.heap.size := BXS0_11.out.lt
  have bcS0_0 : w11.cell? ⟨gbs, 0, none⟩ = some (.slice sa0_0 lr0_0 sc0_0) := BXS0_11.out.cell (i := 0) (by decide)
  have bcS0_1 : w11.cell? ⟨gbs, 1, none⟩ = some (.slice sa0_1 lr0_1 sc0_1) := BXS0_11.out.cell (i := 1) (by decide)
  have bcS0_2 : w11.cell? ⟨gbs, 2, none⟩ = some (.slice sa0_2 lr0_2 sc0_2) := BXS0_11.out.cell (i := 2) (by decide)
  have blX1 : w5.heap.size < w11.heap.size := BXX1_11.out.lt
  have bcX1_0 : w11.cell? ⟨w5.heap.size, 0, none⟩ = some (.slice (some ⟨Xg1_0, 0, none⟩) l1_0 l1_0) := BXX1_11.out.cell (i := 0) (by decide)
  have bcX1_1 : w11.cell? ⟨w5.heap.size, 1, none⟩ = some (.slice (some ⟨Xg1_1, 0, none⟩) l1_1 l1_1) := BXX1_11.out.cell (i := 1) (by decide)
  have bcX1_2 : w11.cell? ⟨w5.heap.size, 2, none⟩ = some (.slice (some ⟨Xg1_2, 0, none⟩) l1_2 l1_2) := BXX1_11.out.cell (i := 2) (by decide)
  have blG0 : w7.heap.size < w11.heap.size := BXG0_11.out.lt
  have bcG0_0 : w11.cell? ⟨w7.heap.size, 0, none⟩ = some (.slice ga0_0 lr0_0 gc0_0) := BXG0_11.out.cell (i := 0) (by decide)
  have bcG0_1 : w11.cell? ⟨w7.heap.size, 1, none⟩ = some (.slice ga0_1 lr0_1 gc0_1) := BXG0_11.out.cell (i := 1) (by decide)
  have bcG0_2 : w11.cell? ⟨w7.heap.size, 2, none⟩ = some (.slice ga0_2 lr0_2 gc0_2) := BXG0_11.out.cell (i := 2) (by decide)
  go_wp2_with fail
  clear blP1 bcP1_0 bcP1_1 bcP1_2 blS0 bcS0_0 bcS0_1 bcS0_2 blX1 bcX1_0 bcX1_1 bcX1_2 blG0 bcG0_0 bcG0_1 bcG0_2
  have BD11 : Hid (Below w.heap.size w w11.drew) := BW11.out.drew
  have qs11 : w11.cell? ⟨w5.heap.size, 0, none⟩ = some (.slice (some ⟨Xg1_0, 0, none⟩) l1_0 l1_0) ∧ w11.cell? ⟨w5.heap.size, 1, none⟩ = some (.slice (some ⟨Xg1_1, 0, none⟩) l1_1 l1_1) ∧ w11.cell? ⟨w5.heap.size, 2, none⟩ = some (.slice (some ⟨Xg1_2, 0, none⟩) l1_2 l1_2) ∧ w11.cell? ⟨w.heap.size, 0, none⟩ = some (.slice a1_0 l1_0 cap1_0) ∧ w11.cell? ⟨w.heap.size, 1, none⟩ = some (.slice a1_1 l1_1 cap1_1) ∧ w11.cell? ⟨w.heap.size, 2, none⟩ = some (.slice a1_2 l1_2 cap1_2) := ⟨(BXX1_11.out).cell (i := 0) (by decide), (BXX1_11.out).cell (i := 1) (by decide), (BXX1_11.out).cell (i := 2) (by decide), (BXP1_11.out).cell (i := 0) (by decide), (BXP1_11.out).cell (i := 1) (by decide), (BXP1_11.out).cell (i := 2) (by decide)⟩
  have qd11 : w11.drew.cell? ⟨w5.heap.size, 0, none⟩ = some (.slice (some ⟨Xg1_0, 0, none⟩) l1_0 l1_0) ∧ w11.drew.cell? ⟨w5.heap.size, 1, none⟩ = some (.slice (some ⟨Xg1_1, 0, none⟩) l1_1 l1_1) ∧ w11.drew.cell? ⟨w5.heap.size, 2, none⟩ = some (.slice (some ⟨Xg1_2, 0, none⟩) l1_2 l1_2) ∧ w11.drew.cell? ⟨w.heap.size, 0, none⟩ = some (.slice a1_0 l1_0 cap1_0) ∧ w11.drew.cell? ⟨w.heap.size, 1, none⟩ = some (.slice a1_1 l1_1 cap1_1) ∧ w11.drew.cell? ⟨w.heap.size, 2, none⟩ = some (.slice a1_2 l1_2 cap1_2) := qs11
  go_region_held3 (fun w' => w'.cell? ⟨w5.heap.size, 0, none⟩ = some (.slice (some ⟨Xg1_0, 0, none⟩) l1_0 l1_0) ∧ w'.cell? ⟨w5.heap.size, 1, none⟩ = some (.slice (some ⟨Xg1_1, 0, none⟩) l1_1 l1_1) ∧ w'.cell? ⟨w5.heap.size, 2, none⟩ = some (.slice (some ⟨Xg1_2, 0, none⟩) l1_2 l1_2) ∧ w'.cell? ⟨w.heap.size, 0, none⟩ = some (.slice a1_0 l1_0 cap1_0) ∧ w'.cell? ⟨w.heap.size, 1, none⟩ = some (.slice a1_1 l1_1 cap1_1) ∧ w'.cell? ⟨w.heap.size, 2, none⟩ = some (.slice a1_2 l1_2 cap1_2)) (first | assumption | exact qs11 | exact qd11 | exact qs12 | exact qs13 | go_keep) (first
    | (go_at_call 21; refine (Frame_to _ _ _ cs1_0 _ _ _ cs1_1 _ _ _ cs1_2 false _ hf1_0 hs1_0 (h1_0.out.kept BD11.out) hf1_1 hs1_1 (h1_1.out.kept BD11.out) hf1_2 hs1_2 (h1_2.out.kept BD11.out)).mono ?_; rintro e w12 ⟨Zg1_0, Zg1_1, Zg1_2, Zp1_1, Zp1_2, rfl, hO1_0, hO1_1, hO1_2, hle0, hle1, hle2, hB⟩; have BW12 : Hid (Below w.heap.size w w12) := BD11.out.trans (hB.mono BD11.out.size); have SZ12 : Hid (w11.heap.size ≤ w12.heap.size) := hB.size; have BS12 : Hid (Below w3.heap.size w3 w12) := BS11.out.drew.trans (hB.mono BS11.out.drew.size); have X0_12 : Hid (Owns w12 true w3.heap.size (.l l0 2 cs0) (.slice (some ⟨w3.heap.size, 0, none⟩) l0 l0) (rng w3.heap.size w4.heap.size)) := (X0_11.out.kept (Below.refl _ _).drew).kept hB; have X1_0_12 : Hid (Owns w12 true w4.heap.size (.l l1_0 1 cs1_0) (.slice (some ⟨Xg1_0, 0, none⟩) l1_0 l1_0) (rng w4.heap.size Xp1_1)) := (X1_0_11.out.kept (Below.refl _ _).drew).kept hB; have X1_1_12 : Hid (Owns w12 true w4.heap.size (.l l1_1 1 cs1_1) (.slice (some ⟨Xg1_1, 0, none⟩) l1_1 l1_1) (rng Xp1_1 Xp1_2)) := (X1_1_11.out.kept (Below.refl _ _).drew).kept hB; have X1_2_12 : Hid (Owns w12 true w4.heap.size (.l l1_2 1 cs1_2) (.slice (some ⟨Xg1_2, 0, none⟩) l1_2 l1_2) (rng Xp1_2 w5.heap.size)) := (X1_2_11.out.kept (Below.refl _ _).drew).kept hB; have G0_0_12 : Hid (Owns w12 false w6.heap.size (.l lr0_0 1 csr0_0) (.slice ga0_0 lr0_0 gc0_0) gP0_0) := (G0_0_11.out.kept (Below.refl _ _).drew).kept hB; have G0_1_12 : Hid (Owns w12 false w6.heap.size (.l lr0_1 1 csr0_1) (.slice ga0_1 lr0_1 gc0_1) gP0_1) := (G0_1_11.out.kept (Below.refl _ _).drew).kept hB; have G0_2_12 : Hid (Owns w12 false w6.heap.size (.l lr0_2 1 csr0_2) (.slice ga0_2 lr0_2 gc0_2) gP0_2) := (G0_2_11.out.kept (Below.refl _ _).drew).kept hB; have BXP1_12 : Hid (w12.rowIs (w.heap.size) 36 3 (rowF [.slice a1_0 l1_0 cap1_0, .slice a1_1 l1_1 cap1_1, .slice a1_2 l1_2 cap1_2])) := BXP1_11.out.of_block (hB.block _ BXP1_11.out.lt); have BXS0_12 : Hid (w12.rowIs (gbs) 39 3 (rowF [.slice sa0_0 lr0_0 sc0_0, .slice sa0_1 lr0_1 sc0_1, .slice sa0_2 lr0_2 sc0_2])) := BXS0_11.out.of_block (hB.block _ BXS0_11.out.lt); have BXX1_12 : Hid (w12.rowIs (w5.heap.size) 39 3 (rowF [.slice (some ⟨Xg1_0, 0, none⟩) l1_0 l1_0, .slice (some ⟨Xg1_1, 0, none⟩) l1_1 l1_1, .slice (some ⟨Xg1_2, 0, none⟩) l1_2 l1_2])) := BXX1_11.out.of_block (hB.block _ BXX1_11.out.lt); have BXG0_12 : Hid (w12.rowIs (w7.heap.size) 39 3 (rowF [.slice ga0_0 lr0_0 gc0_0, .slice ga0_1 lr0_1 gc0_1, .slice ga0_2 lr0_2 gc0_2])) := BXG0_11.out.of_block (hB.block _ BXG0_11.out.lt); have Z1_0_12 : Hid (Holds w12 true (.l l1_0 1 cs1_0) (.slice (some ⟨Zg1_0, 0, none⟩) l1_0 l1_0)) := hO1_0.holds; have Z1_1_12 : Hid (Holds w12 true (.l l1_1 1 cs1_1) (.slice (some ⟨Zg1_1, 0, none⟩) l1_1 l1_1)) := hO1_1.holds; have Z1_2_12 : Hid (Holds w12 true (.l l1_2 1 cs1_2) (.slice (some ⟨Zg1_2, 0, none⟩) l1_2 l1_2)) := hO1_2.holds; have qs12 : w12.cell? ⟨w5.heap.size, 0, none⟩ = some (.slice (some ⟨Xg1_0, 0, none⟩) l1_0 l1_0) ∧ w12.cell? ⟨w5.heap.size, 1, none⟩ = some (.slice (some ⟨Xg1_1, 0, none⟩) l1_1 l1_1) ∧ w12.cell? ⟨w5.heap.size, 2, none⟩ = some (.slice (some ⟨Xg1_2, 0, none⟩) l1_2 l1_2) ∧ w12.cell? ⟨w.heap.size, 0, none⟩ = some (.slice a1_0 l1_0 cap1_0) ∧ w12.cell? ⟨w.heap.size, 1, none⟩ = some (.slice a1_1 l1_1 cap1_1) ∧ w12.cell? ⟨w.heap.size, 2, none⟩ = some (.slice a1_2 l1_2 cap1_2) := ⟨(BXX1_12.out).cell (i := 0) (by decide), (BXX1_12.out).cell (i := 1) (by decide), (BXX1_12.out).cell (i := 2) (by decide), (BXP1_12.out).cell (i := 0) (by decide), (BXP1_12.out).cell (i := 1) (by decide), (BXP1_12.out).cell (i := 2) (by decide)⟩; clear hB hO1_0 hO1_1 hO1_2 hle0 hle1 hle2)
    | (go_at_call 23; refine (Frame_eq _ _ _ cs1_0 _ _ _ cs1_1 _ _ _ cs1_2 _ _ _ _ _ _ _ _ _ hf1_0 hs1_0 X1_0_12.out.holds hf1_1 hs1_1 X1_1_12.out.holds hf1_2 hs1_2 X1_2_12.out.holds Z1_0_12 Z1_1_12 Z1_2_12).mono ?_; rintro e w13 ⟨rfl, hB⟩; have BW13 : Hid (Below w.heap.size w w13) := BW12.out.trans (hB.mono BW12.out.size); have SZ13 : Hid (w12.heap.size ≤ w13.heap.size) := hB.size; have BS13 : Hid (Below w3.heap.size w3 w13) := BS12.out.trans (hB.mono BS12.out.size); have X0_13 : Hid (Owns w13 true w3.heap.size (.l l0 2 cs0) (.slice (some ⟨w3.heap.size, 0, none⟩) l0 l0) (rng w3.heap.size w4.heap.size)) := X0_12.out.kept hB; have X1_0_13 : Hid (Owns w13 true w4.heap.size (.l l1_0 1 cs1_0) (.slice (some ⟨Xg1_0, 0, none⟩) l1_0 l1_0) (rng w4.heap.size Xp1_1)) := X1_0_12.out.kept hB; have X1_1_13 : Hid (Owns w13 true w4.heap.size (.l l1_1 1 cs1_1) (.slice (some ⟨Xg1_1, 0, none⟩) l1_1 l1_1) (rng Xp1_1 Xp1_2)) := X1_1_12.out.kept hB; have X1_2_13 : Hid (Owns w13 true w4.heap.size (.l l1_2 1 cs1_2) (.slice (some ⟨Xg1_2, 0, none⟩) l1_2 l1_2) (rng Xp1_2 w5.heap.size)) := X1_2_12.out.kept hB; have G0_0_13 : Hid (Owns w13 false w6.heap.size (.l lr0_0 1 csr0_0) (.slice ga0_0 lr0_0 gc0_0) gP0_0) := G0_0_12.out.kept hB; have G0_1_13 : Hid (Owns w13 false w6.heap.size (.l lr0_1 1 csr0_1) (.slice ga0_1 lr0_1 gc0_1) gP0_1) := G0_1_12.out.kept hB; have G0_2_13 : Hid (Owns w13 false w6.heap.size (.l lr0_2 1 csr0_2) (.slice ga0_2 lr0_2 gc0_2) gP0_2) := G0_2_12.out.kept hB; have BXP1_13 : Hid (w13.rowIs (w.heap.size) 36 3 (rowF [.slice a1_0 l1_0 cap1_0, .slice a1_1 l1_1 cap1_1, .slice a1_2 l1_2 cap1_2])) := BXP1_12.out.of_block (hB.block _ BXP1_12.out.lt); have BXS0_13 : Hid (w13.rowIs (gbs) 39 3 (rowF [.slice sa0_0 lr0_0 sc0_0, .slice sa0_1 lr0_1 sc0_1, .slice sa0_2 lr0_2 sc0_2])) := BXS0_12.out.of_block (hB.block _ BXS0_12.out.lt); have BXX1_13 : Hid (w13.rowIs (w5.heap.size) 39 3 (rowF [.slice (some ⟨Xg1_0, 0, none⟩) l1_0 l1_0, .slice (some ⟨Xg1_1, 0, none⟩) l1_1 l1_1, .slice (some ⟨Xg1_2, 0, none⟩) l1_2 l1_2])) := BXX1_12.out.of_block (hB.block _ BXX1_12.out.lt); have BXG0_13 : Hid (w13.rowIs (w7.heap.size) 39 3 (rowF [.slice ga0_0 lr0_0 gc0_0, .slice ga0_1 lr0_1 gc0_1, .slice ga0_2 lr0_2 gc0_2])) := BXG0_12.out.of_block (hB.block _ BXG0_12.out.lt); have qs13 : w13.cell? ⟨w5.heap.size, 0, none⟩ = some (.slice (some ⟨Xg1_0, 0, none⟩) l1_0 l1_0) ∧ w13.cell? ⟨w5.heap.size, 1, none⟩ = some (.slice (some ⟨Xg1_1, 0, none⟩) l1_1 l1_1) ∧ w13.cell? ⟨w5.heap.size, 2, none⟩ = some (.slice (some ⟨Xg1_2, 0, none⟩) l1_2 l1_2) ∧ w13.cell? ⟨w.heap.size, 0, none⟩ = some (.slice a1_0 l1_0 cap1_0) ∧ w13.cell? ⟨w.heap.size, 1, none⟩ = some (.slice a1_1 l1_1 cap1_1) ∧ w13.cell? ⟨w.heap.size, 2, none⟩ = some (.slice a1_2 l1_2 cap1_2) := ⟨(BXX1_13.out).cell (i := 0) (by decide), (BXX1_13.out).cell (i := 1) (by decide), (BXX1_13.out).cell (i := 2) (by decide), (BXP1_13.out).cell (i := 0) (by decide), (BXP1_13.out).cell (i := 1) (by decide), (BXP1_13.out).cell (i := 2) (by decide)⟩; clear hB))
  clear qs11 qd11 qs12 qs13
  have hcn0 := cnt_le thin_SStepS hf0.out
  obtain ⟨N0, HN0⟩ : ∃ N, Hid (cntD (.l l0 2 cs0) = N) := ⟨_, rfl⟩
  have hN0 : N0 ≤ 8388609 := by have q := hs0.out; rw [HN0.out] at hcn0; omega
  clear hcn0
  have hcn1_0 := cnt_le (s := shI) ⟨by decide, fun _ => trivial⟩ hf1_0.out
  obtain ⟨N1_0, HN1_0⟩ : ∃ N, Hid (cntD (.l l1_0 1 cs1_0) = N) := ⟨_, rfl⟩
  have hN1_0 : N1_0 ≤ 8388609 := by have q := hs1_0.out; rw [HN1_0.out] at hcn1_0; omega
  clear hcn1_0
  have hcn1_1 := cnt_le (s := shI) ⟨by decide, fun _ => trivial⟩ hf1_1.out
  obtain ⟨N1_1, HN1_1⟩ : ∃ N, Hid (cntD (.l l1_1 1 cs1_1) = N) := ⟨_, rfl⟩
  have hN1_1 : N1_1 ≤ 8388609 := by have q := hs1_1.out; rw [HN1_1.out] at hcn1_1; omega
  clear hcn1_1
  have hcn1_2 := cnt_le (s := shI) ⟨by decide, fun _ => trivial⟩ hf1_2.out
  obtain ⟨N1_2, HN1_2⟩ : ∃ N, Hid (cntD (.l l1_2 1 cs1_2) = N) := ⟨_, rfl⟩
  have hN1_2 : N1_2 ≤ 8388609 := by have q := hs1_2.out; rw [HN1_2.out] at hcn1_2; omega
  clear hcn1_2
  have blP1 : w.heap.size < w13.heap.size := BXP1_13.out.lt
  have bcP1_0 : w13.cell? ⟨w.heap.size, 0, none⟩ = some (.slice a1_0 l1_0 cap1_0) := BXP1_13.out.cell (i := 0) (by decide)
  have bcP1_1 : w13.cell? ⟨w.heap.size, 1, none⟩ = some (.slice a1_1 l1_1 cap1_1) := BXP1_13.out.cell (i := 1) (by decide)
  have bcP1_2 : w13.cell? ⟨w.heap.size, 2, none⟩ = some (.slice a1_2 l1_2 cap1_2) := BXP1_13.out.cell (i := 2) (by decide)
  have blS0 : gbs < w13.heap.size := BXS0_13.out.lt
  have bcS0_0 : w13.cell? ⟨gbs, 0, none⟩ = some (.slice sa0_0 lr0_0 sc0_0) := BXS0_13.out.cell (i := 0) (by decide)
  have bcS0_1 : w13.cell? ⟨gbs, 1, none⟩ = some (.slice sa0_1 lr0_1 sc0_1) := BXS0_13.out.cell (i := 1) (by decide)
  have bcS0_2 : w13.cell? ⟨gbs, 2, none⟩ = some (.slice sa0_2 lr0_2 sc0_2) := BXS0_13.out.cell (i := 2) (by decide)
  have blX1 : w5.heap.size < w13.heap.size := BXX1_13.out.lt
  have bcX1_0 : w13.cell? ⟨w5.heap.size, 0, none⟩ = some (.slice (some ⟨Xg1_0, 0, none⟩) l1_0 l1_0) := BXX1_13.out.cell (i := 0) (by decide)
  have bcX1_1 : w13.cell? ⟨w5.heap.size, 1, none⟩ = some (.slice (some ⟨Xg1_1, 0, none⟩) l1_1 l1_1) := BXX1_13.out.cell (i := 1) (by decide)
  have bcX1_2 : w13.cell? ⟨w5.heap.size, 2, none⟩ = some (.slice (some ⟨Xg1_2, 0, none⟩) l1_2 l1_2) := BXX1_13.out.cell (i := 2) (by decide)
  have blG0 : w7.heap.size < w13.heap.size := BXG0_13.out.lt
  have bcG0_0 : w13.cell? ⟨w7.heap.size, 0, none⟩ = some (.slice ga0_0 lr0_0 gc0_0) := BXG0_13.out.cell (i := 0) (by decide)
  have bcG0_1 : w13.cell? ⟨w7.heap.size, 1, none⟩ = some (.slice ga0_1 lr0_1 gc0_1) := BXG0_13.out.cell (i := 1) (by decide)
  have bcG0_2 : w13.cell? ⟨w7.heap.size, 2, none⟩ = some (.slice ga0_2 lr0_2 gc0_2) := BXG0_13.out.cell (i := 2) (by decide)
  go_wp2_with fail
  clear blP1 bcP1_0 bcP1_1 bcP1_2 blS0 bcS0_0 bcS0_1 bcS0_2 blX1 bcX1_0 bcX1_1 bcX1_2 blG0 bcG0_0 bcG0_1 bcG0_2
  refine (SStepS_mark (1) (by omega) (by omega) _ _ _ cs0 true _ _ _ hf0 hs0 X0_13).mono ?_
  rw [HN0.out]
  rintro e w14 ⟨rfl, _, hF⟩
  have hB : Below w3.heap.size w13 w14 := hF.below (by have q4 := SZ4.out; have q5 := SZ5.out; have q6 := SZ6.out; have q7 := SZ7.out; have q8 := SZ8.out; have q9 := SZ9.out; have q10 := SZ10.out; have q11 := SZ11.out; have q12 := SZ12.out; have q13 := SZ13.out; omega) (fun x hx => hx.1)
  have BW14 : Hid (Below w.heap.size w w14) := BW13.out.trans (hB.mono BW3.out.size)
  have SZ14 : Hid (w13.heap.size ≤ w14.heap.size) := hB.size
  have BS14 : Hid (Below w3.heap.size w3 w14) := BS13.out.trans (hB.mono (Nat.le_refl _))
  have X1_0_14 : Hid (Owns w14 true w4.heap.size (.l l1_0 1 cs1_0) (.slice (some ⟨Xg1_0, 0, none⟩) l1_0 l1_0) (rng w4.heap.size Xp1_1)) := hF.owns (fun x hx hy => by have r1 := hx.1; have r2 := hy.2;  have t0 := Xle1_0.out; have t1 := Xle1_1.out; have t2 := Xle1_2.out; omega) X1_0_13.out
  have X1_1_14 : Hid (Owns w14 true w4.heap.size (.l l1_1 1 cs1_1) (.slice (some ⟨Xg1_1, 0, none⟩) l1_1 l1_1) (rng Xp1_1 Xp1_2)) := hF.owns (fun x hx hy => by have r1 := hx.1; have r2 := hy.2;  have t0 := Xle1_0.out; have t1 := Xle1_1.out; have t2 := Xle1_2.out; omega) X1_1_13.out
  have X1_2_14 : Hid (Owns w14 true w4.heap.size (.l l1_2 1 cs1_2) (.slice (some ⟨Xg1_2, 0, none⟩) l1_2 l1_2) (rng Xp1_2 w5.heap.size)) := hF.owns (fun x hx hy => by have r1 := hx.1; have r2 := hy.2;  have t0 := Xle1_0.out; have t1 := Xle1_1.out; have t2 := Xle1_2.out; omega) X1_2_13.out
  have G0_0_14 : Hid (Owns w14 false w6.heap.size (.l lr0_0 1 csr0_0) (.slice ga0_0 lr0_0 gc0_0) gP0_0) := hF.owns (fun x hx hy => by have r1 := (GF0_0.out x hx).1; have r2 := hy.2; have q5 := SZ5.out; have q6 := SZ6.out; omega) G0_0_13.out
  have G0_1_14 : Hid (Owns w14 false w6.heap.size (.l lr0_1 1 csr0_1) (.slice ga0_1 lr0_1 gc0_1) gP0_1) := hF.owns (fun x hx hy => by have r1 := (GF0_1.out x hx).1; have r2 := hy.2; have q5 := SZ5.out; have q6 := SZ6.out; omega) G0_1_13.out
  have G0_2_14 : Hid (Owns w14 false w6.heap.size (.l lr0_2 1 csr0_2) (.slice ga0_2 lr0_2 gc0_2) gP0_2) := hF.owns (fun x hx hy => by have r1 := (GF0_2.out x hx).1; have r2 := hy.2; have q5 := SZ5.out; have q6 := SZ6.out; omega) G0_2_13.out
  have BXP1_14 : Hid (w14.rowIs (w.heap.size) 36 3 (rowF [.slice a1_0 l1_0 cap1_0, .slice a1_1 l1_1 cap1_1, .slice a1_2 l1_2 cap1_2])) := BXP1_13.out.of_block (hF.block _ BXP1_13.out.lt (fun hy => by have r1 := hy.1; have r2 := LTP1.out; have q2 := SZ2.out; have q3 := SZ3.out; omega))
  have BXS0_14 : Hid (w14.rowIs (gbs) 39 3 (rowF [.slice sa0_0 lr0_0 sc0_0, .slice sa0_1 lr0_1 sc0_1, .slice sa0_2 lr0_2 sc0_2])) := BXS0_13.out.of_block (hF.block _ BXS0_13.out.lt (fun hy => by have r1 := hy.1; have r2 := LTS0.out;  omega))
  have BXX1_14 : Hid (w14.rowIs (w5.heap.size) 39 3 (rowF [.slice (some ⟨Xg1_0, 0, none⟩) l1_0 l1_0, .slice (some ⟨Xg1_1, 0, none⟩) l1_1 l1_1, .slice (some ⟨Xg1_2, 0, none⟩) l1_2 l1_2])) := BXX1_13.out.of_block (hF.block _ BXX1_13.out.lt (fun hy => by have r1 := hy.2; have r3 := ADX1.out; have q5 := SZ5.out; omega))
  have BXG0_14 : Hid (w14.rowIs (w7.heap.size) 39 3 (rowF [.slice ga0_0 lr0_0 gc0_0, .slice ga0_1 lr0_1 gc0_1, .slice ga0_2 lr0_2 gc0_2])) := BXG0_13.out.of_block (hF.block _ BXG0_13.out.lt (fun hy => by have r1 := hy.2; have r3 := ADG0.out; have q5 := SZ5.out; have q6 := SZ6.out; have q7 := SZ7.out; omega))
  clear hF hB
  have blP1 : w.heap.size < w14.heap.size := BXP1_14.out.lt
  have bcP1_0 : w14.cell? ⟨w.heap.size, 0, none⟩ = some (.slice a1_0 l1_0 cap1_0) := BXP1_14.out.cell (i := 0) (by decide)
  have bcP1_1 : w14.cell? ⟨w.heap.size, 1, none⟩ = some (.slice a1_1 l1_1 cap1_1) := BXP1_14.out.cell (i := 1) (by decide)
  have bcP1_2 : w14.cell? ⟨w.heap.size, 2, none⟩ = some (.slice a1_2 l1_2 cap1_2) := BXP1_14.out.cell (i := 2) (by decide)
  have blS0 : gbs < w14.heap.size := BXS0_14.out.lt
  have bcS0_0 : w14.cell? ⟨gbs, 0, none⟩ = some (.slice sa0_0 lr0_0 sc0_0) := BXS0_14.out.cell (i := 0) (by decide)
  have bcS0_1 : w14.cell? ⟨gbs, 1, none⟩ = some (.slice sa0_1 lr0_1 sc0_1) := BXS0_14.out.cell (i := 1) (by decide)
  have bcS0_2 : w14.cell? ⟨gbs, 2, none⟩ = some (.slice sa0_2 lr0_2 sc0_2) := BXS0_14.out.cell (i := 2) (by decide)
  have blX1 : w5.heap.size < w14.heap.size := BXX1_14.out.lt
  have bcX1_0 : w14.cell? ⟨w5.heap.size, 0, none⟩ = some (.slice (some ⟨Xg1_0, 0, none⟩) l1_0 l1_0) := BXX1_14.out.cell (i := 0) (by decide)
  have bcX1_1 : w14.cell? ⟨w5.heap.size, 1, none⟩ = some (.slice (some ⟨Xg1_1, 0, none⟩) l1_1 l1_1) := BXX1_14.out.cell (i := 1) (by decide)
  have bcX1_2 : w14.cell? ⟨w5.heap.size, 2, none⟩ = some (.slice (some ⟨Xg1_2, 0, none⟩) l1_2 l1_2) := BXX1_14.out.cell (i := 2) (by decide)
  have blG0 : w7.heap.size < w14.heap.size := BXG0_14.out.lt
  have bcG0_0 : w14.cell? ⟨w7.heap.size, 0, none⟩ = some (.slice ga0_0 lr0_0 gc0_0) := BXG0_14.out.cell (i := 0) (by decide)
  have bcG0_1 : w14.cell? ⟨w7.heap.size, 1, none⟩ = some (.slice ga0_1 lr0_1 gc0_1) := BXG0_14.out.cell (i := 1) (by decide)
  have bcG0_2 : w14.cell? ⟨w7.heap.size, 2, none⟩ = some (.slice ga0_2 lr0_2 gc0_2) := BXG0_14.out.cell (i := 2) (by decide)
  go_wp2_with fail
  clear blP1 bcP1_0 bcP1_1 bcP1_2 blS0 bcS0_0 bcS0_1 bcS0_2 blX1 bcX1_0 bcX1_1 bcX1_2 blG0 bcG0_0 bcG0_1 bcG0_2
  refine (Frame_mark (1 + (N0 : Int)) (by omega) (by omega) _ _ _ cs1_0 _ _ _ cs1_1 _ _ _ cs1_2 true _ _ _ _ _ hf1_0 hs1_0 X1_0_14 (fun x hx => by have r1 := hx.2; have t0 := Xle1_0.out; have t1 := Xle1_1.out; have t2 := Xle1_2.out; have q6 := SZ6.out; have q7 := SZ7.out; have q8 := SZ8.out; have q9 := SZ9.out; have q10 := SZ10.out; have q11 := SZ11.out; have q12 := SZ12.out; have q13 := SZ13.out; have q14 := SZ14.out; omega) hf1_1 hs1_1 X1_1_14 (fun x hx => by have r1 := hx.2; have t0 := Xle1_0.out; have t1 := Xle1_1.out; have t2 := Xle1_2.out; have q6 := SZ6.out; have q7 := SZ7.out; have q8 := SZ8.out; have q9 := SZ9.out; have q10 := SZ10.out; have q11 := SZ11.out; have q12 := SZ12.out; have q13 := SZ13.out; have q14 := SZ14.out; omega) hf1_2 hs1_2 X1_2_14 (fun x hx => by have r1 := hx.2; have t0 := Xle1_0.out; have t1 := Xle1_1.out; have t2 := Xle1_2.out; have q6 := SZ6.out; have q7 := SZ7.out; have q8 := SZ8.out; have q9 := SZ9.out; have q10 := SZ10.out; have q11 := SZ11.out; have q12 := SZ12.out; have q13 := SZ13.out; have q14 := SZ14.out; omega) (fun x hx hy => by have r1 := hx.2; have r2 := hy.1;  omega) (fun x hx hy => by have r1 := hx.2; have r2 := hy.1; have t1 := Xle1_1.out; omega) (fun x hx hy => by have r1 := hx.2; have r2 := hy.1;  omega)).mono ?_
  rw [HN1_0.out, HN1_1.out, HN1_2.out]
  rintro e w15 ⟨rfl, _, _, _, hF⟩
  have hF : OnlyF w14 w15 (rng w4.heap.size w5.heap.size) := hF.more (fun x hx => by rcases hx with hx | hx | hx <;> exact ⟨by have := hx.1; have t0 := Xle1_0.out; have t1 := Xle1_1.out; have t2 := Xle1_2.out; omega, by have := hx.2; have t0 := Xle1_0.out; have t1 := Xle1_1.out; have t2 := Xle1_2.out; omega⟩)
  have hB : Below w4.heap.size w14 w15 := hF.below (by have q5 := SZ5.out; have q6 := SZ6.out; have q7 := SZ7.out; have q8 := SZ8.out; have q9 := SZ9.out; have q10 := SZ10.out; have q11 := SZ11.out; have q12 := SZ12.out; have q13 := SZ13.out; have q14 := SZ14.out; omega) (fun x hx => hx.1)
  have BW15 : Hid (Below w.heap.size w w15) := BW14.out.trans (hB.mono BW4.out.size)
  have SZ15 : Hid (w14.heap.size ≤ w15.heap.size) := hB.size
  have BS15 : Hid (Below w3.heap.size w3 w15) := BS14.out.trans (hB.mono BS4.out.size)
  have G0_0_15 : Hid (Owns w15 false w6.heap.size (.l lr0_0 1 csr0_0) (.slice ga0_0 lr0_0 gc0_0) gP0_0) := hF.owns (fun x hx hy => by have r1 := (GF0_0.out x hx).1; have r2 := hy.2; have q6 := SZ6.out; omega) G0_0_14.out
  have G0_1_15 : Hid (Owns w15 false w6.heap.size (.l lr0_1 1 csr0_1) (.slice ga0_1 lr0_1 gc0_1) gP0_1) := hF.owns (fun x hx hy => by have r1 := (GF0_1.out x hx).1; have r2 := hy.2; have q6 := SZ6.out; omega) G0_1_14.out
  have G0_2_15 : Hid (Owns w15 false w6.heap.size (.l lr0_2 1 csr0_2) (.slice ga0_2 lr0_2 gc0_2) gP0_2) := hF.owns (fun x hx hy => by have r1 := (GF0_2.out x hx).1; have r2 := hy.2; have q6 := SZ6.out; omega) G0_2_14.out
  have BXP1_15 : Hid (w15.rowIs (w.heap.size) 36 3 (rowF [.slice a1_0 l1_0 cap1_0, .slice a1_1 l1_1 cap1_1, .slice a1_2 l1_2 cap1_2])) := BXP1_14.out.of_block (hF.block _ BXP1_14.out.lt (fun hy => by have r1 := hy.1; have r2 := LTP1.out; have q2 := SZ2.out; have q3 := SZ3.out; have q4 := SZ4.out; omega))
  have BXS0_15 : Hid (w15.rowIs (gbs) 39 3 (rowF [.slice sa0_0 lr0_0 sc0_0, .slice sa0_1 lr0_1 sc0_1, .slice sa0_2 lr0_2 sc0_2])) := BXS0_14.out.of_block (hF.block _ BXS0_14.out.lt (fun hy => by have r1 := hy.1; have r2 := LTS0.out; have q4 := SZ4.out; omega))
  have BXX1_15 : Hid (w15.rowIs (w5.heap.size) 39 3 (rowF [.slice (some ⟨Xg1_0, 0, none⟩) l1_0 l1_0, .slice (some ⟨Xg1_1, 0, none⟩) l1_1 l1_1, .slice (some ⟨Xg1_2, 0, none⟩) l1_2 l1_2])) := BXX1_14.out.of_block (hF.block _ BXX1_14.out.lt (fun hy => by have r1 := hy.2; have r3 := ADX1.out;  omega))
  have BXG0_15 : Hid (w15.rowIs (w7.heap.size) 39 3 (rowF [.slice ga0_0 lr0_0 gc0_0, .slice ga0_1 lr0_1 gc0_1, .slice ga0_2 lr0_2 gc0_2])) := BXG0_14.out.of_block (hF.block _ BXG0_14.out.lt (fun hy => by have r1 := hy.2; have r3 := ADG0.out; have q6 := SZ6.out; have q7 := SZ7.out; omega))
  clear hF hB
  have hk : (0 : Int) ≤ 1 + (N0 : Int) + (N1_0 : Int) + (N1_1 : Int) + (N1_2 : Int) := by omega
  have blP1 : w.heap.size < w15.heap.size := BXP1_15.out.lt
  have bcP1_0 : w15.cell? ⟨w.heap.size, 0, none⟩ = some (.slice a1_0 l1_0 cap1_0) := BXP1_15.out.cell (i := 0) (by decide)
  have bcP1_1 : w15.cell? ⟨w.heap.size, 1, none⟩ = some (.slice a1_1 l1_1 cap1_1) := BXP1_15.out.cell (i := 1) (by decide)
  have bcP1_2 : w15.cell? ⟨w.heap.size, 2, none⟩ = some (.slice a1_2 l1_2 cap1_2) := BXP1_15.out.cell (i := 2) (by decide)
  have blS0 : gbs < w15.heap.size := BXS0_15.out.lt
  have bcS0_0 : w15.cell? ⟨gbs, 0, none⟩ = some (.slice sa0_0 lr0_0 sc0_0) := BXS0_15.out.cell (i := 0) (by decide)
  have bcS0_1 : w15.cell? ⟨gbs, 1, none⟩ = some (.slice sa0_1 lr0_1 sc0_1) := BXS0_15.out.cell (i := 1) (by decide)
  have bcS0_2 : w15.cell? ⟨gbs, 2, none⟩ = some (.slice sa0_2 lr0_2 sc0_2) := BXS0_15.out.cell (i := 2) (by decide)
  have blX1 : w5.heap.size < w15.heap.size := BXX1_15.out.lt
  have bcX1_0 : w15.cell? ⟨w5.heap.size, 0, none⟩ = some (.slice (some ⟨Xg1_0, 0, none⟩) l1_0 l1_0) := BXX1_15.out.cell (i := 0) (by decide)
  have bcX1_1 : w15.cell? ⟨w5.heap.size, 1, none⟩ = some (.slice (some ⟨Xg1_1, 0, none⟩) l1_1 l1_1) := BXX1_15.out.cell (i := 1) (by decide)
  have bcX1_2 : w15.cell? ⟨w5.heap.size, 2, none⟩ = some (.slice (some ⟨Xg1_2, 0, none⟩) l1_2 l1_2) := BXX1_15.out.cell (i := 2) (by decide)
  have blG0 : w7.heap.size < w15.heap.size := BXG0_15.out.lt
  have bcG0_0 : w15.cell? ⟨w7.heap.size, 0, none⟩ = some (.slice ga0_0 lr0_0 gc0_0) := BXG0_15.out.cell (i := 0) (by decide)
  have bcG0_1 : w15.cell? ⟨w7.heap.size, 1, none⟩ = some (.slice ga0_1 lr0_1 gc0_1) := BXG0_15.out.cell (i := 1) (by decide)
  have bcG0_2 : w15.cell? ⟨w7.heap.size, 2, none⟩ = some (.slice ga0_2 lr0_2 gc0_2) := BXG0_15.out.cell (i := 2) (by decide)
  go_wp2_with fail
  clear blP1 bcP1_0 bcP1_1 bcP1_2 blS0 bcS0_0 bcS0_1 bcS0_2 blX1 bcX1_0 bcX1_1 bcX1_2 blG0 bcG0_0 bcG0_1 bcG0_2
  refine (Frame_eq _ _ _ csr0_0 _ _ _ csr0_1 _ _ _ csr0_2 _ _ _ _ _ _ _ _ _ hfr0_0 hsr0_0 G0_0_15.out.holds hfr0_1 hsr0_1 G0_1_15.out.holds hfr0_2 hsr0_2 G0_2_15.out.holds (S0_0.out.kept BS15.out) (S0_1.out.kept BS15.out) (S0_2.out.kept BS15.out)).mono ?_
  rintro e w16 ⟨rfl, hB⟩
  have BW16 : Hid (Below w.heap.size w w16) := BW15.out.trans (hB.mono BW15.out.size)
  have SZ16 : Hid (w15.heap.size ≤ w16.heap.size) := hB.size
  have BS16 : Hid (Below w3.heap.size w3 w16) := BS15.out.trans (hB.mono BS15.out.size)
  have G0_0_16 : Hid (Owns w16 false w6.heap.size (.l lr0_0 1 csr0_0) (.slice ga0_0 lr0_0 gc0_0) gP0_0) := G0_0_15.out.kept hB
  have G0_1_16 : Hid (Owns w16 false w6.heap.size (.l lr0_1 1 csr0_1) (.slice ga0_1 lr0_1 gc0_1) gP0_1) := G0_1_15.out.kept hB
  have G0_2_16 : Hid (Owns w16 false w6.heap.size (.l lr0_2 1 csr0_2) (.slice ga0_2 lr0_2 gc0_2) gP0_2) := G0_2_15.out.kept hB
  have BXP1_16 : Hid (w16.rowIs (w.heap.size) 36 3 (rowF [.slice a1_0 l1_0 cap1_0, .slice a1_1 l1_1 cap1_1, .slice a1_2 l1_2 cap1_2])) := BXP1_15.out.of_block (hB.block _ BXP1_15.out.lt)
  have BXS0_16 : Hid (w16.rowIs (gbs) 39 3 (rowF [.slice sa0_0 lr0_0 sc0_0, .slice sa0_1 lr0_1 sc0_1, .slice sa0_2 lr0_2 sc0_2])) := BXS0_15.out.of_block (hB.block _ BXS0_15.out.lt)
  have BXX1_16 : Hid (w16.rowIs (w5.heap.size) 39 3 (rowF [.slice (some ⟨Xg1_0, 0, none⟩) l1_0 l1_0, .slice (some ⟨Xg1_1, 0, none⟩) l1_1 l1_1, .slice (some ⟨Xg1_2, 0, none⟩) l1_2 l1_2])) := BXX1_15.out.of_block (hB.block _ BXX1_15.out.lt)
  have BXG0_16 : Hid (w16.rowIs (w7.heap.size) 39 3 (rowF [.slice ga0_0 lr0_0 gc0_0, .slice ga0_1 lr0_1 gc0_1, .slice ga0_2 lr0_2 gc0_2])) := BXG0_15.out.of_block (hB.block _ BXG0_15.out.lt)
  clear hB
  have hcnr0_0 := cnt_le (s := shI) ⟨by decide, fun _ => trivial⟩ hfr0_0.out
  obtain ⟨M0_0, HM0_0⟩ : ∃ N, Hid (cntD (.l lr0_0 1 csr0_0) = N) := ⟨_, rfl⟩
  have hM0_0 : M0_0 ≤ 800001 := by have q := hsx0_0.out; rw [HM0_0.out] at hcnr0_0; omega
  clear hcnr0_0
  have hcnr0_1 := cnt_le (s := shI) ⟨by decide, fun _ => trivial⟩ hfr0_1.out
  obtain ⟨M0_1, HM0_1⟩ : ∃ N, Hid (cntD (.l lr0_1 1 csr0_1) = N) := ⟨_, rfl⟩
  have hM0_1 : M0_1 ≤ 800001 := by have q := hsx0_1.out; rw [HM0_1.out] at hcnr0_1; omega
  clear hcnr0_1
  have hcnr0_2 := cnt_le (s := shI) ⟨by decide, fun _ => trivial⟩ hfr0_2.out
  obtain ⟨M0_2, HM0_2⟩ : ∃ N, Hid (cntD (.l lr0_2 1 csr0_2) = N) := ⟨_, rfl⟩
  have hM0_2 : M0_2 ≤ 800001 := by have q := hsx0_2.out; rw [HM0_2.out] at hcnr0_2; omega
  clear hcnr0_2
  have blP1 : w.heap.size < w16.heap.size := BXP1_16.out.lt
  have bcP1_0 : w16.cell? ⟨w.heap.size, 0, none⟩ = some (.slice a1_0 l1_0 cap1_0) := BXP1_16.out.cell (i := 0) (by decide)
  have bcP1_1 : w16.cell? ⟨w.heap.size, 1, none⟩ = some (.slice a1_1 l1_1 cap1_1) := BXP1_16.out.cell (i := 1) (by decide)
  have bcP1_2 : w16.cell? ⟨w.heap.size, 2, none⟩ = some (.slice a1_2 l1_2 cap1_2) := BXP1_16.out.cell (i := 2) (by decide)
  have blS0 : gbs < w16.heap.size := BXS0_16.out.lt
  have bcS0_0 : w16.cell? ⟨gbs, 0, none⟩ = some (.slice sa0_0 lr0_0 sc0_0) := BXS0_16.out.cell (i := 0) (by decide)
  have bcS0_1 : w16.cell? ⟨gbs, 1, none⟩ = some (.slice sa0_1 lr0_1 sc0_1) := BXS0_16.out.cell (i := 1) (by decide)
  have bcS0_2 : w16.cell? ⟨gbs, 2, none⟩ = some (.slice sa0_2 lr0_2 sc0_2) := BXS0_16.out.cell (i := 2) (by decide)
  have blX1 : w5.heap.size < w16.heap.size := BXX1_16.out.lt
  have bcX1_0 : w16.cell? ⟨w5.heap.size, 0, none⟩ = some (.slice (some ⟨Xg1_0, 0, none⟩) l1_0 l1_0) := BXX1_16.out.cell (i := 0) (by decide)
  have bcX1_1 : w16.cell? ⟨w5.heap.size, 1, none⟩ = some (.slice (some ⟨Xg1_1, 0, none⟩) l1_1 l1_1) := BXX1_16.out.cell (i := 1) (by decide)
  have bcX1_2 : w16.cell? ⟨w5.heap.size, 2, none⟩ = some (.slice (some ⟨Xg1_2, 0, none⟩) l1_2 l1_2) := BXX1_16.out.cell (i := 2) (by decide)
  have blG0 : w7.heap.size < w16.heap.size := BXG0_16.out.lt
  have bcG0_0 : w16.cell? ⟨w7.heap.size, 0, none⟩ = some (.slice ga0_0 lr0_0 gc0_0) := BXG0_16.out.cell (i := 0) (by decide)
  have bcG0_1 : w16.cell? ⟨w7.heap.size, 1, none⟩ = some (.slice ga0_1 lr0_1 gc0_1) := BXG0_16.out.cell (i := 1) (by decide)
  have bcG0_2 : w16.cell? ⟨w7.heap.size, 2, none⟩ = some (.slice ga0_2 lr0_2 gc0_2) := BXG0_16.out.cell (i := 2) (by decide)
  go_wp2_with fail
  clear blP1 bcP1_0 bcP1_1 bcP1_2 blS0 bcS0_0 bcS0_1 bcS0_2 blX1 bcX1_0 bcX1_1 bcX1_2 blG0 bcG0_0 bcG0_1 bcG0_2
  refine (Frame_mark (1) (by omega) (by omega) _ _ _ csr0_0 _ _ _ csr0_1 _ _ _ csr0_2 false _ _ _ _ _ hfr0_0 hsr0_0 G0_0_16 (fun x hx => by have r1 := (GF0_0.out x hx).2; have q8 := SZ8.out; have q9 := SZ9.out; have q10 := SZ10.out; have q11 := SZ11.out; have q12 := SZ12.out; have q13 := SZ13.out; have q14 := SZ14.out; have q15 := SZ15.out; have q16 := SZ16.out; omega) hfr0_1 hsr0_1 G0_1_16 (fun x hx => by have r1 := (GF0_1.out x hx).2; have q8 := SZ8.out; have q9 := SZ9.out; have q10 := SZ10.out; have q11 := SZ11.out; have q12 := SZ12.out; have q13 := SZ13.out; have q14 := SZ14.out; have q15 := SZ15.out; have q16 := SZ16.out; omega) hfr0_2 hsr0_2 G0_2_16 (fun x hx => by have r1 := (GF0_2.out x hx).2; have q8 := SZ8.out; have q9 := SZ9.out; have q10 := SZ10.out; have q11 := SZ11.out; have q12 := SZ12.out; have q13 := SZ13.out; have q14 := SZ14.out; have q15 := SZ15.out; have q16 := SZ16.out; omega) GD0_00_1.out GD0_00_2.out GD0_10_2.out).mono ?_
  rw [HM0_0.out, HM0_1.out, HM0_2.out]
  rintro e w17 ⟨rfl, hO0_0, hO0_1, hO0_2, hF⟩
  have hB : Below w6.heap.size w16 w17 := hF.below (by have q7 := SZ7.out; have q8 := SZ8.out; have q9 := SZ9.out; have q10 := SZ10.out; have q11 := SZ11.out; have q12 := SZ12.out; have q13 := SZ13.out; have q14 := SZ14.out; have q15 := SZ15.out; have q16 := SZ16.out; omega) (fun x hx => by rcases hx with hx | hx | hx <;> first | exact (GF0_0.out x hx).1 | exact (GF0_1.out x hx).1 | exact (GF0_2.out x hx).1)
  have BW17 : Hid (Below w.heap.size w w17) := BW16.out.trans (hB.mono BW6.out.size)
  have SZ17 : Hid (w16.heap.size ≤ w17.heap.size) := hB.size
  have BS17 : Hid (Below w3.heap.size w3 w17) := BS16.out.trans (hB.mono BS6.out.size)
  have G0_0_17 : Hid (Owns w17 false w6.heap.size (mkD (1) (.l lr0_0 1 csr0_0)) (.slice ga0_0 lr0_0 gc0_0) gP0_0) := hO0_0
  have G0_1_17 : Hid (Owns w17 false w6.heap.size (mkD (1 + (M0_0 : Int)) (.l lr0_1 1 csr0_1)) (.slice ga0_1 lr0_1 gc0_1) gP0_1) := hO0_1
  have G0_2_17 : Hid (Owns w17 false w6.heap.size (mkD (1 + (M0_0 : Int) + (M0_1 : Int)) (.l lr0_2 1 csr0_2)) (.slice ga0_2 lr0_2 gc0_2) gP0_2) := hO0_2
  have BXP1_17 : Hid (w17.rowIs (w.heap.size) 36 3 (rowF [.slice a1_0 l1_0 cap1_0, .slice a1_1 l1_1 cap1_1, .slice a1_2 l1_2 cap1_2])) := BXP1_16.out.of_block (hF.block _ BXP1_16.out.lt (fun hy => by rcases hy with hy | hy | hy <;> first | (have r0 := GF0_0.out _ hy; have r1 := r0.1; have r2 := LTP1.out; have q2 := SZ2.out; have q3 := SZ3.out; have q4 := SZ4.out; have q5 := SZ5.out; have q6 := SZ6.out; omega) | (have r0 := GF0_1.out _ hy; have r1 := r0.1; have r2 := LTP1.out; have q2 := SZ2.out; have q3 := SZ3.out; have q4 := SZ4.out; have q5 := SZ5.out; have q6 := SZ6.out; omega) | (have r0 := GF0_2.out _ hy; have r1 := r0.1; have r2 := LTP1.out; have q2 := SZ2.out; have q3 := SZ3.out; have q4 := SZ4.out; have q5 := SZ5.out; have q6 := SZ6.out; omega)))
  have BXS0_17 : Hid (w17.rowIs (gbs) 39 3 (rowF [.slice sa0_0 lr0_0 sc0_0, .slice sa0_1 lr0_1 sc0_1, .slice sa0_2 lr0_2 sc0_2])) := BXS0_16.out.of_block (hF.block _ BXS0_16.out.lt (fun hy => by rcases hy with hy | hy | hy <;> first | (have r0 := GF0_0.out _ hy; have r1 := r0.1; have r2 := LTS0.out; have q4 := SZ4.out; have q5 := SZ5.out; have q6 := SZ6.out; omega) | (have r0 := GF0_1.out _ hy; have r1 := r0.1; have r2 := LTS0.out; have q4 := SZ4.out; have q5 := SZ5.out; have q6 := SZ6.out; omega) | (have r0 := GF0_2.out _ hy; have r1 := r0.1; have r2 := LTS0.out; have q4 := SZ4.out; have q5 := SZ5.out; have q6 := SZ6.out; omega)))
  have BXX1_17 : Hid (w17.rowIs (w5.heap.size) 39 3 (rowF [.slice (some ⟨Xg1_0, 0, none⟩) l1_0 l1_0, .slice (some ⟨Xg1_1, 0, none⟩) l1_1 l1_1, .slice (some ⟨Xg1_2, 0, none⟩) l1_2 l1_2])) := BXX1_16.out.of_block (hF.block _ BXX1_16.out.lt (fun hy => by rcases hy with hy | hy | hy <;> first | (have r0 := GF0_0.out _ hy; have r1 := r0.1; have r2 := LTX1.out;  omega) | (have r0 := GF0_1.out _ hy; have r1 := r0.1; have r2 := LTX1.out;  omega) | (have r0 := GF0_2.out _ hy; have r1 := r0.1; have r2 := LTX1.out;  omega)))
  have BXG0_17 : Hid (w17.rowIs (w7.heap.size) 39 3 (rowF [.slice ga0_0 lr0_0 gc0_0, .slice ga0_1 lr0_1 gc0_1, .slice ga0_2 lr0_2 gc0_2])) := BXG0_16.out.of_block (hF.block _ BXG0_16.out.lt (fun hy => by rcases hy with hy | hy | hy <;> first | (have r0 := GF0_0.out _ hy; have r1 := r0.2; have r3 := ADG0.out;  omega) | (have r0 := GF0_1.out _ hy; have r1 := r0.2; have r3 := ADG0.out;  omega) | (have r0 := GF0_2.out _ hy; have r1 := r0.2; have r3 := ADG0.out;  omega)))
  clear hF hB hO0_0 hO0_1 hO0_2
  have hm : (0 : Int) ≤ 1 + (M0_0 : Int) + (M0_1 : Int) + (M0_2 : Int) := by omega
  have blP1 : w.heap.size < w17.heap.size := BXP1_17.out.lt
  have bcP1_0 : w17.cell? ⟨w.heap.size, 0, none⟩ = some (.slice a1_0 l1_0 cap1_0) := BXP1_17.out.cell (i := 0) (by decide)
  have bcP1_1 : w17.cell? ⟨w.heap.size, 1, none⟩ = some (.slice a1_1 l1_1 cap1_1) := BXP1_17.out.cell (i := 1) (by decide)
  have bcP1_2 : w17.cell? ⟨w.heap.size, 2, none⟩ = some (.slice a1_2 l1_2 cap1_2) := BXP1_17.out.cell (i := 2) (by decide)
  have blS0 : gbs < w17.heap.size := BXS0_17.out.lt
  have bcS0_0 : w17.cell? ⟨gbs, 0, none⟩ = some (.slice sa0_0 lr0_0 sc0_0) := BXS0_17.out.cell (i := 0) (by decide)
  have bcS0_1 : w17.cell? ⟨gbs, 1, none⟩ = some (.slice sa0_1 lr0_1 sc0_1) := BXS0_17.out.cell (i := 1) (by decide)
  have bcS0_2 : w17.cell? ⟨gbs, 2, none⟩ = some (.slice sa0_2 lr0_2 sc0_2) := BXS0_17.out.cell (i := 2) (by decide)
  have blX1 : w5.heap.size < w17.heap.size := BXX1_17.out.lt
  have bcX1_0 : w17.cell? ⟨w5.heap.size, 0, none⟩ = some (.slice (some ⟨Xg1_0, 0, none⟩) l1_0 l1_0) := BXX1_17.out.cell (i := 0) (by decide)
  have bcX1_1 : w17.cell? ⟨w5.heap.size, 1, none⟩ = some (.slice (some ⟨Xg1_1, 0, none⟩) l1_1 l1_1) := BXX1_17.out.cell (i := 1) (by decide)
  have bcX1_2 : w17.cell? ⟨w5.heap.size, 2, none⟩ = some (.slice (some ⟨Xg1_2, 0, none⟩) l1_2 l1_2) := BXX1_17.out.cell (i := 2) (by decide)
  have blG0 : w7.heap.size < w17.heap.size := BXG0_17.out.lt
  have bcG0_0 : w17.cell? ⟨w7.heap.size, 0, none⟩ = some (.slice ga0_0 lr0_0 gc0_0) := BXG0_17.out.cell (i := 0) (by decide)
  have bcG0_1 : w17.cell? ⟨w7.heap.size, 1, none⟩ = some (.slice ga0_1 lr0_1 gc0_1) := BXG0_17.out.cell (i := 1) (by decide)
  have bcG0_2 : w17.cell? ⟨w7.heap.size, 2, none⟩ = some (.slice ga0_2 lr0_2 gc0_2) := BXG0_17.out.cell (i := 2) (by decide)
  go_wp2_with fail
  clear blP1 bcP1_0 bcP1_1 bcP1_2 blS0 bcS0_0 bcS0_1 bcS0_2 blX1 bcX1_0 bcX1_1 bcX1_2 blG0 bcG0_0 bcG0_1 bcG0_2
  refine (Frame_held (1) (by omega) _ _ _ csr0_0 _ _ _ csr0_1 _ _ _ csr0_2 false _ hfr0_0 hsr0_0 hfr0_1 hsr0_1 hfr0_2 hsr0_2 (by rw [HM0_0.out, HM0_1.out, HM0_2.out]; omega) G0_0_17.out.holds (by rw [HM0_0.out]; exact G0_1_17.out.holds) (by rw [HM0_0.out, HM0_1.out]; exact G0_2_17.out.holds)).mono ?_
  rw [HM0_0.out, HM0_1.out, HM0_2.out]
  rintro e w18 ⟨rfl, hB⟩
  have BW18 : Hid (Below w.heap.size w w18) := BW17.out.trans (hB.mono BW17.out.size)
  have SZ18 : Hid (w17.heap.size ≤ w18.heap.size) := hB.size
  have BS18 : Hid (Below w3.heap.size w3 w18) := BS17.out.trans (hB.mono BS17.out.size)
  have G0_0_18 : Hid (Owns w18 false w6.heap.size (mkD (1) (.l lr0_0 1 csr0_0)) (.slice ga0_0 lr0_0 gc0_0) gP0_0) := G0_0_17.out.kept hB
  have G0_1_18 : Hid (Owns w18 false w6.heap.size (mkD (1 + (M0_0 : Int)) (.l lr0_1 1 csr0_1)) (.slice ga0_1 lr0_1 gc0_1) gP0_1) := G0_1_17.out.kept hB
  have G0_2_18 : Hid (Owns w18 false w6.heap.size (mkD (1 + (M0_0 : Int) + (M0_1 : Int)) (.l lr0_2 1 csr0_2)) (.slice ga0_2 lr0_2 gc0_2) gP0_2) := G0_2_17.out.kept hB
  have BXP1_18 : Hid (w18.rowIs (w.heap.size) 36 3 (rowF [.slice a1_0 l1_0 cap1_0, .slice a1_1 l1_1 cap1_1, .slice a1_2 l1_2 cap1_2])) := BXP1_17.out.of_block (hB.block _ BXP1_17.out.lt)
  have BXS0_18 : Hid (w18.rowIs (gbs) 39 3 (rowF [.slice sa0_0 lr0_0 sc0_0, .slice sa0_1 lr0_1 sc0_1, .slice sa0_2 lr0_2 sc0_2])) := BXS0_17.out.of_block (hB.block _ BXS0_17.out.lt)
  have BXX1_18 : Hid (w18.rowIs (w5.heap.size) 39 3 (rowF [.slice (some ⟨Xg1_0, 0, none⟩) l1_0 l1_0, .slice (some ⟨Xg1_1, 0, none⟩) l1_1 l1_1, .slice (some ⟨Xg1_2, 0, none⟩) l1_2 l1_2])) := BXX1_17.out.of_block (hB.block _ BXX1_17.out.lt)
  have BXG0_18 : Hid (w18.rowIs (w7.heap.size) 39 3 (rowF [.slice ga0_0 lr0_0 gc0_0, .slice ga0_1 lr0_1 gc0_1, .slice ga0_2 lr0_2 gc0_2])) := BXG0_17.out.of_block (hB.block _ BXG0_17.out.lt)
  clear hB
  have hq18_0 : (0 : Int) ≤ 1 + (M0_0 : Int) + (M0_1 : Int) + (M0_2 : Int) := by omega
  have blP1 : w.heap.size < w18.heap.size := BXP1_18.out.lt
  have bcP1_0 : w18.cell? ⟨w.heap.size, 0, none⟩ = some (.slice a1_0 l1_0 cap1_0) := BXP1_18.out.cell (i := 0) (by decide)
  have bcP1_1 : w18.cell? ⟨w.heap.size, 1, none⟩ = some (.slice a1_1 l1_1 cap1_1) := BXP1_18.out.cell (i := 1) (by decide)
  have bcP1_2 : w18.cell? ⟨w.heap.size, 2, none⟩ = some (.slice a1_2 l1_2 cap1_2) := BXP1_18.out.cell (i := 2) (by decide)
  have blS0 : gbs < w18.heap.size := BXS0_18.out.lt
  have bcS0_0 : w18.cell? ⟨gbs, 0, none⟩ = some (.slice sa0_0 lr0_0 sc0_0) := BXS0_18.out.cell (i := 0) (by decide)
  have bcS0_1 : w18.cell? ⟨gbs, 1, none⟩ = some (.slice sa0_1 lr0_1 sc0_1) := BXS0_18.out.cell (i := 1) (by decide)
  have bcS0_2 : w18.cell? ⟨gbs, 2, none⟩ = some (.slice sa0_2 lr0_2 sc0_2) := BXS0_18.out.cell (i := 2) (by decide)
  have blX1 : w5.heap.size < w18.heap.size := BXX1_18.out.lt
  have bcX1_0 : w18.cell? ⟨w5.heap.size, 0, none⟩ = some (.slice (some ⟨Xg1_0, 0, none⟩) l1_0 l1_0) := BXX1_18.out.cell (i := 0) (by decide)
  have bcX1_1 : w18.cell? ⟨w5.heap.size, 1, none⟩ = some (.slice (some ⟨Xg1_1, 0, none⟩) l1_1 l1_1) := BXX1_18.out.cell (i := 1) (by decide)
  have bcX1_2 : w18.cell? ⟨w5.heap.size, 2, none⟩ = some (.slice (some ⟨Xg1_2, 0, none⟩) l1_2 l1_2) := BXX1_18.out.cell (i := 2) (by decide)
  have blG0 : w7.heap.size < w18.heap.size := BXG0_18.out.lt
  have bcG0_0 : w18.cell? ⟨w7.heap.size, 0, none⟩ = some (.slice ga0_0 lr0_0 gc0_0) := BXG0_18.out.cell (i := 0) (by decide)
  have bcG0_1 : w18.cell? ⟨w7.heap.size, 1, none⟩ = some (.slice ga0_1 lr0_1 gc0_1) := BXG0_18.out.cell (i := 1) (by decide)
  have bcG0_2 : w18.cell? ⟨w7.heap.size, 2, none⟩ = some (.slice ga0_2 lr0_2 gc0_2) := BXG0_18.out.cell (i := 2) (by decide)
  go_wp2_with fail
  clear blP1 bcP1_0 bcP1_1 bcP1_2 blS0 bcS0_0 bcS0_1 bcS0_2 blX1 bcX1_0 bcX1_1 bcX1_2 blG0 bcG0_0 bcG0_1 bcG0_2
  have RR18 : Hid (∀ w', Below w18.heap.size w18 w' → (w'.cell? ⟨w.heap.size, 0, none⟩ = some (.slice a1_0 l1_0 cap1_0) ∧ w'.cell? ⟨w.heap.size, 1, none⟩ = some (.slice a1_1 l1_1 cap1_1) ∧ w'.cell? ⟨w.heap.size, 2, none⟩ = some (.slice a1_2 l1_2 cap1_2))) := fun w' q => ⟨(BXP1_18.out.of_block (q.block _ BXP1_18.out.lt)).cell (i := 0)  (by decide), (BXP1_18.out.of_block (q.block _ BXP1_18.out.lt)).cell (i := 1)  (by decide), (BXP1_18.out.of_block (q.block _ BXP1_18.out.lt)).cell (i := 2)  (by decide)⟩
  go_cut [19, 20] (fun v0 v1 wx => ∃ gb ha0_0 hc0_0 ha0_1 hc0_1 ha0_2 hc0_2, v0 = .pointer (some ⟨gb, 0, none⟩) ∧ v1 = .bool xr1 ∧ Hid (Below w18.heap.size w18 wx) ∧ Hid (wx.rowIs gb 39 3 (rowF [.slice ha0_0 lr0_0 hc0_0, .slice ha0_1 lr0_1 hc0_1, .slice ha0_2 lr0_2 hc0_2])) ∧ Hid (Holds wx false (.l lr0_0 1 csr0_0) (.slice ha0_0 lr0_0 hc0_0)) ∧ Hid (Holds wx false (.l lr0_1 1 csr0_1) (.slice ha0_1 lr0_1 hc0_1)) ∧ Hid (Holds wx false (.l lr0_2 1 csr0_2) (.slice ha0_2 lr0_2 hc0_2)))
  case first =>
    have hD : Hid (Below w18.heap.size w18 w18.drew) := (Below.refl _ _).drew
    have qs0 := RR18.out _ (Below.refl w18.heap.size w18)
    have qd0 := RR18.out _ hD.out
    go_region_held3 (fun w' => (w'.cell? ⟨w.heap.size, 0, none⟩ = some (.slice a1_0 l1_0 cap1_0) ∧ w'.cell? ⟨w.heap.size, 1, none⟩ = some (.slice a1_1 l1_1 cap1_1) ∧ w'.cell? ⟨w.heap.size, 2, none⟩ = some (.slice a1_2 l1_2 cap1_2))) (first | exact qs0 | exact qd0 | with_reducible exact RR18.out _ BI1.out | with_reducible exact RR18.out _ BI2.out | with_reducible exact RR18.out _ BI3.out | exact RR18.out _ (hD.out.alloc hD.out.size _) | with_reducible exact RR18.out _ (BI1.out.alloc BI1.out.size _) | with_reducible exact RR18.out _ (BI2.out.alloc BI2.out.size _) | with_reducible exact RR18.out _ (BI3.out.alloc BI3.out.size _) | exact RR18.out _ (below_put BI3.out (by first | exact Nat.le_refl _ | exact BI1.out.size | exact BI2.out.size) _ _ _)) (first
      | (go_at_call 10; go_fit (SStepS_to _ _ _ cs0 false (w18.drew.alloc (.cells #[.slice none 0 0, .slice none 0 0, .slice none 0 0] 39)) hf0 hs0 (h0.out.kept (BW18.out.trans ((hD.out.alloc hD.out.size _).mono BW18.out.size)))); rintro e Cu1 ⟨rfl, hO, hB⟩; have BI1 : Hid (Below w18.heap.size w18 Cu1) := (hD.out.alloc hD.out.size _).trans (hB.mono (hD.out.alloc hD.out.size _).size); have RB1 : Hid (World.rowIs Cu1 w18.heap.size 39 3 (rowF [.slice none 0 0, .slice none 0 0, .slice none 0 0])) := (row_of (w18.drew) #[.slice none 0 0, .slice none 0 0, .slice none 0 0] 39).of_block (hB.block _ (row_of (w18.drew) #[.slice none 0 0, .slice none 0 0, .slice none 0 0] 39).lt); obtain ⟨Cg0, Ce0⟩ : ∃ q, q = (w18.drew.alloc (.cells #[.slice none 0 0, .slice none 0 0, .slice none 0 0] 39)).heap.size := ⟨_, rfl⟩; rw [← Ce0] at hO ⊢; have C0_1 : Hid (Holds Cu1 true (.l l0 2 cs0) (.slice (some ⟨Cg0, 0, none⟩) l0 l0)) := hO.holds; clear hO Ce0; clear hB)
      | (go_at_call 10; go_fit (SStepS_to _ _ _ cs0 false w18.drew hf0 hs0 (h0.out.kept (BW18.out.trans (hD.out.mono BW18.out.size)))); rintro e Cu1 ⟨rfl, hO, hB⟩; have BI1 : Hid (Below w18.heap.size w18 Cu1) := hD.out.trans (hB.mono hD.out.size); obtain ⟨Cg0, Ce0⟩ : ∃ q, q = w18.drew.heap.size := ⟨_, rfl⟩; rw [← Ce0] at hO ⊢; have C0_1 : Hid (Holds Cu1 true (.l l0 2 cs0) (.slice (some ⟨Cg0, 0, none⟩) l0 l0)) := hO.holds; clear hO Ce0; clear hB)
      | (go_at_call 21; go_fit (Frame_to _ _ _ cs1_0 _ _ _ cs1_1 _ _ _ cs1_2 false (Cu1.alloc (.cells #[.slice none 0 0, .slice none 0 0, .slice none 0 0] 39)) hf1_0 hs1_0 (h1_0.out.kept (BW18.out.trans ((BI1.out.alloc BI1.out.size _).mono BW18.out.size))) hf1_1 hs1_1 (h1_1.out.kept (BW18.out.trans ((BI1.out.alloc BI1.out.size _).mono BW18.out.size))) hf1_2 hs1_2 (h1_2.out.kept (BW18.out.trans ((BI1.out.alloc BI1.out.size _).mono BW18.out.size)))); rintro e Cu2 ⟨Cg1_0, Cg1_1, Cg1_2, Cq1_1, Cq1_2, rfl, hO1_0, hO1_1, hO1_2, hle0, hle1, hle2, hB⟩; have BI2 : Hid (Below w18.heap.size w18 Cu2) := (BI1.out.alloc BI1.out.size _).trans (hB.mono (BI1.out.alloc BI1.out.size _).size); have RB2 : Hid (World.rowIs Cu2 Cu1.heap.size 39 3 (rowF [.slice none 0 0, .slice none 0 0, .slice none 0 0])) := (row_of (Cu1) #[.slice none 0 0, .slice none 0 0, .slice none 0 0] 39).of_block (hB.block _ (row_of (Cu1) #[.slice none 0 0, .slice none 0 0, .slice none 0 0] 39).lt); have C1_0_2 : Hid (Holds Cu2 true (.l l1_0 1 cs1_0) (.slice (some ⟨Cg1_0, 0, none⟩) l1_0 l1_0)) := hO1_0.holds; have C1_1_2 : Hid (Holds Cu2 true (.l l1_1 1 cs1_1) (.slice (some ⟨Cg1_1, 0, none⟩) l1_1 l1_1)) := hO1_1.holds; have C1_2_2 : Hid (Holds Cu2 true (.l l1_2 1 cs1_2) (.slice (some ⟨Cg1_2, 0, none⟩) l1_2 l1_2)) := hO1_2.holds; clear hO1_0 hO1_1 hO1_2 hle0 hle1 hle2; have C0_2 : Hid (Holds Cu2 true (.l l0 2 cs0) _) := ((C0_1.out).kept ((Below.refl _ _).alloc (Nat.le_refl _) _)).kept hB; clear hB)
      | (go_at_call 21; go_fit (Frame_to _ _ _ cs1_0 _ _ _ cs1_1 _ _ _ cs1_2 false Cu1 hf1_0 hs1_0 (h1_0.out.kept (BW18.out.trans (BI1.out.mono BW18.out.size))) hf1_1 hs1_1 (h1_1.out.kept (BW18.out.trans (BI1.out.mono BW18.out.size))) hf1_2 hs1_2 (h1_2.out.kept (BW18.out.trans (BI1.out.mono BW18.out.size)))); rintro e Cu2 ⟨Cg1_0, Cg1_1, Cg1_2, Cq1_1, Cq1_2, rfl, hO1_0, hO1_1, hO1_2, hle0, hle1, hle2, hB⟩; have BI2 : Hid (Below w18.heap.size w18 Cu2) := BI1.out.trans (hB.mono BI1.out.size); (try (have RB2 : Hid (World.rowIs Cu2 _ 39 3 (rowF [.slice none 0 0, .slice none 0 0, .slice none 0 0])) := RB1.out.of_block (hB.block _ RB1.out.lt))); have C1_0_2 : Hid (Holds Cu2 true (.l l1_0 1 cs1_0) (.slice (some ⟨Cg1_0, 0, none⟩) l1_0 l1_0)) := hO1_0.holds; have C1_1_2 : Hid (Holds Cu2 true (.l l1_1 1 cs1_1) (.slice (some ⟨Cg1_1, 0, none⟩) l1_1 l1_1)) := hO1_1.holds; have C1_2_2 : Hid (Holds Cu2 true (.l l1_2 1 cs1_2) (.slice (some ⟨Cg1_2, 0, none⟩) l1_2 l1_2)) := hO1_2.holds; clear hO1_0 hO1_1 hO1_2 hle0 hle1 hle2; have C0_2 : Hid (Holds Cu2 true (.l l0 2 cs0) _) := (C0_1.out).kept hB; clear hB)
      | (go_at_call 25; go_fit (HI.out (Cu2.alloc (.cells #[.slice none 0 0, .slice none 0 0, .slice none 0 0] 39)) _ _ _ _ _ _ _ _ (C0_2.out.kept ((Below.refl _ _).alloc (Nat.le_refl _) _)) (C1_0_2.out.kept ((Below.refl _ _).alloc (Nat.le_refl _) _)) (C1_1_2.out.kept ((Below.refl _ _).alloc (Nat.le_refl _) _)) (C1_2_2.out.kept ((Below.refl _ _).alloc (Nat.le_refl _) _))); rintro e Cu3 ⟨ha0_0, hc0_0, ha0_1, hc0_1, ha0_2, hc0_2, hP0_0, hP0_1, hP0_2, rfl, hO0_0, hF0_0, hO0_1, hF0_1, hO0_2, hF0_2, hD0_00_1, hD0_00_2, hD0_10_2, hB⟩; have BI3 : Hid (Below w18.heap.size w18 Cu3) := (BI2.out.alloc BI2.out.size _).trans (hB.mono (BI2.out.alloc BI2.out.size _).size); have RB3 : Hid (World.rowIs Cu3 Cu2.heap.size 39 3 (rowF [.slice none 0 0, .slice none 0 0, .slice none 0 0])) := (row_of (Cu2) #[.slice none 0 0, .slice none 0 0, .slice none 0 0] 39).of_block (hB.block _ (row_of (Cu2) #[.slice none 0 0, .slice none 0 0, .slice none 0 0] 39).lt); have NF0_0 : Hid _ := nf_of (row_of (Cu2) #[.slice none 0 0, .slice none 0 0, .slice none 0 0] 39) hF0_0; have NF0_1 : Hid _ := nf_of (row_of (Cu2) #[.slice none 0 0, .slice none 0 0, .slice none 0 0] 39) hF0_1; have NF0_2 : Hid _ := nf_of (row_of (Cu2) #[.slice none 0 0, .slice none 0 0, .slice none 0 0] 39) hF0_2; have OC0_0 : Hid (Owns Cu3 false _ (.l lr0_0 1 csr0_0) (.slice ha0_0 lr0_0 hc0_0) hP0_0) := hO0_0; clear hO0_0 hF0_0; have OC0_1 : Hid (Owns Cu3 false _ (.l lr0_1 1 csr0_1) (.slice ha0_1 lr0_1 hc0_1) hP0_1) := hO0_1; clear hO0_1 hF0_1; have OC0_2 : Hid (Owns Cu3 false _ (.l lr0_2 1 csr0_2) (.slice ha0_2 lr0_2 hc0_2) hP0_2) := hO0_2; clear hO0_2 hF0_2; clear hD0_00_1; clear hD0_00_2; clear hD0_10_2; have kb := RB3.out; have kc0 : World.cell? Cu3 ⟨_, 0, none⟩ = some (.slice none 0 0) := kb.cell (i := 0) (by decide); have kf0 := kb.frozen 0; have kc1 : World.cell? Cu3 ⟨_, 1, none⟩ = some (.slice none 0 0) := kb.cell (i := 1) (by decide); have kf1 := kb.frozen 1; have kc2 : World.cell? Cu3 ⟨_, 2, none⟩ = some (.slice none 0 0) := kb.cell (i := 2) (by decide); have kf2 := kb.frozen 2; have kl := kb.lt; clear kb; clear hB)
      | (go_at_call 25; go_fit (HI.out Cu2 _ _ _ _ _ _ _ _ C0_2 C1_0_2 C1_1_2 C1_2_2); rintro e Cu3 ⟨ha0_0, hc0_0, ha0_1, hc0_1, ha0_2, hc0_2, hP0_0, hP0_1, hP0_2, rfl, hO0_0, hF0_0, hO0_1, hF0_1, hO0_2, hF0_2, hD0_00_1, hD0_00_2, hD0_10_2, hB⟩; have BI3 : Hid (Below w18.heap.size w18 Cu3) := BI2.out.trans (hB.mono BI2.out.size); (try (have RB3 : Hid (World.rowIs Cu3 _ 39 3 (rowF [.slice none 0 0, .slice none 0 0, .slice none 0 0])) := RB2.out.of_block (hB.block _ RB2.out.lt))); (try (have NF0_0 : Hid _ := nf_of RB2.out hF0_0; have NF0_1 : Hid _ := nf_of RB2.out hF0_1; have NF0_2 : Hid _ := nf_of RB2.out hF0_2)); have OC0_0 : Hid (Owns Cu3 false _ (.l lr0_0 1 csr0_0) (.slice ha0_0 lr0_0 hc0_0) hP0_0) := hO0_0; clear hO0_0 hF0_0; have OC0_1 : Hid (Owns Cu3 false _ (.l lr0_1 1 csr0_1) (.slice ha0_1 lr0_1 hc0_1) hP0_1) := hO0_1; clear hO0_1 hF0_1; have OC0_2 : Hid (Owns Cu3 false _ (.l lr0_2 1 csr0_2) (.slice ha0_2 lr0_2 hc0_2) hP0_2) := hO0_2; clear hO0_2 hF0_2; clear hD0_00_1; clear hD0_00_2; clear hD0_10_2; (try (have kb := RB3.out; have kc0 : World.cell? Cu3 ⟨_, 0, none⟩ = some (.slice none 0 0) := kb.cell (i := 0) (by decide); have kf0 := kb.frozen 0; have kc1 : World.cell? Cu3 ⟨_, 1, none⟩ = some (.slice none 0 0) := kb.cell (i := 1) (by decide); have kf1 := kb.frozen 1; have kc2 : World.cell? Cu3 ⟨_, 2, none⟩ = some (.slice none 0 0) := kb.cell (i := 2) (by decide); have kf2 := kb.frozen 2; have kl := kb.lt; clear kb)); clear hB))
    all_goals (go_wp2_with fail; go_meet; first
      | exact ⟨_, ha0_0, hc0_0, ha0_1, hc0_1, ha0_2, hc0_2, rfl, rfl, BI3.out.alloc BI3.out.size _, row_of Cu3 #[.slice ha0_0 lr0_0 hc0_0, .slice ha0_1 lr0_1 hc0_1, .slice ha0_2 lr0_2 hc0_2] 39, (OC0_0.out.kept ((Below.refl _ _).alloc (Nat.le_refl _) _)).holds, (OC0_1.out.kept ((Below.refl _ _).alloc (Nat.le_refl _) _)).holds, (OC0_2.out.kept ((Below.refl _ _).alloc (Nat.le_refl _) _)).holds⟩
      | exact ⟨_, ha0_0, hc0_0, ha0_1, hc0_1, ha0_2, hc0_2, rfl, rfl, below_put BI3.out (by first | exact Nat.le_refl _ | exact BI1.out.size | exact BI2.out.size) _ _ _, row_put RB3.out _ _ _, (owns_put OC0_0.out NF0_0.out _ _ _).holds, (owns_put OC0_1.out NF0_1.out _ _ _).holds, (owns_put OC0_2.out NF0_2.out _ _ _).holds⟩)
  obtain ⟨gbh, ha0_0, hc0_0, ha0_1, hc0_1, ha0_2, hc0_2, rfl, rfl, hB, hRW, hH0_0, hH0_1, hH0_2⟩ := hcut
  obtain ⟨w19, ewc⟩ : ∃ q, q = wc := ⟨_, rfl⟩
  subst ewc
  have hB : Below w18.heap.size w18 w19 := hB
  have BW19 : Hid (Below w.heap.size w w19) := BW18.out.trans (hB.mono BW18.out.size)
  have SZ19 : Hid (w18.heap.size ≤ w19.heap.size) := hB.size
  have BS19 : Hid (Below w3.heap.size w3 w19) := BS18.out.trans (hB.mono BS18.out.size)
  have G0_0_19 : Hid (Owns w19 false w6.heap.size (mkD (1) (.l lr0_0 1 csr0_0)) (.slice ga0_0 lr0_0 gc0_0) gP0_0) := G0_0_18.out.kept hB
  have G0_1_19 : Hid (Owns w19 false w6.heap.size (mkD (1 + (M0_0 : Int)) (.l lr0_1 1 csr0_1)) (.slice ga0_1 lr0_1 gc0_1) gP0_1) := G0_1_18.out.kept hB
  have G0_2_19 : Hid (Owns w19 false w6.heap.size (mkD (1 + (M0_0 : Int) + (M0_1 : Int)) (.l lr0_2 1 csr0_2)) (.slice ga0_2 lr0_2 gc0_2) gP0_2) := G0_2_18.out.kept hB
  have BXP1_19 : Hid (w19.rowIs (w.heap.size) 36 3 (rowF [.slice a1_0 l1_0 cap1_0, .slice a1_1 l1_1 cap1_1, .slice a1_2 l1_2 cap1_2])) := BXP1_18.out.of_block (hB.block _ BXP1_18.out.lt)
  have BXS0_19 : Hid (w19.rowIs (gbs) 39 3 (rowF [.slice sa0_0 lr0_0 sc0_0, .slice sa0_1 lr0_1 sc0_1, .slice sa0_2 lr0_2 sc0_2])) := BXS0_18.out.of_block (hB.block _ BXS0_18.out.lt)
  have BXX1_19 : Hid (w19.rowIs (w5.heap.size) 39 3 (rowF [.slice (some ⟨Xg1_0, 0, none⟩) l1_0 l1_0, .slice (some ⟨Xg1_1, 0, none⟩) l1_1 l1_1, .slice (some ⟨Xg1_2, 0, none⟩) l1_2 l1_2])) := BXX1_18.out.of_block (hB.block _ BXX1_18.out.lt)
  have BXG0_19 : Hid (w19.rowIs (w7.heap.size) 39 3 (rowF [.slice ga0_0 lr0_0 gc0_0, .slice ga0_1 lr0_1 gc0_1, .slice ga0_2 lr0_2 gc0_2])) := BXG0_18.out.of_block (hB.block _ BXG0_18.out.lt)
  have BXH0_19 : Hid (w19.rowIs (gbh) 39 3 (rowF [.slice ha0_0 lr0_0 hc0_0, .slice ha0_1 lr0_1 hc0_1, .slice ha0_2 lr0_2 hc0_2])) := hRW
  have LTH0 : Hid (gbh < w19.heap.size) := BXH0_19.out.lt
  have H0_0_19 : Hid (Holds w19 false (.l lr0_0 1 csr0_0) (.slice ha0_0 lr0_0 hc0_0)) := hH0_0
  have H0_1_19 : Hid (Holds w19 false (.l lr0_1 1 csr0_1) (.slice ha0_1 lr0_1 hc0_1)) := hH0_1
  have H0_2_19 : Hid (Holds w19 false (.l lr0_2 1 csr0_2) (.slice ha0_2 lr0_2 hc0_2)) := hH0_2
  clear hB hRW RR18 hH0_0 hH0_1 hH0_2
  have blP1 : w.heap.size < w19.heap.size := BXP1_19.out.lt
  have bcP1_0 : w19.cell? ⟨w.heap.size, 0, none⟩ = some (.slice a1_0 l1_0 cap1_0) := BXP1_19.out.cell (i := 0) (by decide)
  have bcP1_1 : w19.cell? ⟨w.heap.size, 1, none⟩ = some (.slice a1_1 l1_1 cap1_1) := BXP1_19.out.cell (i := 1) (by decide)
  have bcP1_2 : w19.cell? ⟨w.heap.size, 2, none⟩ = some (.slice a1_2 l1_2 cap1_2) := BXP1_19.out.cell (i := 2) (by decide)
  have blS0 : gbs < w19.heap.size := BXS0_19.out.lt
  have bcS0_0 : w19.cell? ⟨gbs, 0, none⟩ = some (.slice sa0_0 lr0_0 sc0_0) := BXS0_19.out.cell (i := 0) (by decide)
  have bcS0_1 : w19.cell? ⟨gbs, 1, none⟩ = some (.slice sa0_1 lr0_1 sc0_1) := BXS0_19.out.cell (i := 1) (by decide)
  have bcS0_2 : w19.cell? ⟨gbs, 2, none⟩ = some (.slice sa0_2 lr0_2 sc0_2) := BXS0_19.out.cell (i := 2) (by decide)
  have blX1 : w5.heap.size < w19.heap.size := BXX1_19.out.lt
  have bcX1_0 : w19.cell? ⟨w5.heap.size, 0, none⟩ = some (.slice (some ⟨Xg1_0, 0, none⟩) l1_0 l1_0) := BXX1_19.out.cell (i := 0) (by decide)
  have bcX1_1 : w19.cell? ⟨w5.heap.size, 1, none⟩ = some (.slice (some ⟨Xg1_1, 0, none⟩) l1_1 l1_1) := BXX1_19.out.cell (i := 1) (by decide)
  have bcX1_2 : w19.cell? ⟨w5.heap.size, 2, none⟩ = some (.slice (some ⟨Xg1_2, 0, none⟩) l1_2 l1_2) := BXX1_19.out.cell (i := 2) (by decide)
  have blG0 : w7.heap.size < w19.heap.size := BXG0_19.out.lt
  have bcG0_0 : w19.cell? ⟨w7.heap.size, 0, none⟩ = some (.slice ga0_0 lr0_0 gc0_0) := BXG0_19.out.cell (i := 0) (by decide)
  have bcG0_1 : w19.cell? ⟨w7.heap.size, 1, none⟩ = some (.slice ga0_1 lr0_1 gc0_1) := BXG0_19.out.cell (i := 1) (by decide)
  have bcG0_2 : w19.cell? ⟨w7.heap.size, 2, none⟩ = some (.slice ga0_2 lr0_2 gc0_2) := BXG0_19.out.cell (i := 2) (by decide)
  have blH0 : gbh < w19.heap.size := BXH0_19.out.lt
  have bcH0_0 : w19.cell? ⟨gbh, 0, none⟩ = some (.slice ha0_0 lr0_0 hc0_0) := BXH0_19.out.cell (i := 0) (by decide)
  have bcH0_1 : w19.cell? ⟨gbh, 1, none⟩ = some (.slice ha0_1 lr0_1 hc0_1) := BXH0_19.out.cell (i := 1) (by decide)
  have bcH0_2 : w19.cell? ⟨gbh, 2, none⟩ = some (.slice ha0_2 lr0_2 hc0_2) := BXH0_19.out.cell (i := 2) (by decide)
  go_wp2_with fail
  clear blP1 bcP1_0 bcP1_1 bcP1_2 blS0 bcS0_0 bcS0_1 bcS0_2 blX1 bcX1_0 bcX1_1 bcX1_2 blG0 bcG0_0 bcG0_1 bcG0_2 blH0 bcH0_0 bcH0_1 bcH0_2
  refine (Frame_eq _ _ _ csr0_0 _ _ _ csr0_1 _ _ _ csr0_2 _ _ _ _ _ _ _ _ _ hfr0_0 hsr0_0 H0_0_19.out hfr0_1 hsr0_1 H0_1_19.out hfr0_2 hsr0_2 H0_2_19.out (S0_0.out.kept BS19.out) (S0_1.out.kept BS19.out) (S0_2.out.kept BS19.out)).mono ?_
  rintro e w20 ⟨rfl, hB⟩
  have BW20 : Hid (Below w.heap.size w w20) := BW19.out.trans (hB.mono BW19.out.size)
  have SZ20 : Hid (w19.heap.size ≤ w20.heap.size) := hB.size
  have BS20 : Hid (Below w3.heap.size w3 w20) := BS19.out.trans (hB.mono BS19.out.size)
  have G0_0_20 : Hid (Owns w20 false w6.heap.size (mkD (1) (.l lr0_0 1 csr0_0)) (.slice ga0_0 lr0_0 gc0_0) gP0_0) := G0_0_19.out.kept hB
  have G0_1_20 : Hid (Owns w20 false w6.heap.size (mkD (1 + (M0_0 : Int)) (.l lr0_1 1 csr0_1)) (.slice ga0_1 lr0_1 gc0_1) gP0_1) := G0_1_19.out.kept hB
  have G0_2_20 : Hid (Owns w20 false w6.heap.size (mkD (1 + (M0_0 : Int) + (M0_1 : Int)) (.l lr0_2 1 csr0_2)) (.slice ga0_2 lr0_2 gc0_2) gP0_2) := G0_2_19.out.kept hB
  have H0_0_20 : Hid (Holds w20 false (.l lr0_0 1 csr0_0) (.slice ha0_0 lr0_0 hc0_0)) := H0_0_19.out.kept hB
  have H0_1_20 : Hid (Holds w20 false (.l lr0_1 1 csr0_1) (.slice ha0_1 lr0_1 hc0_1)) := H0_1_19.out.kept hB
  have H0_2_20 : Hid (Holds w20 false (.l lr0_2 1 csr0_2) (.slice ha0_2 lr0_2 hc0_2)) := H0_2_19.out.kept hB
  have BXP1_20 : Hid (w20.rowIs (w.heap.size) 36 3 (rowF [.slice a1_0 l1_0 cap1_0, .slice a1_1 l1_1 cap1_1, .slice a1_2 l1_2 cap1_2])) := BXP1_19.out.of_block (hB.block _ BXP1_19.out.lt)
  have BXS0_20 : Hid (w20.rowIs (gbs) 39 3 (rowF [.slice sa0_0 lr0_0 sc0_0, .slice sa0_1 lr0_1 sc0_1, .slice sa0_2 lr0_2 sc0_2])) := BXS0_19.out.of_block (hB.block _ BXS0_19.out.lt)
  have BXX1_20 : Hid (w20.rowIs (w5.heap.size) 39 3 (rowF [.slice (some ⟨Xg1_0, 0, none⟩) l1_0 l1_0, .slice (some ⟨Xg1_1, 0, none⟩) l1_1 l1_1, .slice (some ⟨Xg1_2, 0, none⟩) l1_2 l1_2])) := BXX1_19.out.of_block (hB.block _ BXX1_19.out.lt)
  have BXG0_20 : Hid (w20.rowIs (w7.heap.size) 39 3 (rowF [.slice ga0_0 lr0_0 gc0_0, .slice ga0_1 lr0_1 gc0_1, .slice ga0_2 lr0_2 gc0_2])) := BXG0_19.out.of_block (hB.block _ BXG0_19.out.lt)
  have BXH0_20 : Hid (w20.rowIs (gbh) 39 3 (rowF [.slice ha0_0 lr0_0 hc0_0, .slice ha0_1 lr0_1 hc0_1, .slice ha0_2 lr0_2 hc0_2])) := BXH0_19.out.of_block (hB.block _ BXH0_19.out.lt)
  clear hB
  have blP1 : w.heap.size < w20.heap.size := BXP1_20.out.lt
  have bcP1_0 : w20.cell? ⟨w.heap.size, 0, none⟩ = some (.slice a1_0 l1_0 cap1_0) := BXP1_20.out.cell (i := 0) (by decide)
  have bcP1_1 : w20.cell? ⟨w.heap.size, 1, none⟩ = some (.slice a1_1 l1_1 cap1_1) := BXP1_20.out.cell (i := 1) (by decide)
  have bcP1_2 : w20.cell? ⟨w.heap.size, 2, none⟩ = some (.slice a1_2 l1_2 cap1_2) := BXP1_20.out.cell (i := 2) (by decide)
  have blS0 : gbs < w20.heap.size := BXS0_20.out.lt
  have bcS0_0 : w20.cell? ⟨gbs, 0, none⟩ = some (.slice sa0_0 lr0_0 sc0_0) := BXS0_20.out.cell (i := 0) (by decide)
  have bcS0_1 : w20.cell? ⟨gbs, 1, none⟩ = some (.slice sa0_1 lr0_1 sc0_1) := BXS0_20.out.cell (i := 1) (by decide)
  have bcS0_2 : w20.cell? ⟨gbs, 2, none⟩ = some (.slice sa0_2 lr0_2 sc0_2) := BXS0_20.out.cell (i := 2) (by decide)
  have blX1 : w5.heap.size < w20.heap.size := BXX1_20.out.lt
  have bcX1_0 : w20.cell? ⟨w5.heap.size, 0, none⟩ = some (.slice (some ⟨Xg1_0, 0, none⟩) l1_0 l1_0) := BXX1_20.out.cell (i := 0) (by decide)
  have bcX1_1 : w20.cell? ⟨w5.heap.size, 1, none⟩ = some (.slice (some ⟨Xg1_1, 0, none⟩) l1_1 l1_1) := BXX1_20.out.cell (i := 1) (by decide)
  have bcX1_2 : w20.cell? ⟨w5.heap.size, 2, none⟩ = some (.slice (some ⟨Xg1_2, 0, none⟩) l1_2 l1_2) := BXX1_20.out.cell (i := 2) (by decide)
  have blG0 : w7.heap.size < w20.heap.size := BXG0_20.out.lt
  have bcG0_0 : w20.cell? ⟨w7.heap.size, 0, none⟩ = some (.slice ga0_0 lr0_0 gc0_0) := BXG0_20.out.cell (i := 0) (by decide)
  have bcG0_1 : w20.cell? ⟨w7.heap.size, 1, none⟩ = some (.slice ga0_1 lr0_1 gc0_1) := BXG0_20.out.cell (i := 1) (by decide)
  have bcG0_2 : w20.cell? ⟨w7.heap.size, 2, none⟩ = some (.slice ga0_2 lr0_2 gc0_2) := BXG0_20.out.cell (i := 2) (by decide)
  have blH0 : gbh < w20.heap.size := BXH0_20.out.lt
  have bcH0_0 : w20.cell? ⟨gbh, 0, none⟩ = some (.slice ha0_0 lr0_0 hc0_0) := BXH0_20.out.cell (i := 0) (by decide)
  have bcH0_1 : w20.cell? ⟨gbh, 1, none⟩ = some (.slice ha0_1 lr0_1 hc0_1) := BXH0_20.out.cell (i := 1) (by decide)
  have bcH0_2 : w20.cell? ⟨gbh, 2, none⟩ = some (.slice ha0_2 lr0_2 hc0_2) := BXH0_20.out.cell (i := 2) (by decide)
  go_wp2_with fail
  clear blP1 bcP1_0 bcP1_1 bcP1_2 blS0 bcS0_0 bcS0_1 bcS0_2 blX1 bcX1_0 bcX1_1 bcX1_2 blG0 bcG0_0 bcG0_1 bcG0_2 blH0 bcH0_0 bcH0_1 bcH0_2
  refine (Frame_held (1) (by omega) _ _ _ csr0_0 _ _ _ csr0_1 _ _ _ csr0_2 false _ hfr0_0 hsr0_0 hfr0_1 hsr0_1 hfr0_2 hsr0_2 (by rw [HM0_0.out, HM0_1.out, HM0_2.out]; omega) G0_0_20.out.holds (by rw [HM0_0.out]; exact G0_1_20.out.holds) (by rw [HM0_0.out, HM0_1.out]; exact G0_2_20.out.holds)).mono ?_
  rw [HM0_0.out, HM0_1.out, HM0_2.out]
  rintro e w21 ⟨rfl, hB⟩
  have BW21 : Hid (Below w.heap.size w w21) := BW20.out.trans (hB.mono BW20.out.size)
  have SZ21 : Hid (w20.heap.size ≤ w21.heap.size) := hB.size
  have BS21 : Hid (Below w3.heap.size w3 w21) := BS20.out.trans (hB.mono BS20.out.size)
  have G0_0_21 : Hid (Owns w21 false w6.heap.size (mkD (1) (.l lr0_0 1 csr0_0)) (.slice ga0_0 lr0_0 gc0_0) gP0_0) := G0_0_20.out.kept hB
  have G0_1_21 : Hid (Owns w21 false w6.heap.size (mkD (1 + (M0_0 : Int)) (.l lr0_1 1 csr0_1)) (.slice ga0_1 lr0_1 gc0_1) gP0_1) := G0_1_20.out.kept hB
  have G0_2_21 : Hid (Owns w21 false w6.heap.size (mkD (1 + (M0_0 : Int) + (M0_1 : Int)) (.l lr0_2 1 csr0_2)) (.slice ga0_2 lr0_2 gc0_2) gP0_2) := G0_2_20.out.kept hB
  have H0_0_21 : Hid (Holds w21 false (.l lr0_0 1 csr0_0) (.slice ha0_0 lr0_0 hc0_0)) := H0_0_20.out.kept hB
  have H0_1_21 : Hid (Holds w21 false (.l lr0_1 1 csr0_1) (.slice ha0_1 lr0_1 hc0_1)) := H0_1_20.out.kept hB
  have H0_2_21 : Hid (Holds w21 false (.l lr0_2 1 csr0_2) (.slice ha0_2 lr0_2 hc0_2)) := H0_2_20.out.kept hB
  have BXP1_21 : Hid (w21.rowIs (w.heap.size) 36 3 (rowF [.slice a1_0 l1_0 cap1_0, .slice a1_1 l1_1 cap1_1, .slice a1_2 l1_2 cap1_2])) := BXP1_20.out.of_block (hB.block _ BXP1_20.out.lt)
  have BXS0_21 : Hid (w21.rowIs (gbs) 39 3 (rowF [.slice sa0_0 lr0_0 sc0_0, .slice sa0_1 lr0_1 sc0_1, .slice sa0_2 lr0_2 sc0_2])) := BXS0_20.out.of_block (hB.block _ BXS0_20.out.lt)
  have BXX1_21 : Hid (w21.rowIs (w5.heap.size) 39 3 (rowF [.slice (some ⟨Xg1_0, 0, none⟩) l1_0 l1_0, .slice (some ⟨Xg1_1, 0, none⟩) l1_1 l1_1, .slice (some ⟨Xg1_2, 0, none⟩) l1_2 l1_2])) := BXX1_20.out.of_block (hB.block _ BXX1_20.out.lt)
  have BXG0_21 : Hid (w21.rowIs (w7.heap.size) 39 3 (rowF [.slice ga0_0 lr0_0 gc0_0, .slice ga0_1 lr0_1 gc0_1, .slice ga0_2 lr0_2 gc0_2])) := BXG0_20.out.of_block (hB.block _ BXG0_20.out.lt)
  have BXH0_21 : Hid (w21.rowIs (gbh) 39 3 (rowF [.slice ha0_0 lr0_0 hc0_0, .slice ha0_1 lr0_1 hc0_1, .slice ha0_2 lr0_2 hc0_2])) := BXH0_20.out.of_block (hB.block _ BXH0_20.out.lt)
  clear hB
  have hq21_0 : (0 : Int) ≤ 1 + (M0_0 : Int) + (M0_1 : Int) + (M0_2 : Int) := by omega
  go_wp2
  go_ret
  exact ⟨rfl, BW21.out⟩
theorem walk (a0 : Option Addr) (l0 cap0 : Nat) (cs0 : Nat → Dv) (a1_0 : Option Addr) (l1_0 cap1_0 : Nat) (cs1_0 : Nat → Dv) (a1_1 : Option Addr) (l1_1 cap1_1 : Nat) (cs1_1 : Nat → Dv) (a1_2 : Option Addr) (l1_2 cap1_2 : Nat) (cs1_2 : Nat → Dv) (a2 : Int) (w2 : (Lit.int .i64 a2).wf = true) (a3 : Int) (w3 : (Lit.int .i64 a3).wf = true) (w : World) (h0 : Holds w false (.l l0 2 cs0) (.slice a0 l0 cap0)) (f0 : Fits shSStepS (.l l0 2 cs0)) (n0 : Lens (.l l0 2 cs0)) (h1_0 : Holds w false (.l l1_0 1 cs1_0) (.slice a1_0 l1_0 cap1_0)) (f1_0 : Fits shI (.l l1_0 1 cs1_0)) (n1_0 : Lens (.l l1_0 1 cs1_0)) (h1_1 : Holds w false (.l l1_1 1 cs1_1) (.slice a1_1 l1_1 cap1_1)) (f1_1 : Fits shI (.l l1_1 1 cs1_1)) (n1_1 : Lens (.l l1_1 1 cs1_1)) (h1_2 : Holds w false (.l l1_2 1 cs1_2) (.slice a1_2 l1_2 cap1_2)) (f1_2 : Fits shI (.l l1_2 1 cs1_2)) (n1_2 : Lens (.l l1_2 1 cs1_2)) :
    Calls Try.prog 6 #[.slice a0 l0 cap0, .agg #[.slice a1_0 l1_0 cap1_0, .slice a1_1 l1_1 cap1_1, .slice a1_2 l1_2 cap1_2], .int .i64 a2, .int .i64 a3] w fun e w' => e = .returned (.bool true) ∧ Below w.heap.size w w' := by
  have HZ0 : Hid ((intsOf cs1_0 (l1_0 * 1)).length = l1_0) := by show _ = _; rw [intsOf_len]; omega
  have HI0 : Hid (∀ W a cap, Holds W true (.l l1_0 1 cs1_0) (.slice a l1_0 cap) → Ints W a (intsOf cs1_0 (l1_0 * 1))) := fun W a cap hh => holds_ints hh (fits_I f1_0)
  have HZ1 : Hid ((intsOf cs1_1 (l1_1 * 1)).length = l1_1) := by show _ = _; rw [intsOf_len]; omega
  have HI1 : Hid (∀ W a cap, Holds W true (.l l1_1 1 cs1_1) (.slice a l1_1 cap) → Ints W a (intsOf cs1_1 (l1_1 * 1))) := fun W a cap hh => holds_ints hh (fits_I f1_1)
  have HZ2 : Hid ((intsOf cs1_2 (l1_2 * 1)).length = l1_2) := by show _ = _; rw [intsOf_len]; omega
  have HI2 : Hid (∀ W a cap, Holds W true (.l l1_2 1 cs1_2) (.slice a l1_2 cap) → Ints W a (intsOf cs1_2 (l1_2 * 1))) := fun W a cap hh => holds_ints hh (fits_I f1_2)
  obtain ⟨G, HG⟩ : ∃ G, Hid (rsF cs0 l0 (⟨(intsOf cs1_0 (l1_0 * 1)), (intsOf cs1_1 (l1_1 * 1)), (intsOf cs1_2 (l1_2 * 1))⟩ : Fs) a2 a3 = G) := ⟨_, rfl⟩
  obtain ⟨K, HB⟩ : ∃ K, Hid (rsB cs0 l0 (⟨(intsOf cs1_0 (l1_0 * 1)), (intsOf cs1_1 (l1_1 * 1)), (intsOf cs1_2 (l1_2 * 1))⟩ : Fs) a2 a3 = K) := ⟨_, rfl⟩
  have HL : Hid (G.l.length ≤ 3 ∧ G.s.length ≤ 4 ∧ G.t.length ≤ 100) := by show _ ∧ _; rw [← HG.out]; exact rs_len
  refine walk_of a0 cap0 a1_0 cap1_0 a1_1 cap1_1 a1_2 cap1_2 l0 cs0 l1_0 cs1_0 l1_1 cs1_1 l1_2 cs1_2 a2 a3 G.l.length (fun i => .n (G.l.getD i 0)) G.s.length (fun i => .n (G.s.getD i 0)) G.t.length (fun i => .n (G.t.getD i 0)) K w f0 n0 h0 f1_0 n1_0 h1_0 f1_1 n1_1 h1_1 f1_2 n1_2 h1_2 ?_ ?_ ?_ ?_ ?_ ?_ (fun hs hs0 hs1 hs2 => ?_) (fun hs hs0 hs1 hs2 => ?_)
  · exact ⟨rfl, fun i hi => trivial⟩
  · show G.l.length + sumTo _ _ ≤ 100000
    rw [sz_flat _ (fun i _ => ⟨_, rfl⟩)]
    have := HL.out
    omega
  · exact ⟨rfl, fun i hi => trivial⟩
  · show G.s.length + sumTo _ _ ≤ 100000
    rw [sz_flat _ (fun i _ => ⟨_, rfl⟩)]
    have := HL.out
    omega
  · exact ⟨rfl, fun i hi => trivial⟩
  · show G.t.length + sumTo _ _ ≤ 100000
    rw [sz_flat _ (fun i _ => ⟨_, rfl⟩)]
    have := HL.out
    omega
  · intro W a cap b bcap d dcap e_ ecap h0 h1 h2 h3
    refine (spec_runsteps a l0 cap cs0 true b l1_0 bcap d l1_1 dcap e_ l1_2 ecap (⟨(intsOf cs1_0 (l1_0 * 1)), (intsOf cs1_1 (l1_1 * 1)), (intsOf cs1_2 (l1_2 * 1))⟩ : Fs) a2 a3 W f0 hs h0 rfl HZ0 HZ1 HZ2 (Nat.le_trans (Nat.le_add_right _ _) hs0) (Nat.le_trans (Nat.le_add_right _ _) hs1) (Nat.le_trans (Nat.le_add_right _ _) hs2) (HI0.out W b bcap h1) (HI1.out W d dcap h2) (HI2.out W e_ ecap h3)).mono (fun e W' q => ?_)
    exact rs_tells HG.out HB.out q
  · intro W a cap b bcap d dcap e_ ecap h0 h1 h2 h3
    refine (impl_runsteps a l0 cap cs0 true b l1_0 bcap d l1_1 dcap e_ l1_2 ecap (⟨(intsOf cs1_0 (l1_0 * 1)), (intsOf cs1_1 (l1_1 * 1)), (intsOf cs1_2 (l1_2 * 1))⟩ : Fs) a2 a3 W f0 hs h0 rfl HZ0 HZ1 HZ2 (Nat.le_trans (Nat.le_add_right _ _) hs0) (Nat.le_trans (Nat.le_add_right _ _) hs1) (Nat.le_trans (Nat.le_add_right _ _) hs2) (HI0.out W b bcap h1) (HI1.out W d dcap h2) (HI2.out W e_ ecap h3)).mono (fun e W' q => ?_)
    exact rs_tells HG.out HB.out q

theorem arr_of3 {c : Array Value} (h : c.size = 3) : ∃ q0 q1 q2, c = #[q0, q1, q2] := by
  rcases c with ⟨l⟩
  match l, h with
  | [q0, q1, q2], _ => exact ⟨q0, q1, q2, rfl⟩
set_option maxRecDepth 100000 in
set_option maxHeartbeats 4000000 in
theorem lifted (os : Os) (started : os.Started) (H : Type) (enc : TypeId × Value → H) :
    ReturnsInHanded {} Try.checked os 6 .any (Rows.fnExactRunStepsSpec.pre6 enc Try.prog Try.f6 Rows.fnExactRunStepsRow.domain false) (Rows.fnExactRunStepsSpec.post enc Try.prog Try.f6 false true false false) := by
  refine returnsInHanded_of_change_sized (C := Try.checked) own started (by kernel_rfl) Try.func6
    (ChangeSpec.witness6 (enc := enc) (C := Try.checked) false ⟨#[], #[.slice none 0 0, .agg #[.slice none 0 0, .slice none 0 0, .slice none 0 0], .int .i64 0, .int .i64 0], []⟩ 8 (by kernel_rfl) (by kernel_rfl) (by kernel_rfl) (by kernel_rfl)) ?_
  intro W base args ds gs before hval0 hW hcnd hsz0 _
  have hval : ∀ (j : Nat) t v, Try.f6.params[j]? = some t → args[j]? = some v → Value.okWide Try.prog W .any base t v := hval0
  have hW' := hW
  obtain ⟨p, q, hA0, hV, rfl, hfz, hnd⟩ := hW
  have hsz : (DataW.weightsEach Try.prog (Try.f6.params.toList ++ Rows.fnExactRunStepsSpec.plain.varTypes Try.prog) (ds ++ gs)).all (· ≤ reachBytes) = true := hsz0
  have hA : DataW.TrodAll enc Try.prog W 0 (fun _ => true) true Try.f6.params.toList args.toList ds p := hA0
  rw [Try.params6] at hA hval hsz
  obtain ⟨v0, vs0, d0, ds0, p0, q0, hargs, rfl, rfl, h0, r0⟩ := trodAll_cons hA
  obtain ⟨v1, vs1, d1, ds1, p1, q1, rfl, rfl, rfl, h1, r1⟩ := trodAll_cons r0
  obtain ⟨v2, vs2, d2, ds2, p2, q2, rfl, rfl, rfl, h2, r2⟩ := trodAll_cons r1
  obtain ⟨v3, vs3, d3, ds3, p3, q3, rfl, rfl, rfl, h3, r3⟩ := trodAll_cons r2
  obtain ⟨rfl, rfl, rfl⟩ := trodAll_nil r3
  obtain rfl : args = #[v0, v1, v2, v3] := by cases args; simp_all
  obtain ⟨rfl, rfl⟩ := trodVars_none hV
  obtain ⟨a0, l0, cap0, rfl⟩ := okWide_slice Try.underlying22 (hval 0 22 v0 rfl rfl)
  have k0 := h0
  have lt0 : ∀ x ∈ p0, x.block < W.heap.size := by obtain ⟨m, hm⟩ := k0; exact DataW.trod_lt m _ _ _ hm
  obtain ⟨cs0, w0, f0, n0⟩ := open_list (show Matches Try.prog shSStepS 22 from ⟨51, Try.underlying22, (show Try.prog.cellsOf 51 = 2 by kernel_rfl), by decide, Or.inr ⟨_, Try.underlying51, rfl, (fun i f h => by
    match i, h with
    | 0, h => obtain rfl := Option.some.inj h; exact ⟨rfl, (show Try.prog.cellsOf 3 = 1 by kernel_rfl), Try.underlying3⟩
    | 1, h => obtain rfl := Option.some.inj h; exact ⟨rfl, (show Try.prog.cellsOf 3 = 1 by kernel_rfl), Try.underlying3⟩
    | i + 2, h => simp at h)⟩⟩) h0
  have k1 := h1
  have lt1 : ∀ x ∈ p1, x.block < W.heap.size := by obtain ⟨m, hm⟩ := k1; exact DataW.trod_lt m _ _ _ hm
  obtain ⟨arr1, rfl, hsz1, hrow1⟩ := open_row (n := 3) (e := fun i => match i with | 0 => shI | 1 => shI | _ => shI) Try.underlying36 (show Try.prog.cellsOf 36 = 3 by kernel_rfl) rfl (fun i f h => by
    match i, h with
    | 0, h => obtain rfl := Option.some.inj h; exact ⟨rfl, (show Try.prog.cellsOf 29 = 1 by kernel_rfl), ⟨3, Try.underlying29, (show Try.prog.cellsOf 3 = 1 by kernel_rfl), by decide, Or.inl ⟨rfl, Try.underlying3⟩⟩⟩
    | 1, h => obtain rfl := Option.some.inj h; exact ⟨rfl, (show Try.prog.cellsOf 29 = 1 by kernel_rfl), ⟨3, Try.underlying29, (show Try.prog.cellsOf 3 = 1 by kernel_rfl), by decide, Or.inl ⟨rfl, Try.underlying3⟩⟩⟩
    | 2, h => obtain rfl := Option.some.inj h; exact ⟨rfl, (show Try.prog.cellsOf 29 = 1 by kernel_rfl), ⟨3, Try.underlying29, (show Try.prog.cellsOf 3 = 1 by kernel_rfl), by decide, Or.inl ⟨rfl, Try.underlying3⟩⟩⟩
    | i + 3, h => simp at h) (hval 1 36 v1 rfl rfl) h1
  obtain ⟨c1_0, c1_1, c1_2, rfl⟩ := arr_of3 hsz1
  obtain ⟨d1_0, u1_0, e1_0, hh1_0, ff1_0, ll1_0⟩ := hrow1 0 (by decide)
  obtain rfl : c1_0 = u1_0 := Option.some.inj e1_0
  obtain ⟨l1_0, cs1_0, rfl, _⟩ := Fits.list ff1_0
  obtain ⟨a1_0, cap1_0, rfl, _⟩ := hh1_0.slice
  have w1_0 := hh1_0
  have f1_0 := ff1_0
  have n1_0 := ll1_0
  obtain ⟨d1_1, u1_1, e1_1, hh1_1, ff1_1, ll1_1⟩ := hrow1 1 (by decide)
  obtain rfl : c1_1 = u1_1 := Option.some.inj e1_1
  obtain ⟨l1_1, cs1_1, rfl, _⟩ := Fits.list ff1_1
  obtain ⟨a1_1, cap1_1, rfl, _⟩ := hh1_1.slice
  have w1_1 := hh1_1
  have f1_1 := ff1_1
  have n1_1 := ll1_1
  obtain ⟨d1_2, u1_2, e1_2, hh1_2, ff1_2, ll1_2⟩ := hrow1 2 (by decide)
  obtain rfl : c1_2 = u1_2 := Option.some.inj e1_2
  obtain ⟨l1_2, cs1_2, rfl, _⟩ := Fits.list ff1_2
  obtain ⟨a1_2, cap1_2, rfl, _⟩ := hh1_2.slice
  have w1_2 := hh1_2
  have f1_2 := ff1_2
  have n1_2 := ll1_2
  have k2 := h2
  have lt2 : ∀ x ∈ p2, x.block < W.heap.size := by obtain ⟨m, hm⟩ := k2; exact DataW.trod_lt m _ _ _ hm
  obtain ⟨a2, rfl, rfl, rfl, w2⟩ := open_int Try.underlying3 (hval 2 3 v2 rfl rfl) h2
  have k3 := h3
  have lt3 : ∀ x ∈ p3, x.block < W.heap.size := by obtain ⟨m, hm⟩ := k3; exact DataW.trod_lt m _ _ _ hm
  obtain ⟨a3, rfl, rfl, rfl, w3⟩ := open_int Try.underlying3 (hval 3 3 v3 rfl rfl) h3
  clear hA0 hval0
  refine (walk a0 l0 cap0 cs0 a1_0 l1_0 cap1_0 cs1_0 a1_1 l1_1 cap1_1 cs1_1 a1_2 l1_2 cap1_2 cs1_2 a2 w2 a3 w3 W w0 f0 n0 w1_0 f1_0 n1_0 w1_1 f1_1 n1_1 w1_2 f1_2 n1_2).mono fun e W' ⟨he, bel⟩ => ?_
  subst he
  exact ⟨_, rfl, _, _, _, [], _, [], hW', trodAll_mk1 (shut_bool Try.underlying4 _), (trodAll_cons_mk (Below.trod laidOut (by kernel_rfl) (of_decide_eq_true (by kernel_rfl)) k0 bel lt0) (trodAll_cons_mk (Below.trod laidOut (by kernel_rfl) (of_decide_eq_true (by kernel_rfl)) k1 bel lt1) (trodAll_cons_mk (Below.trod laidOut (by kernel_rfl) (of_decide_eq_true (by kernel_rfl)) k2 bel lt2) (trodAll_cons_mk (Below.trod laidOut (by kernel_rfl) (of_decide_eq_true (by kernel_rfl)) k3 bel lt3) trodAll_mk0)))), rfl, bel.frame _, fun h => by cases h⟩

theorem over : Rows.fnExactRunStepsRow.holds Try.pinned (OpenSpec.ofChange Rows.fnExactRunStepsSpec) :=
  OpenClaim.holds_of_wide 6 Try.f6 rfl rfl rfl rfl rfl rfl rfl ⟨rfl, rfl, rfl, rfl, rfl⟩ rfl rfl rfl rfl rfl (by kernel_rfl) Try.func6 (by kernel_rfl)
    (of_decide_eq_true (by kernel_rfl)) (by unfold Func.isWrapper; first | (rw [if_pos (by decide +kernel)]; kernel_rfl) | (rw [if_neg (by decide +kernel)]; exact ⟨rfl, rfl⟩))
    (fun os started H enc _ => lifted os started H enc)

theorem proved : Rows.FnExactRunStepsSaid :=
  over
#print axioms proved
end Go.Proofs.Ytdacpbhdemkacaa.fnExactRunSteps
