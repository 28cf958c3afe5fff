/-
  What DepthsOf and GoodSteps answer, of the specification and of the program, at every list of steps.
-/
import Derived.Test.YtdacpbhdemkacaaProg
import Derived.Test.YtdacpbhdemkacaaMagMath
import Derived.Test.YtdacpbhdemkacaaStackMath
import Derived.Test.YtdacpbhdemkacaaStackBase
import Derived.Test.YtdacpbhdemkacaaInts
import Derived.Test.YtdacpbhdemkacaaOwnInts
import Derived.Test.YtdacpbhdemkacaaDeep
import Derived.Test.YtdacpbhdemkacaaDeepRow
import Derived.Test.YtdacpbhdemkacaaDeepF
import Derived.WalkKit
import Derived.WalkSpells
import Derived.Below
import Derived.Handy
import Derived.Deep.DeepFit
import Derived.Laws.OwnMore
namespace Go.Proofs.Ytdacpbhdemkacaa.walks
open Go.RowKit Go.Proofs.Ytdacpbhdemkacaa.math Go.Proofs.Ytdacpbhdemkacaa.ints Go.Proofs.Ytdacpbhdemkacaa.deep
set_option linter.unusedVariables false
set_option maxRecDepth 100000

/-- One step of stack code, in a world that has only grown. -/
theorem sstep_at {W wr : World} {c : Bool} {a : Option Addr} {n cap k : Nat} {cs : Nat → Dv} (h : Holds W c (.l n 2 cs) (.slice a n cap)) (hf : Fits shSStepS (.l n 2 cs)) (hB : Below W.heap.size W wr) (hk : k < n) : ∃ b o, a = some ⟨b, o, none⟩ ∧ b < W.heap.size ∧ wr.cell? ⟨b, o + k * 2, none⟩ = some (.int .i64 (opS cs k)) ∧ wr.cell? ⟨b, o + k * 2 + 1, none⟩ = some (.int .i64 (nS cs k)) := by
  obtain ⟨b, o, ha, hb, hc⟩ := h.cells hB (show 0 < n * 2 by omega)
  obtain ⟨u0, d0, q0⟩ := hc (k * 2) (by omega)
  obtain ⟨u1, d1, q1⟩ := hc (k * 2 + 1) (by omega)
  obtain ⟨x, hx⟩ := (hf.cell hk (c := 0) (by decide)).int
  obtain ⟨y, hy⟩ := (hf.cell hk (c := 1) (by decide)).int
  have hx : cs (k * 2) = .n x := hx
  have hy : cs (k * 2 + 1) = .n y := hy
  rw [hx] at q0
  rw [hy] at q1
  have q0 : u0 = .int .i64 x := q0
  have q1 : u1 = .int .i64 y := q1
  subst q0 q1
  refine ⟨b, o, ha, hb, by rw [d0]; unfold opS; rw [hx]; rfl, by rw [Nat.add_assoc, d1]; unfold nS; rw [hy]; rfl⟩
theorem row_below {w w' : World} {B : Nat} {v : Value} {zs : List Int} (h : Own w B v zs) (hb : Below w.heap.size w w') : Own w' B v zs :=
  World.ownsRow.kept h (row := none) ⟨hb.os, hb.tape, hb.output, hb.size, fun k hk _ => hb.block k hk⟩ (by cases v.ownBlock <;> simp)
/-- What DepthsOf answers. -/
def DepAns (cs : Nat → Dv) (n : Nat) (W : World) (e : Ending) (W' : World) : Prop := ∃ v, e = .returned (.tuple #[v, .bool (stepsB cs n)]) ∧ Own W' W.heap.size v (depZ cs n) ∧ Below W.heap.size W W'
theorem dep_told {cs : Nat → Dv} {n : Nat} {W W' : World} {e : Ending} (h : DepAns cs n W e W') : ∃ v, e = .returned (.tuple #[v, .bool (stepsB cs n)]) ∧ Own W' W.heap.size v (depZ cs n) ∧ Below W.heap.size W W' := h
theorem dep_no {cs : Nat → Dv} {n : Nat} {W W' : World} (h : stepsB cs n = false) (hB : Below W.heap.size W W') : DepAns cs n W (.returned (.tuple #[.slice none 0 0, .bool false])) W' := ⟨_, by rw [h], by rw [depZ_no h]; exact own_nil _ _, hB⟩

set_option maxHeartbeats 8000000 in
theorem spec_depths (a : Option Addr) (n cap : Nat) (cs : Nat → Dv) (c : Bool) (W : World) (hf : Hid (Fits shSStepS (.l n 2 cs))) (hs : Hid (szD (.l n 2 cs) ≤ 1048576)) (h : Hid (Holds W c (.l n 2 cs) (.slice a n cap))) :
    Calls Try.prog 30 #[.slice a n cap] W fun e W' => DepAns cs n W e W' := by
  have hn : n ≤ 1048576 := Nat.le_trans (Nat.le_add_right _ _) hs.out
  obtain ⟨i0, hi, hz0, hz1, hz2⟩ := parts_of (show (Try.prog.info? 3).map (fun i => (i.zero, i.size, i.bytes)) = some (some (.int .i64 0), 1, 8) by kernel_rfl)
  by_cases h20 : n ≤ 20
  rotate_left
  · have h21 : (20 : Int) < (n : Int) := by omega
    have HNO : Hid (stepsB cs n = false) := steps_long (by omega)
    clear h20
    go_enter Try.func30, Try.ntmps30
    go_wp2
    go_ret2
    exact dep_no HNO.out (Below.refl _ _)
  have h20I : (n : Int) ≤ 20 := by omega
  go_enter Try.func30, Try.ntmps30
  go_wp2
  go_loopw [4, 5, 16] (fun vd vo vi wr => ∃ (k : Nat) (d : Int) (v : Value), k ≤ n ∧ vi = .int .i64 k ∧ vd = .int .i64 d ∧ v = vo ∧ 0 ≤ d ∧ d ≤ 4 ∧ Hid (d = dpt cs k) ∧ Hid (∀ j, j < k → StepOk cs j) ∧ Hid (Own wr W.heap.size v (depL cs k)) ∧ Hid (Below W.heap.size W wr)) (fun _ _ vi _ => n - (intOf vi).toNat)
  case atStart => exact ⟨0, 0, _, Nat.zero_le _, rfl, rfl, rfl, by omega, by omega, rfl, fun j hj => by omega, World.ownsRow_lit W #[.int .i64 0] 1 (Nat.le_refl _) (by unfold maxLen; omega) rfl, (Below.refl _ _).alloc (Nat.le_refl _) _⟩
  case round =>
    obtain ⟨k, d, v, hk, rfl, rfl, hv, d0, d4, HD, HG, HO, HB⟩ := hrel
    subst hv
    have hws := HB.out.size
    by_cases hlt : k < n
    rotate_left
    · have hkn : k = n := by omega
      subst hkn
      have HY : Hid (stepsB cs k = true) := steps_yes h20 HG.out
      go_wp2
      go_ret2
      exact ⟨_, by rw [HY.out]; rfl, by rw [depZ_yes HY.out]; exact HO.out, HB.out⟩
    have hltI : (k : Int) < (n : Int) := by omega
    obtain ⟨b, off, ha, hb, c0, c1⟩ := sstep_at h.out hf.out HB.out hlt
    subst ha
    have hbw : b < wr.heap.size := by omega
    have HNO : Hid (¬ StepOk cs k → stepsB cs n = false) := steps_bad hlt
    have HX : Hid (dpt cs (k + 1) = d + (onK (opS cs k) - offK (opS cs k))) := by show _ = _; rw [HD.out]; rfl
    have HS : Hid (StepOk cs k ↔ okS (opS cs k) (nS cs k) = true ∧ offK (opS cs k) ≤ d ∧ d - offK (opS cs k) + onK (opS cs k) ≤ 4) := by show _ ↔ _; rw [HD.out]; exact Iff.rfl
    have p1 := on_pos (opS cs k)
    have p2 := off_pos (opS cs k)
    obtain ⟨o, ho⟩ : ∃ o, Hid (opS cs k = o) := ⟨_, rfl⟩
    obtain ⟨x, hx⟩ : ∃ x, Hid (nS cs k = x) := ⟨_, rfl⟩
    rw [ho.out] at c0 HX HS p1 p2
    rw [hx.out] at c1 HS
    cases hok : okS o x
    · have HOK : Hid (okS o x = false) := hok
      have HF : Hid (stepsB cs n = false) := HNO.out (fun q => by have r := (HS.out.1 q).1; rw [HOK.out] at r; cases r)
      clear hok p1 p2
      go_wp2_with (go_at_call 46; refine (spec_sstep _ _ _).mono ?_; rw [HOK.out]; rintro e w1 ⟨rfl, hB1⟩; have HB1 : Hid (Below wr.heap.size wr w1) := (show Below _ _ _ from ((Below.refl _ _).alloc (Nat.le_refl _) _).trans (hB1.mono (by simp))); have BX : Hid (w1.cell? ⟨wr.heap.size, 0, none⟩ = some (.int .i64 o)) := (show _ = _ from (hB1.cell (p := ⟨wr.heap.size, 0, none⟩) (by simp)).trans (by simp)); have BL : Hid (wr.heap.size < w1.heap.size) := (show _ < _ from Nat.lt_of_lt_of_le (by simp) hB1.size); have bx := BX.out; have bl := BL.out; clear hB1)
      go_ret2
      exact dep_no HF.out (HB.out.trans (HB1.out.mono hws))
    have HOK : Hid (okS o x = true) := hok
    clear hok
    obtain ⟨fo, ho1⟩ : ∃ z, Hid (offK o = z) := ⟨_, rfl⟩
    obtain ⟨fn, ho2⟩ : ∃ z, Hid (onK o = z) := ⟨_, rfl⟩
    rw [ho1.out, ho2.out] at HX HS
    rw [ho1.out] at p2
    rw [ho2.out] at p1
    obtain ⟨p11, p12⟩ := p1
    obtain ⟨p21, p22⟩ := p2
    by_cases q1 : fo ≤ d
    rotate_left
    · have q1' : d < fo := by omega
      have e1 : decide (d < fo) = true := decide_eq_true q1'
      clear q1
      have HF : Hid (stepsB cs n = false) := HNO.out (fun q => by have r := HS.out.1 q; omega)
      go_wp2_with (first | (go_at_call 47; refine (spec_takes _ _).mono ?_; rw [ho1.out, ho2.out]; rintro e w' ⟨rfl, hw⟩; rw [hw]; clear hw w') | (go_at_call 46; refine (spec_sstep _ _ _).mono ?_; rw [HOK.out]; rintro e w1 ⟨rfl, hB1⟩; have HB1 : Hid (Below wr.heap.size wr w1) := (show Below _ _ _ from ((Below.refl _ _).alloc (Nat.le_refl _) _).trans (hB1.mono (by simp))); have BX : Hid (w1.cell? ⟨wr.heap.size, 0, none⟩ = some (.int .i64 o)) := (show _ = _ from (hB1.cell (p := ⟨wr.heap.size, 0, none⟩) (by simp)).trans (by simp)); have BL : Hid (wr.heap.size < w1.heap.size) := (show _ < _ from Nat.lt_of_lt_of_le (by simp) hB1.size); have bx := BX.out; have bl := BL.out; clear hB1))
      go_ret2
      exact dep_no HF.out (HB.out.trans (HB1.out.mono hws))
    have e1 : decide (d < fo) = false := decide_eq_false (by omega)
    by_cases q2 : d - fo + fn ≤ 4
    rotate_left
    · have q2' : 4 < d - fo + fn := by omega
      have e2 : decide (4 < d - fo + fn) = true := decide_eq_true q2'
      clear q2
      have HF : Hid (stepsB cs n = false) := HNO.out (fun q => by have r := HS.out.1 q; omega)
      go_wp2_with (first | (go_at_call 47; refine (spec_takes _ _).mono ?_; rw [ho1.out, ho2.out]; rintro e w' ⟨rfl, hw⟩; rw [hw]; clear hw w') | (go_at_call 46; refine (spec_sstep _ _ _).mono ?_; rw [HOK.out]; rintro e w1 ⟨rfl, hB1⟩; have HB1 : Hid (Below wr.heap.size wr w1) := (show Below _ _ _ from ((Below.refl _ _).alloc (Nat.le_refl _) _).trans (hB1.mono (by simp))); have BX : Hid (w1.cell? ⟨wr.heap.size, 0, none⟩ = some (.int .i64 o)) := (show _ = _ from (hB1.cell (p := ⟨wr.heap.size, 0, none⟩) (by simp)).trans (by simp)); have BL : Hid (wr.heap.size < w1.heap.size) := (show _ < _ from Nat.lt_of_lt_of_le (by simp) hB1.size); have bx := BX.out; have bl := BL.out; clear hB1))
      go_ret2
      exact dep_no HF.out (HB.out.trans (HB1.out.mono hws))
    have e2 : decide (4 < d - fo + fn) = false := decide_eq_false (by omega)
    have HG' : Hid (∀ j, j < k + 1 → StepOk cs j) := fun j hj => by
      by_cases e : j = k
      · subst e; exact HS.out.2 ⟨HOK.out, q1, q2⟩
      · exact HG.out j (by omega)
    have d0' : 0 ≤ d + (fn - fo) := by omega
    have d4' : d + (fn - fo) ≤ 4 := by omega
    have hkl : Hid ((depL cs k).length = k + 1) := depL_len cs k
    go_wp2_with (first
      | (go_at_call 47; refine (spec_takes _ _).mono ?_; rw [ho1.out, ho2.out]; rintro e w' ⟨rfl, hw⟩; rw [hw]; clear hw w')
      | (go_at_call 46; refine (spec_sstep _ _ _).mono ?_; rw [HOK.out]; rintro e w1 ⟨rfl, hB1⟩; have HB1 : Hid (Below wr.heap.size wr w1) := (show Below _ _ _ from ((Below.refl _ _).alloc (Nat.le_refl _) _).trans (hB1.mono (by simp))); have BX : Hid (w1.cell? ⟨wr.heap.size, 0, none⟩ = some (.int .i64 o)) := (show _ = _ from (hB1.cell (p := ⟨wr.heap.size, 0, none⟩) (by simp)).trans (by simp)); have BL : Hid (wr.heap.size < w1.heap.size) := (show _ < _ from Nat.lt_of_lt_of_le (by simp) hB1.size); have bx := BX.out; have bl := BL.out; clear hB1)
      | (at_builtin; refine wpList_append_own _ rfl _ _ 29 rfl W.heap.size 3 i0 (.int .i64 0) 1 8 Try.underlying29 hi hz0 hz1 hz2 rfl (by decide) _ _ _ rfl (World.ownsRow.alloc (row_below HO.out HB1.out) _) ⟨w1.heap.size, 0, none⟩ 1 1 [.int .i64 (d + (fn - fo))] rfl rfl (new_one w1 _ _) (one_of _) ?c3 ?c4 ?c5 ?_)
      | fail)
    case c3 => rw [hkl.out]; unfold maxLen; omega
    case c4 => rw [hkl.out]; omega
    case c5 => have := HB1.out.size; simp; omega
    intro v2 w2 hown hgrow _
    have HBB : Hid (Below W.heap.size W w1) := HB.out.trans (HB1.out.mono hws)
    obtain ⟨o1, o2, o3⟩ := Own.snoc (row_below HO.out HB1.out) HBB.out.size HBB.out hown hgrow
    have HO2 : Hid (Own w2 W.heap.size v2 (depL cs (k + 1))) := by show Own _ _ _ _; rw [← depL_snoc, HX.out]; exact o1
    have HB2 : Hid (Below W.heap.size W w2) := o2
    clear hown hgrow o1 o2 bx bl
    go_wp2
    go_roundw
    case rel => exact ⟨k + 1, d + (fn - fo), v2, by omega, by go_num, rfl, rfl, d0', d4', HX.out.symm, HG', HO2, HB2⟩
    case measure => simp [intOf]; omega
set_option maxHeartbeats 8000000 in
theorem impl_depths (a : Option Addr) (n cap : Nat) (cs : Nat → Dv) (c : Bool) (W : World) (hf : Hid (Fits shSStepS (.l n 2 cs))) (hs : Hid (szD (.l n 2 cs) ≤ 1048576)) (h : Hid (Holds W c (.l n 2 cs) (.slice a n cap))) :
    Calls Try.prog 14 #[.slice a n cap] W fun e W' => DepAns cs n W e W' := by
  have hn : n ≤ 1048576 := Nat.le_trans (Nat.le_add_right _ _) hs.out
  obtain ⟨i0, hi, hz0, hz1, hz2⟩ := parts_of (show (Try.prog.info? 3).map (fun i => (i.zero, i.size, i.bytes)) = some (some (.int .i64 0), 1, 8) by kernel_rfl)
  by_cases h20 : n ≤ 20
  rotate_left
  · have h21 : (20 : Int) < (n : Int) := by omega
    have HNO : Hid (stepsB cs n = false) := steps_long (by omega)
    clear h20
    go_enter Try.func14, Try.ntmps14
    go_wp2
    go_ret2
    exact dep_no HNO.out (Below.refl _ _)
  have h20I : (n : Int) ≤ 20 := by omega
  go_enter Try.func14, Try.ntmps14
  go_wp2
  go_loopw [4, 5, 17] (fun vd vo vi wr => ∃ (k : Nat) (d : Int) (v : Value), k ≤ n ∧ vi = .int .i64 k ∧ vd = .int .i64 d ∧ v = vo ∧ 0 ≤ d ∧ d ≤ 4 ∧ Hid (d = dpt cs k) ∧ Hid (∀ j, j < k → StepOk cs j) ∧ Hid (Own wr W.heap.size v (depL cs k)) ∧ Hid (Below W.heap.size W wr)) (fun _ _ vi _ => n - (intOf vi).toNat)
  case atStart => exact ⟨0, 0, _, Nat.zero_le _, rfl, rfl, rfl, by omega, by omega, rfl, fun j hj => by omega, World.ownsRow_lit W #[.int .i64 0] 1 (Nat.le_refl _) (by unfold maxLen; omega) rfl, (Below.refl _ _).alloc (Nat.le_refl _) _⟩
  case round =>
    obtain ⟨k, d, v, hk, rfl, rfl, hv, d0, d4, HD, HG, HO, HB⟩ := hrel
    subst hv
    have hws := HB.out.size
    by_cases hlt : k < n
    rotate_left
    · have hkn : k = n := by omega
      subst hkn
      have HY : Hid (stepsB cs k = true) := steps_yes h20 HG.out
      go_wp2
      go_ret2
      exact ⟨_, by rw [HY.out]; rfl, by rw [depZ_yes HY.out]; exact HO.out, HB.out⟩
    have hltI : (k : Int) < (n : Int) := by omega
    obtain ⟨b, off, ha, hb, c0, c1⟩ := sstep_at h.out hf.out HB.out hlt
    subst ha
    have hbw : b < wr.heap.size := by omega
    have HNO : Hid (¬ StepOk cs k → stepsB cs n = false) := steps_bad hlt
    have HX : Hid (dpt cs (k + 1) = d + (onK (opS cs k) - offK (opS cs k))) := by show _ = _; rw [HD.out]; rfl
    have HS : Hid (StepOk cs k ↔ okS (opS cs k) (nS cs k) = true ∧ offK (opS cs k) ≤ d ∧ d - offK (opS cs k) + onK (opS cs k) ≤ 4) := by show _ ↔ _; rw [HD.out]; exact Iff.rfl
    have p1 := on_pos (opS cs k)
    have p2 := off_pos (opS cs k)
    obtain ⟨o, ho⟩ : ∃ o, Hid (opS cs k = o) := ⟨_, rfl⟩
    obtain ⟨x, hx⟩ : ∃ x, Hid (nS cs k = x) := ⟨_, rfl⟩
    rw [ho.out] at c0 HX HS p1 p2
    rw [hx.out] at c1 HS
    cases hok : okS o x
    · have HOK : Hid (okS o x = false) := hok
      have HF : Hid (stepsB cs n = false) := HNO.out (fun q => by have r := (HS.out.1 q).1; rw [HOK.out] at r; cases r)
      obtain ⟨fo, HF1⟩ : ∃ z, Hid (offI o = z) := ⟨_, rfl⟩
      obtain ⟨fn, HF2⟩ : ∃ z, Hid (onI o = z) := ⟨_, rfl⟩
      clear hok p1 p2
      go_wp2_with (first | (go_at_call 33; refine (impl_change _ _).mono ?_; rw [HF1.out, HF2.out]; rintro e w' ⟨rfl, hw⟩; rw [hw]; clear hw w') | (go_at_call 34; refine (impl_sstep _ _ _).mono ?_; rw [HOK.out]; rintro e w1 ⟨rfl, hB1⟩; have HB1 : Hid (Below wr.heap.size wr w1) := (show Below _ _ _ from ((Below.refl _ _).alloc (Nat.le_refl _) _).trans (hB1.mono (by simp))); have BX : Hid (w1.cell? ⟨wr.heap.size, 0, none⟩ = some (.int .i64 o)) := (show _ = _ from (hB1.cell (p := ⟨wr.heap.size, 0, none⟩) (by simp)).trans (by simp)); have BL : Hid (wr.heap.size < w1.heap.size) := (show _ < _ from Nat.lt_of_lt_of_le (by simp) hB1.size); have bx := BX.out; have bl := BL.out; clear hB1))
      go_ret2
      exact dep_no HF.out (HB.out.trans (HB1.out.mono hws))
    have HOK : Hid (okS o x = true) := hok
    have HF1 : Hid (offI o = offK o) := if_pos (okS_op hok)
    have HF2 : Hid (onI o = onK o) := if_pos (okS_op hok)
    clear hok
    obtain ⟨fo, ho1⟩ : ∃ z, Hid (offK o = z) := ⟨_, rfl⟩
    obtain ⟨fn, ho2⟩ : ∃ z, Hid (onK o = z) := ⟨_, rfl⟩
    rw [ho1.out, ho2.out] at HX HS
    rw [ho1.out] at p2
    rw [ho2.out] at p1
    obtain ⟨p11, p12⟩ := p1
    obtain ⟨p21, p22⟩ := p2
    rw [ho1.out] at HF1
    rw [ho2.out] at HF2
    by_cases q1 : fo ≤ d
    rotate_left
    · have q1' : d < fo := by omega
      have e1 : decide (d < fo) = true := decide_eq_true q1'
      clear q1
      have HF : Hid (stepsB cs n = false) := HNO.out (fun q => by have r := HS.out.1 q; omega)
      go_wp2_with (first | (go_at_call 33; refine (impl_change _ _).mono ?_; rw [HF1.out, HF2.out]; rintro e w' ⟨rfl, hw⟩; rw [hw]; clear hw w') | (go_at_call 34; refine (impl_sstep _ _ _).mono ?_; rw [HOK.out]; rintro e w1 ⟨rfl, hB1⟩; have HB1 : Hid (Below wr.heap.size wr w1) := (show Below _ _ _ from ((Below.refl _ _).alloc (Nat.le_refl _) _).trans (hB1.mono (by simp))); have BX : Hid (w1.cell? ⟨wr.heap.size, 0, none⟩ = some (.int .i64 o)) := (show _ = _ from (hB1.cell (p := ⟨wr.heap.size, 0, none⟩) (by simp)).trans (by simp)); have BL : Hid (wr.heap.size < w1.heap.size) := (show _ < _ from Nat.lt_of_lt_of_le (by simp) hB1.size); have bx := BX.out; have bl := BL.out; clear hB1))
      go_ret2
      exact dep_no HF.out (HB.out.trans (HB1.out.mono hws))
    have e1 : decide (d < fo) = false := decide_eq_false (by omega)
    by_cases q2 : d - fo + fn ≤ 4
    rotate_left
    · have q2' : 4 < d - fo + fn := by omega
      have e2 : decide (4 < d - fo + fn) = true := decide_eq_true q2'
      clear q2
      have HF : Hid (stepsB cs n = false) := HNO.out (fun q => by have r := HS.out.1 q; omega)
      go_wp2_with (first | (go_at_call 33; refine (impl_change _ _).mono ?_; rw [HF1.out, HF2.out]; rintro e w' ⟨rfl, hw⟩; rw [hw]; clear hw w') | (go_at_call 34; refine (impl_sstep _ _ _).mono ?_; rw [HOK.out]; rintro e w1 ⟨rfl, hB1⟩; have HB1 : Hid (Below wr.heap.size wr w1) := (show Below _ _ _ from ((Below.refl _ _).alloc (Nat.le_refl _) _).trans (hB1.mono (by simp))); have BX : Hid (w1.cell? ⟨wr.heap.size, 0, none⟩ = some (.int .i64 o)) := (show _ = _ from (hB1.cell (p := ⟨wr.heap.size, 0, none⟩) (by simp)).trans (by simp)); have BL : Hid (wr.heap.size < w1.heap.size) := (show _ < _ from Nat.lt_of_lt_of_le (by simp) hB1.size); have bx := BX.out; have bl := BL.out; clear hB1))
      go_ret2
      exact dep_no HF.out (HB.out.trans (HB1.out.mono hws))
    have e2 : decide (4 < d - fo + fn) = false := decide_eq_false (by omega)
    have HG' : Hid (∀ j, j < k + 1 → StepOk cs j) := fun j hj => by
      by_cases e : j = k
      · subst e; exact HS.out.2 ⟨HOK.out, q1, q2⟩
      · exact HG.out j (by omega)
    have d0' : 0 ≤ d + (fn - fo) := by omega
    have d4' : d + (fn - fo) ≤ 4 := by omega
    have hkl : Hid ((depL cs k).length = k + 1) := depL_len cs k
    go_wp2_with (first
      | (go_at_call 33; refine (impl_change _ _).mono ?_; rw [HF1.out, HF2.out]; rintro e w' ⟨rfl, hw⟩; rw [hw]; clear hw w')
      | (go_at_call 34; refine (impl_sstep _ _ _).mono ?_; rw [HOK.out]; rintro e w1 ⟨rfl, hB1⟩; have HB1 : Hid (Below wr.heap.size wr w1) := (show Below _ _ _ from ((Below.refl _ _).alloc (Nat.le_refl _) _).trans (hB1.mono (by simp))); have BX : Hid (w1.cell? ⟨wr.heap.size, 0, none⟩ = some (.int .i64 o)) := (show _ = _ from (hB1.cell (p := ⟨wr.heap.size, 0, none⟩) (by simp)).trans (by simp)); have BL : Hid (wr.heap.size < w1.heap.size) := (show _ < _ from Nat.lt_of_lt_of_le (by simp) hB1.size); have bx := BX.out; have bl := BL.out; clear hB1)
      | (at_builtin; refine wpList_append_own _ rfl _ _ 29 rfl W.heap.size 3 i0 (.int .i64 0) 1 8 Try.underlying29 hi hz0 hz1 hz2 rfl (by decide) _ _ _ rfl (World.ownsRow.alloc (row_below HO.out HB1.out) _) ⟨w1.heap.size, 0, none⟩ 1 1 [.int .i64 (d + (fn - fo))] rfl rfl (new_one w1 _ _) (one_of _) ?c3 ?c4 ?c5 ?_)
      | fail)
    case c3 => rw [hkl.out]; unfold maxLen; omega
    case c4 => rw [hkl.out]; omega
    case c5 => have := HB1.out.size; simp; omega
    intro v2 w2 hown hgrow _
    have HBB : Hid (Below W.heap.size W w1) := HB.out.trans (HB1.out.mono hws)
    obtain ⟨o1, o2, o3⟩ := Own.snoc (row_below HO.out HB1.out) HBB.out.size HBB.out hown hgrow
    have HO2 : Hid (Own w2 W.heap.size v2 (depL cs (k + 1))) := by show Own _ _ _ _; rw [← depL_snoc, HX.out]; exact o1
    have HB2 : Hid (Below W.heap.size W w2) := o2
    clear hown hgrow o1 o2 bx bl
    go_wp2
    go_roundw
    case rel => exact ⟨k + 1, d + (fn - fo), v2, by omega, by go_num, rfl, rfl, d0', d4', HX.out.symm, HG', HO2, HB2⟩
    case measure => simp [intOf]; omega
set_option maxHeartbeats 4000000 in
theorem spec_depthsof (a : Option Addr) (n cap : Nat) (cs : Nat → Dv) (c : Bool) (W : World) (hf : Hid (Fits shSStepS (.l n 2 cs))) (hs : Hid (szD (.l n 2 cs) ≤ 1048576)) (h : Hid (Holds W c (.l n 2 cs) (.slice a n cap))) :
    Calls Try.prog 13 #[.slice a n cap] W fun e W' => DepAns cs n W e W' := by
  go_enter Try.func13, Try.ntmps13
  go_wp2_with fail
  refine (spec_depths a n cap cs c _ hf hs h).mono ?_
  rintro e w1 ⟨v, rfl, hO, hB⟩
  have HA : Hid (DepAns cs n W (.returned (.tuple #[v, .bool (stepsB cs n)])) w1) := ⟨v, rfl, hO, hB⟩
  clear hO hB
  generalize stepsB cs n = q at HA
  go_wp2
  go_ret2
  exact HA.out
set_option maxHeartbeats 4000000 in
theorem spec_goodsteps (a : Option Addr) (n cap : Nat) (cs : Nat → Dv) (c : Bool) (W : World) (hf : Hid (Fits shSStepS (.l n 2 cs))) (hs : Hid (szD (.l n 2 cs) ≤ 1048576)) (h : Hid (Holds W c (.l n 2 cs) (.slice a n cap))) :
    Calls Try.prog 9 #[.slice a n cap] W fun e W' => e = .returned (.bool (stepsB cs n)) ∧ Below W.heap.size W W' := by
  go_enter Try.func9, Try.ntmps9
  go_wp2_with fail
  refine (spec_depths a n cap cs c _ hf hs h).mono ?_
  rintro e w1 ⟨v, rfl, hO, hB⟩
  have HB : Hid (Below W.heap.size W w1) := hB
  clear hO hB
  go_wp2
  go_ret
  exact ⟨rfl, HB.out⟩
set_option maxHeartbeats 4000000 in
theorem impl_goodsteps (a : Option Addr) (n cap : Nat) (cs : Nat → Dv) (c : Bool) (W : World) (hf : Hid (Fits shSStepS (.l n 2 cs))) (hs : Hid (szD (.l n 2 cs) ≤ 1048576)) (h : Hid (Holds W c (.l n 2 cs) (.slice a n cap))) :
    Calls Try.prog 11 #[.slice a n cap] W fun e W' => e = .returned (.bool (stepsB cs n)) ∧ Below W.heap.size W W' := by
  go_enter Try.func11, Try.ntmps11
  go_wp2_with fail
  refine (impl_depths a n cap cs c _ hf hs h).mono ?_
  rintro e w1 ⟨v, rfl, hO, hB⟩
  have HB : Hid (Below W.heap.size W w1) := hB
  clear hO hB
  go_wp2
  go_ret
  exact ⟨rfl, HB.out⟩
end Go.Proofs.Ytdacpbhdemkacaa.walks
