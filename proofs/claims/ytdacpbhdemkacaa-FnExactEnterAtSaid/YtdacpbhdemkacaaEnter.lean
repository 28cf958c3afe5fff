/-
  What EnterAt answers, of the specification and of the program.
-/
import Derived.Test.YtdacpbhdemkacaaProg
import Derived.Test.YtdacpbhdemkacaaMagMath
import Derived.Test.YtdacpbhdemkacaaFrames
import Derived.Test.YtdacpbhdemkacaaInts
import Derived.Test.YtdacpbhdemkacaaDeep
import Derived.Test.YtdacpbhdemkacaaDeepRow
import Derived.WalkKit
import Derived.WalkSpells
import Derived.Below
import Derived.Handy
import Derived.Deep.DeepFit
import Derived.Deep.OwnRows
import Derived.Deep.RegionLaw
import Derived.Laws.CopyOwn
import Derived.Laws.OwnMore
namespace Go.Proofs.Ytdacpbhdemkacaa.walks
open Go.RowKit Go.Proofs.Ytdacpbhdemkacaa.math Go.Proofs.Ytdacpbhdemkacaa.ints Go.Proofs.Ytdacpbhdemkacaa.deep
set_option linter.unusedVariables false
set_option maxRecDepth 100000

def entAt (ls ss : List Int) (i : Nat) : Int := if i < 3 then ls.getD i 0 else ss.getD (i - 3) 0
def entL (ls ss : List Int) : List Int := (List.range 8).map (entAt ls ss)
def entZ (ls ss ts : List Int) : List Int := if frameB ls ss ts then entL ls ss else []
theorem entL_len (ls ss : List Int) : (entL ls ss).length = 8 := by simp [entL]
theorem entL_at (ls ss : List Int) {i : Nat} (h : i < 8) : (entL ls ss).getD i 0 = entAt ls ss i := by simp [entL, List.getD, h]
theorem entZ_len (ls ss ts : List Int) : (entZ ls ss ts).length ≤ 8 := by
  unfold entZ
  cases frameB ls ss ts
  · simp
  · simp [entL_len]
/-- What EnterAt answers. -/
def EntAns (ls ss ts : List Int) (W : World) (e : Ending) (W' : World) : Prop := ∃ a c, e = .returned (.tuple #[.slice a (entZ ls ss ts).length c, .bool (frameB ls ss ts)]) ∧ Mine W' W.heap.size a (entZ ls ss ts) ∧ Below W.heap.size W W'
theorem ent_no {ls ss ts : List Int} {W W' : World} (h : frameB ls ss ts = false) (hB : Below W.heap.size W W') : EntAns ls ss ts W (.returned (.tuple #[.slice none 0 0, .bool false])) W' := by
  have e : entZ ls ss ts = [] := by unfold entZ; rw [h]; rfl
  exact ⟨none, 0, by rw [e, h]; rfl, by rw [e]; exact Or.inl rfl, hB⟩
theorem ent_yes {ls ss ts : List Int} {W W' : World} {g : Nat} (h : frameB ls ss ts = true) (hr : W'.rowIs g 3 8 (fun i => .int .i64 (entAt ls ss i))) (hg : W.heap.size ≤ g) (hB : Below W.heap.size W W') : EntAns ls ss ts W (.returned (.tuple #[.slice (some ⟨g, 0, none⟩) 8 8, .bool true])) W' := by
  have e : entZ ls ss ts = entL ls ss := by unfold entZ; rw [h]; rfl
  refine ⟨some ⟨g, 0, none⟩, 8, by rw [e, h, entL_len], ?_, hB⟩
  rw [e]
  refine Or.inr ⟨g, 0, rfl, hg, hr.lt, fun i hi => ?_⟩
  rw [entL_len] at hi
  rw [entL_at _ _ hi, Nat.zero_add]
  exact ⟨hr.cell hi, hr.frozen i⟩

set_option maxHeartbeats 8000000 in
theorem spec_enter13 (a0 : Option Addr) (l0 c0 : Nat) (a1 : Option Addr) (l1 c1 : Nat) (a2 : Option Addr) (l2 c2 : Nat) (ls ss ts : List Int) (W : World) (H0 : Hid (ls.length = l0)) (H1 : Hid (ss.length = l1)) (H2 : Hid (ts.length = l2)) (x0 : l0 ≤ 1048576) (x1 : l1 ≤ 1048576) (x2 : l2 ≤ 1048576) (I0 : Hid (Ints W a0 ls)) (I1 : Hid (Ints W a1 ss)) (I2 : Hid (Ints W a2 ts)) (q0 : l0 = 3) (q1 : l1 ≤ 4) :
    Calls Try.prog 45 #[.agg #[.slice a0 l0 c0, .slice a1 l1 c1, .slice a2 l2 c2]] W fun e W' => ∃ g, e = .returned (.slice (some ⟨g, 0, none⟩) 8 8) ∧ W'.rowIs g 3 8 (fun i => .int .i64 (entAt ls ss i)) ∧ W.heap.size ≤ g ∧ Below W.heap.size W W' := by
  subst q0
  obtain ⟨i0, hi, hz0, hz1, hz2⟩ := parts_of (P := Try.prog) (e := 3) (z := .int .i64 0) (a := 1) (b := 8) (by kernel_rfl)
  obtain ⟨M, HM⟩ : ∃ M, Hid (madeCells #[.int .i64 0] 8 = M) := ⟨_, rfl⟩
  have hmk : ∀ w : World, (Instr.makeSlice 29 (.int .i64 8) (.int .i64 8)).run Try.prog w = .ok (.slice (some ⟨w.heap.size, 0, none⟩) 8 8) (w.alloc (.cells M 3)) := by
    intro w
    have hr := run_make (P := Try.prog) w 29 3 i0 _ Try.underlying29 hi hz0 .i64 .i64 8 8 (by omega) (Int.le_refl _) (by rw [hz2]; decide) (by decide)
    rw [hr, hz1, ← HM.out]; rfl
  clear hi hz0 hz1 hz2
  go_enter Try.func45, Try.ntmps45
  go_wp2
  go_loopw [12] (fun vi wr => ∃ k : Nat, k ≤ 3 ∧ vi = .int .i64 k ∧ Hid (wr.rowIs (W.heap.size + 1) 3 8 (fun i => .int .i64 (if i < k then ls.getD i 0 else 0))) ∧ Hid (wr.rowIs W.heap.size 39 3 (rowF [.slice a0 3 c0, .slice a1 l1 c1, .slice a2 l2 c2])) ∧ Hid (Below W.heap.size W wr)) (fun vi _ => 3 - (intOf vi).toNat)
  case atStart =>
    refine ⟨0, Nat.zero_le _, rfl, ?_, ?_, ?_⟩
    · have h := World.rowIs_made (W.alloc (.cells #[.slice a0 3 c0, .slice a1 l1 c1, .slice a2 l2 c2] 39)) (.int .i64 0) 8 3
      rw [show (W.alloc (.cells #[.slice a0 3 c0, .slice a1 l1 c1, .slice a2 l2 c2] 39)).heap.size = W.heap.size + 1 by simp, HM.out] at h
      exact h.congr (fun i hi => by rw [if_neg (by omega)])
    · exact (row_of W #[.slice a0 3 c0, .slice a1 l1 c1, .slice a2 l2 c2] 39).alloc _
    · show Below _ _ _
      go_grown
  case round =>
    obtain ⟨k, hk, rfl, HR, HX, HB⟩ := hrel
    have r1 : wr.cell? ⟨W.heap.size, 1, none⟩ = some (.slice a1 l1 c1) := HX.out.cell (i := 1) (by decide)
    have rl := HX.out.lt
    have gl := HR.out.lt
    by_cases hlt : k < 3
    · obtain ⟨b, off, ha, hc⟩ := I0.out.at HB.out (k := k) (by rw [H0.out]; exact hlt)
      subst ha
      have hltI : (k : Int) < 3 := by omega
      obtain ⟨x, HXX⟩ : ∃ x, Hid (ls.getD k 0 = x) := ⟨_, rfl⟩
      rw [HXX.out] at hc
      have c0 := HR.out.cell (i := k) (by omega)
      have f0 := HR.out.frozen k
      go_wp2
      go_roundw
      case rel =>
        refine ⟨k + 1, by omega, by go_num, ?_, HX.out.setOther (by simp) _, HB.out.setCell (by simp) _⟩
        refine (HR.out.set k _).congr (fun i hi => ?_)
        by_cases e : i = k
        · subst e; rw [if_pos rfl, if_pos (by omega), HXX.out]
        · by_cases e2 : i < k
          · simp only [if_neg e, if_pos e2, if_pos (show i < k + 1 by omega)]
          · simp only [if_neg e, if_neg e2, if_neg (show ¬ i < k + 1 by omega)]
      case measure => simp [intOf]; omega
    have hk3 : k = 3 := by omega
    subst hk3
    obtain ⟨wo, hwo⟩ : ∃ wo, wo = wr := ⟨_, rfl⟩
    subst hwo
    go_wp2
    go_loopw [25] (fun vi wr => ∃ k : Nat, k ≤ l1 ∧ vi = .int .i64 k ∧ Hid (wr.rowIs (W.heap.size + 1) 3 8 (fun i => .int .i64 (if i < 3 then ls.getD i 0 else if i < 3 + k then ss.getD (i - 3) 0 else 0))) ∧ Hid (Below W.heap.size W wr)) (fun vi _ => l1 - (intOf vi).toNat)
    case atStart => exact ⟨0, Nat.zero_le _, rfl, HR.out.congr (fun i hi => by by_cases e : i < 3; simp only [if_pos e]; simp only [if_neg e]), HB⟩
    case round =>
      clear r1 HX HR rl gl HB
      obtain ⟨j, hj, rfl, HR, HB⟩ := hrel
      have gl := HR.out.lt
      by_cases hlt : j < l1
      · obtain ⟨b, off, ha, hc⟩ := I1.out.at HB.out (k := j) (by rw [H1.out]; exact hlt)
        subst ha
        have hltI : (j : Int) < (l1 : Int) := by omega
        obtain ⟨x, HXX⟩ : ∃ x, Hid (ss.getD j 0 = x) := ⟨_, rfl⟩
        rw [HXX.out] at hc
        have c0 := HR.out.cell (i := 3 + j) (by omega)
        have f0 := HR.out.frozen (3 + j)
        go_wp2
        go_roundw
        case rel =>
          refine ⟨j + 1, by omega, by go_num, ?_, HB.out.setCell (by simp) _⟩
          refine (HR.out.set (3 + j) _).congr (fun i hi => ?_)
          by_cases e : i = 3 + j
          · subst e; rw [if_pos rfl, if_neg (by omega), if_pos (by omega), show 3 + j - 3 = j by omega, HXX.out]
          · by_cases e1 : i < 3
            · simp only [if_neg e, if_pos e1]
            · by_cases e2 : i < 3 + j
              · simp only [if_neg e, if_neg e1, if_pos e2, if_pos (show i < 3 + (j + 1) by omega)]
              · simp only [if_neg e, if_neg e1, if_neg e2, if_neg (show ¬ i < 3 + (j + 1) by omega)]
        case measure => simp [intOf]; omega
      have HA : Hid (wr.rowIs (W.heap.size + 1) 3 8 (fun i => .int .i64 (entAt ls ss i))) := by
        refine HR.out.congr (fun i hi => ?_)
        unfold entAt
        by_cases e1 : i < 3
        · simp only [if_pos e1]
        · by_cases e2 : i < 3 + j
          · simp only [if_neg e1, if_pos e2]
          · simp only [if_neg e1, if_neg e2]
            have := H1.out
            rw [show ss.getD (i - 3) 0 = 0 by rw [List.getD, List.getElem?_eq_none (by omega)]; rfl]
      go_wp2
      go_ret
      exact ⟨W.heap.size + 1, rfl, HA.out, by omega, HB.out⟩
set_option maxHeartbeats 8000000 in
theorem spec_enterat (a0 : Option Addr) (l0 c0 : Nat) (a1 : Option Addr) (l1 c1 : Nat) (a2 : Option Addr) (l2 c2 : Nat) (ls ss ts : List Int) (W : World) (H0 : Hid (ls.length = l0)) (H1 : Hid (ss.length = l1)) (H2 : Hid (ts.length = l2)) (x0 : l0 ≤ 1048576) (x1 : l1 ≤ 1048576) (x2 : l2 ≤ 1048576) (I0 : Hid (Ints W a0 ls)) (I1 : Hid (Ints W a1 ss)) (I2 : Hid (Ints W a2 ts)) : Calls Try.prog 28 #[.agg #[.slice a0 l0 c0, .slice a1 l1 c1, .slice a2 l2 c2]] W (EntAns ls ss ts W) := by
  have CF : Hid (∀ (V : World), Below W.heap.size W V → Calls Try.prog 20 #[.agg #[.slice a0 l0 c0, .slice a1 l1 c1, .slice a2 l2 c2]] V fun e W' => e = .returned (.bool (frameB ls ss ts)) ∧ Below V.heap.size V W') := fun V hV => spec_frame a0 l0 c0 a1 l1 c1 a2 l2 c2 ls ss ts V H0 H1 H2 x0 x1 x2 (I0.out.kept hV) (I1.out.kept hV) (I2.out.kept hV)
  cases hf : frameB ls ss ts
  · rw [hf] at CF
    go_enter Try.func28, Try.ntmps28
    go_wp2_with (go_at_call 20; refine (CF.out _ (by show Below _ _ _; go_grown)).mono ?_; rintro e w1 ⟨rfl, hB⟩; have HB : Hid (Below W.heap.size W w1) := (show Below _ _ _ from ((Below.refl _ _).alloc (Nat.le_refl _) _).trans (hB.mono (by simp))); clear hB)
    go_ret2
    exact ent_no hf HB.out
  rw [hf] at CF
  obtain ⟨q0, _, q1, _⟩ := frame_out hf
  have k0 : Hid (l0 = 3) := by show _ = _; have := H0.out; omega
  have k1 : Hid (l1 ≤ 4) := by show _ ≤ _; have := H1.out; omega
  have HF : Hid (frameB ls ss ts = true) := hf
  clear q0 q1
  go_enter Try.func28, Try.ntmps28
  go_wp2_with fail
  refine (CF.out _ (by show Below _ _ _; go_grown)).mono ?_
  rintro e w1 ⟨rfl, hB⟩
  have HB : Hid (Below W.heap.size W w1) := (show Below _ _ _ from ((Below.refl _ _).alloc (Nat.le_refl _) _).trans (hB.mono (by simp)))
  have BX : Hid (w1.rowIs W.heap.size 39 3 (rowF [.slice a0 l0 c0, .slice a1 l1 c1, .slice a2 l2 c2])) := (row_of W #[.slice a0 l0 c0, .slice a1 l1 c1, .slice a2 l2 c2] 39).of_block (hB.block _ (by simp))
  have b0 : w1.cell? ⟨W.heap.size, 0, none⟩ = some (.slice a0 l0 c0) := BX.out.cell (i := 0) (by decide)
  have b1 : w1.cell? ⟨W.heap.size, 1, none⟩ = some (.slice a1 l1 c1) := BX.out.cell (i := 1) (by decide)
  have b2 : w1.cell? ⟨W.heap.size, 2, none⟩ = some (.slice a2 l2 c2) := BX.out.cell (i := 2) (by decide)
  have bl := BX.out.lt
  clear hB hf
  go_wp2_with fail
  refine (spec_enter13 a0 l0 c0 a1 l1 c1 a2 l2 c2 ls ss ts _ H0 H1 H2 x0 x1 x2 (I0.out.kept HB.out) (I1.out.kept HB.out) (I2.out.kept HB.out) k0.out k1.out).mono ?_
  rintro e w2 ⟨g, rfl, hR, hg, hB2⟩
  have HA : Hid (EntAns ls ss ts W (.returned (.tuple #[.slice (some ⟨g, 0, none⟩) 8 8, .bool true])) w2) := ent_yes HF.out hR (Nat.le_trans HB.out.size hg) (HB.out.trans (hB2.mono HB.out.size))
  clear hR hg hB2
  go_wp2
  go_ret2
  exact HA.out
theorem splice8 (ls ss : List Int) (h0 : ls.length = 3) (h1 : ss.length ≤ 4) : splice (splice (List.replicate 8 (Value.int .i64 0)) 0 (ls.map (Value.int .i64))) 3 (ss.map (Value.int .i64)) = (entL ls ss).map (Value.int .i64) := by
  match ls, h0 with
  | [x, y, z], _ =>
    match ss, h1 with
    | [], _ => rfl
    | [a], _ => rfl
    | [a, b], _ => rfl
    | [a, b, c], _ => rfl
    | [a, b, c, d], _ => rfl
    | a :: b :: c :: d :: e :: r, h => exact absurd h (by simp)
theorem ints_news13 {W : World} {b o : Nat} {zs : List Int} (h : Ints W (some ⟨b, o, none⟩) zs) : ∀ j v, (zs.map (Value.int .i64))[j]? = some v → W.cell? ((⟨b, o, none⟩ : Addr).add j) = some v := by
  intro j v hj
  have ha : (⟨b, o, none⟩ : Addr).add j = ⟨b, o + j, none⟩ := by unfold Addr.add; split <;> simp_all
  have hlt : j < zs.length := by have := (List.getElem?_eq_some_iff.1 hj).1; simpa using this
  obtain ⟨b', o', e, hc⟩ := h.at (Below.refl _ _) hlt
  simp only [Option.some.injEq, Addr.mk.injEq, and_true] at e
  obtain ⟨rfl, rfl⟩ := e
  rw [ha, hc]
  simp only [List.getElem?_map, List.getElem?_eq_getElem hlt, Option.map_some, Option.some.injEq] at hj
  rw [← hj]
  simp [List.getD, List.getElem?_eq_getElem hlt]
theorem src_of {W : World} {a : Option Addr} {zs : List Int} (h : Ints W a zs) (h0 : 0 < zs.length) : ∃ ad, a = some ad ∧ ∀ j v, (zs.map (Value.int .i64))[j]? = some v → W.cell? (ad.add j) = some v := by
  obtain ⟨b, o, rfl, _⟩ := h.at (Below.refl _ _) h0
  exact ⟨_, rfl, ints_news13 h⟩
theorem ints_one13 (zs : List Int) : ∀ v ∈ zs.map (Value.int .i64), v.oneCell' = true := by
  intro v hv
  simp at hv
  obtain ⟨y, _, rfl⟩ := hv
  rfl
theorem row_entL {W : World} {g : Nat} {ls ss : List Int} (h : W.heap[g]? = some (.cells ((entL ls ss).map (Value.int .i64)).toArray 3 (0, 0))) : W.rowIs g 3 8 (fun i => .int .i64 (entAt ls ss i)) := by
  refine ⟨_, h, by simp [entL_len], fun i hi => ?_⟩
  simp [entL, hi]
set_option maxHeartbeats 8000000 in
theorem impl_enterat (a0 : Option Addr) (l0 c0 : Nat) (a1 : Option Addr) (l1 c1 : Nat) (a2 : Option Addr) (l2 c2 : Nat) (ls ss ts : List Int) (W : World) (H0 : Hid (ls.length = l0)) (H1 : Hid (ss.length = l1)) (H2 : Hid (ts.length = l2)) (x0 : l0 ≤ 1048576) (x1 : l1 ≤ 1048576) (x2 : l2 ≤ 1048576) (I0 : Hid (Ints W a0 ls)) (I1 : Hid (Ints W a1 ss)) (I2 : Hid (Ints W a2 ts)) : Calls Try.prog 29 #[.agg #[.slice a0 l0 c0, .slice a1 l1 c1, .slice a2 l2 c2]] W (EntAns ls ss ts W) := by
  have CF : Hid (∀ (V : World), Below W.heap.size W V → Calls Try.prog 22 #[.agg #[.slice a0 l0 c0, .slice a1 l1 c1, .slice a2 l2 c2]] V fun e W' => e = .returned (.bool (frameB ls ss ts)) ∧ Below V.heap.size V W') := fun V hV => impl_frame a0 l0 c0 a1 l1 c1 a2 l2 c2 ls ss ts V H0 H1 H2 x0 x1 x2 (I0.out.kept hV) (I1.out.kept hV) (I2.out.kept hV)
  cases hf : frameB ls ss ts
  · rw [hf] at CF
    go_enter Try.func29, Try.ntmps29
    go_wp2_with (go_at_call 22; refine (CF.out _ (by show Below _ _ _; go_grown)).mono ?_; rintro e w1 ⟨rfl, hB⟩; have HB : Hid (Below W.heap.size W w1) := (show Below _ _ _ from ((Below.refl _ _).alloc (Nat.le_refl _) _).trans (hB.mono (by simp))); clear hB)
    go_ret2
    exact ent_no hf HB.out
  rw [hf] at CF
  obtain ⟨q0, _, q1, _⟩ := frame_out hf
  have k0 : l0 = 3 := by have := H0.out; omega
  have k1 : l1 ≤ 4 := by have := H1.out; omega
  have HQ : Hid (ls.length = 3 ∧ ss.length ≤ 4) := ⟨q0, q1⟩
  subst k0
  have HF : Hid (frameB ls ss ts = true) := hf
  clear q0 q1
  have hn0 : (ls.map (Value.int .i64)).length = Nat.min 3 8 := by simp [HQ.out.1]
  have hn1 : (ss.map (Value.int .i64)).length = Nat.min l1 5 := by rw [List.length_map, H1.out]; exact (Nat.min_eq_left (by omega)).symm
  obtain ⟨i0, hi, hz0, hz1, hz2⟩ := parts_of (P := Try.prog) (e := 3) (z := .int .i64 0) (a := 1) (b := 8) (by kernel_rfl)
  obtain ⟨M, HM⟩ : ∃ M, Hid (madeCells #[.int .i64 0] 8 = M) := ⟨_, rfl⟩
  have hmk : ∀ w : World, (Instr.makeSlice 29 (.int .i64 8) (.int .i64 8)).run Try.prog w = .ok (.slice (some ⟨w.heap.size, 0, none⟩) 8 8) (w.alloc (.cells M 3)) := by
    intro w
    have hr := run_make (P := Try.prog) w 29 3 i0 _ Try.underlying29 hi hz0 .i64 .i64 8 8 (by omega) (Int.le_refl _) (by rw [hz2]; decide) (by decide)
    rw [hr, hz1, ← HM.out]; rfl
  clear hi hz0 hz1 hz2
  have HML : Hid (M.toList = List.replicate 8 (Value.int .i64 0)) := by show _ = _; rw [← HM.out]; exact toList_madeCells_one _ _
  go_enter Try.func29, Try.ntmps29
  go_wp2_with fail
  refine (CF.out _ (by show Below _ _ _; go_grown)).mono ?_
  rintro e w1 ⟨rfl, hB⟩
  have HB : Hid (Below W.heap.size W w1) := (show Below _ _ _ from ((Below.refl _ _).alloc (Nat.le_refl _) _).trans (hB.mono (by simp)))
  have BX : Hid (w1.rowIs W.heap.size 39 3 (rowF [.slice a0 3 c0, .slice a1 l1 c1, .slice a2 l2 c2])) := (row_of W #[.slice a0 3 c0, .slice a1 l1 c1, .slice a2 l2 c2] 39).of_block (hB.block _ (by simp))
  have b0 : w1.cell? ⟨W.heap.size, 0, none⟩ = some (.slice a0 3 c0) := BX.out.cell (i := 0) (by decide)
  have bl := BX.out.lt
  clear hB hf CF
  go_wp2_with (first
    | (refine wpList_copy_splice rfl _ _ _ _ rfl 3 Try.underlying29 (by kernel_rfl) _ a0 8 8 3 c0 rfl rfl w1.heap.size 0 M.toList 3 (by rw [Array.toArray_toList]; exact heap_alloc_new w1 _) (ls.map (Value.int .i64)) hn0 (fun _ => ⟨rfl, src_of (I0.out.kept (HB.out.alloc HB.out.size _)) (by rw [HQ.out.1]; decide)⟩) (by rw [HML.out]; simp [HQ.out.1]) (ints_one13 ls) w1.heap.size w1 ((Below.refl _ _).alloc (Nat.le_refl _) _) (Nat.le_refl _) ?_)
    | fail)
  intro w2 HG2 hB2
  have HB2 : Hid (Below w1.heap.size w1 w2) := hB2
  have b1 : w2.cell? ⟨W.heap.size, 1, none⟩ = some (.slice a1 l1 c1) := (hB2.cell (p := ⟨W.heap.size, 1, none⟩) bl).trans (BX.out.cell (i := 1) (by decide))
  have HBW : Hid (Below W.heap.size W w2) := HB.out.trans (hB2.mono HB.out.size)
  have HS1 : Hid (0 < ss.length → ∃ ad, a1 = some ad ∧ ∀ j v, (ss.map (Value.int .i64))[j]? = some v → w2.drew.cell? (ad.add j) = some v) := fun q => src_of (I1.out.kept HBW.out.drew) q
  have HL2 : Hid ((splice M.toList 0 (ls.map (Value.int .i64))).length = 8) := by show _ = _; rw [HML.out]; unfold splice; simp [HQ.out.1]
  obtain ⟨C, HC⟩ : ∃ C, Hid (splice M.toList 0 (ls.map (Value.int .i64)) = C) := ⟨_, rfl⟩
  rw [HC.out] at HG2 HL2
  have HFIN : Hid (splice C 3 (ss.map (Value.int .i64)) = (entL ls ss).map (Value.int .i64)) := by show _ = _; rw [← HC.out, HML.out]; exact splice8 ls ss HQ.out.1 HQ.out.2
  clear hB2 b0
  go_wp2
  go_region_law (refine step_copy_splice rfl (.tmp 14) (.tmp 16) 29 29 rfl 3 Try.underlying29 (by kernel_rfl) (some ⟨w1.heap.size, 3, none⟩) a1 5 5 l1 c1 (by simp [Act.eval]) (by simp [Act.eval]) w1.heap.size 3 C 3 HG2.out (ss.map (Value.int .i64)) hn1 (fun q => ⟨rfl, HS1.out (by simpa using q)⟩) (by rw [HL2.out, List.length_map]; have := HQ.out.2; omega) (ints_one13 ss) w1.heap.size w1 HB2.out.drew (Nat.le_refl _) ?_; intro w3 HG3 hB3)
  rw [HFIN.out] at HG3
  have HA : Hid (EntAns ls ss ts W (.returned (.tuple #[.slice (some ⟨w1.heap.size, 0, none⟩) 8 8, .bool true])) w3) := ent_yes HF.out (row_entL HG3.out) HB.out.size (HB.out.trans (hB3.mono HB.out.size))
  clear hB3 HG3
  go_wp2
  go_ret2
  exact HA.out

end Go.Proofs.Ytdacpbhdemkacaa.walks
