/-
  At every argument DropDead answers as the specification, field by field; it writes into no argument and keeps nothing of one; its answer owns its memory, behind another call too.
-/
import Derived.Test.YtfmgbalfabpogaaProg
import Derived.Test.YtfmgbalfabpogaaDeep
import Derived.Test.YtfmgbalfabpogaaDeepOpen
import Derived.Test.YtfmgbalfabpogaaDeepRow
import Derived.WalkKit
import Derived.WalkSpells
import Derived.Below
import Derived.Handy
import Derived.Deep.OwnRows
import Derived.Deep.RegionWith
import Derived.Laws.MakeOwn
import Derived.Test.YtfmgbalfabpogaaDeepB
import Derived.Test.YtfmgbalfabpogaaFlow
import Derived.Test.YtfmgbalfabpogaaInts
import Derived.OwnWalk
import Derived.Maps.AppendAt
import Derived.Test.YtfmgbalfabpogaaBackMath
import Derived.Test.YtfmgbalfabpogaaNamesMath
import Derived.Test.YtfmgbalfabpogaaLiveMath
import Derived.Test.YtfmgbalfabpogaaFlowMath
import Derived.RangeFuncNested
import Derived.RangeFuncBound
import Derived.RangeFuncCalls
import Derived.RangeFuncLeaves
import Derived.Shelf.Abstract
import Derived.OwnWalkIn
import Derived.TacticsInMore
import Derived.LoopNIn
import Derived.LoopIn
import Derived.Test.YtfmgbalfabpogaaStepsOf
import Derived.Test.YtfmgbalfabpogaaBackward
import Derived.Test.YtfmgbalfabpogaaBackwardB
import Derived.Maps.OwnIn
import Derived.Test.YtfmgbalfabpogaaBackOps
import Derived.Test.YtfmgbalfabpogaaNeedsRound
import Derived.Test.YtfmgbalfabpogaaFlowBlocks
import Derived.Deep.LoopGhost
import Derived.Test.YtfmgbalfabpogaaSetOps
import Derived.Deep.DeepCutAuto
import Derived.Test.YtfmgbalfabpogaaLiveSpec
import Derived.Deep.RegionHeld3
import Derived.Deep.CutBlock
import Derived.Test.YtfmgbalfabpogaaMagMath
import Derived.Test.YtfmgbalfabpogaaOwnInts
import Derived.Laws.AppendOwnNone
import Derived.Test.YtfmgbalfabpogaaPutSpec
import Derived.Shelf.SlIterI.Nil
import Derived.Shelf.SortM.Plain
import Derived.Shelf.SortM.SortNone
import Derived.Test.YtfmgbalfabpogaaShelf
import Derived.Test.YtfmgbalfabpogaaSetKeys
import Derived.Test.YtfmgbalfabpogaaSetRise
import Derived.Test.YtfmgbalfabpogaaNeedsAt
import Derived.Test.YtfmgbalfabpogaaMarks
import Derived.Test.YtfmgbalfabpogaaNeedSpec
import Derived.Test.YtfmgbalfabpogaaFlowSpec
import Derived.Test.YtfmgbalfabpogaaRows
import Derived.ProofKit
import Derived.OpenShut
import Derived.ShutString
import Derived.ChangeOld
import Derived.Carry
import Derived.SizedLaws
import Derived.Test.YtfmgbalfabpogaaCodeMath
namespace Go.Proofs.Ytfmgbalfabpogaa.deep
open Go.RowKit Go.Proofs.Ytfmgbalfabpogaa.ints
set_option linter.unusedVariables false

def shIntSS : Sh := .l 1 (fun _ => shI)
theorem thin_IntSS : Thin shIntSS := ⟨by decide, fun i => by
  exact ⟨by decide, fun _ => trivial⟩⟩
set_option maxRecDepth 100000 in
set_option maxHeartbeats 4000000 in
theorem IntSS_eq (a a' : Option Addr) (len cap cap' : Nat) (cs : Nat → Dv) (c c' : Bool) (W : World) (hf : Hid (Fits shIntSS (.l len 1 cs))) (hs : Hid (szD (.l len 1 cs) ≤ 1048576)) (h : Hid (Holds W c (.l len 1 cs) (.slice a len cap))) (h' : Hid (Holds W c' (.l len 1 cs) (.slice a' len cap'))) :
    Calls Try.prog 14 #[.slice a len cap, .slice a' len cap'] W fun e W' => e = .returned (.bool true) ∧ Below W.heap.size W W' := by
  have hlen : len ≤ 1048576 := Nat.le_trans (Nat.le_add_right _ _) hs.out
  go_enter Try.func14, Try.ntmps14
  go_wp2
  go_loopw [5] (fun vi wr => ∃ k : Nat, k ≤ len ∧ vi = .int .i64 k ∧ Hid (Below W.heap.size W wr)) (fun vi _ => len - (intOf vi).toNat)
  case atStart => exact ⟨0, Nat.zero_le _, rfl, Below.refl _ _⟩
  case round =>
    obtain ⟨k, hk, rfl, HB⟩ := hrel
    by_cases hlt : k < len
    rotate_left
    · go_wp2
      go_ret
      exact ⟨rfl, HB.out⟩
    have hltI : (k : Int) < (len : Int) := by omega
    have hkn : (k + 1) * 1 ≤ len * 1 := Nat.mul_le_mul_right _ hlt
    rw [Nat.add_mul] at hkn
    obtain ⟨b, o, ha, hb, hcell⟩ := h.out.cells HB.out (show 0 < len * 1 by omega)
    obtain ⟨b', o', ha', hb', hcell'⟩ := h'.out.cells HB.out (show 0 < len * 1 by omega)
    subst ha ha'
    have hbw : b < wr.heap.size := by have := HB.out.size; omega
    have hbw' : b' < wr.heap.size := by have := HB.out.size; omega
    obtain ⟨u0, d0, q0⟩ := hcell (k) (by omega)
    obtain ⟨v0, g0, r0⟩ := hcell' (k) (by omega)
    obtain ⟨l0, cs0, E0, F0⟩ := (hf.out.cell hlt (c := 0) (by decide)).list
    simp only [Nat.mul_one, Nat.add_zero] at E0
    have E0 : cs (k) = .l l0 1 cs0 := E0
    have hs0 : Hid (szD (.l l0 1 cs0) ≤ 1048576) := by have q := sz_at (len := len) (sz := 1) (cs := cs) (i := k) (by omega); rw [E0] at q; exact Nat.le_trans q hs.out
    have hf0 : Hid (Fits shI (.l l0 1 cs0)) := ⟨rfl, F0⟩
    rw [E0] at q0 r0
    obtain ⟨a0, c0, ev0, _⟩ := q0.slice
    obtain ⟨b0, e0, ew0, _⟩ := r0.slice
    subst ev0 ew0
    have h0 : Hid (Holds wr.drew c (.l l0 1 cs0) (.slice a0 l0 c0)) := q0.kept (Below.refl _ _).drew
    have g0' : Hid (Holds wr.drew c' (.l l0 1 cs0) (.slice b0 l0 e0)) := r0.kept (Below.refl _ _).drew
    clear q0 r0 F0 E0
    clear hcell hcell'
    have HD : Hid (Below W.heap.size W wr.drew) := HB.out.drew
    go_wp2_with fail
    go_region_with (go_at_call 30; refine (IntS_eq _ _ _ _ _ cs0 c c' _ hf0 (Nat.le_trans (Nat.le_add_right _ _) hs0.out) h0 g0').mono ?_; rintro e w' ⟨rfl, hb⟩; have HX : Hid (Below W.heap.size W w') := HD.out.trans (hb.mono HD.out.size); clear hb)
    all_goals
      go_wp2
      go_roundw
      case rel => exact ⟨k + 1, by omega, by go_num, HX.out⟩
      case measure => simp [intOf]; omega
set_option maxRecDepth 100000 in
set_option maxHeartbeats 4000000 in
theorem IntSS_mark (k0 : Int) (h0 : 0 ≤ k0) (h1 : k0 ≤ 1000000000) (a : Option Addr) (len cap : Nat) (cs : Nat → Dv) (c : Bool) (W : World) (B : Nat) (F : Nat → Prop) (hf : Hid (Fits shIntSS (.l len 1 cs))) (hs : Hid (szD (.l len 1 cs) ≤ 1048576)) (h : Hid (Owns W c B (.l len 1 cs) (.slice a len cap) F)) :
    Calls Try.prog 15 #[.slice a len cap, .int .i64 k0] W fun e W' => e = .returned (.int .i64 (k0 + (cntD (.l len 1 cs) : Nat))) ∧ Owns W' c B (mkD k0 (.l len 1 cs)) (.slice a len cap) F ∧ OnlyF W W' F := by
  have hlen : len ≤ 1048576 := Nat.le_trans (Nat.le_add_right _ _) hs.out
  have hcn : sumTo (fun j => cntD (cs j)) (len * 1) ≤ 8388609 := by have q := cnt_le thin_IntSS hf.out; have q2 := hs.out; simp only [cntD] at q; omega
  have hmo : ∀ m, m ≤ len * 1 → sumTo (fun j => cntD (cs j)) m ≤ 8388609 := fun m hm => Nat.le_trans (sumTo_mono _ _ hm) hcn
  have HMO : Hid (∀ m, m ≤ len * 1 → sumTo (fun j => cntD (cs j)) m ≤ 8388609) := hmo
  clear hcn hmo
  go_enter Try.func15, Try.ntmps15
  go_wp2
  go_loopw [1, 5] (fun vk vi wr => ∃ k : Nat, k ≤ len ∧ vi = .int .i64 k ∧ vk = .int .i64 (k0 + (sumTo (fun j => cntD (cs j)) (k * 1) : Nat)) ∧ Hid (Owns wr c B (.l len 1 (fun j => if j < k * 1 then mkD (k0 + (sumTo (fun j => cntD (cs j)) j : Nat)) (cs j) else cs j)) (.slice a len cap) F) ∧ Hid (OnlyF W wr F)) (fun _ vi _ => len - (intOf vi).toNat)
  case atStart => exact ⟨0, Nat.zero_le _, rfl, by simp [sumTo], h.out.congr (fun i hi => by rw [if_neg (by omega)]), OnlyF.refl _ _⟩
  case round =>
    obtain ⟨k, hk, rfl, rfl, HO, HB⟩ := hrel
    by_cases hlt : k < len
    rotate_left
    · have HK : Hid (k = len) := by show k = len; omega
      go_wp2
      go_ret
      refine ⟨by rw [HK.out]; rfl, ?_, HB.out⟩
      exact HO.out.congr (fun i hi => by rw [if_pos (by rw [HK.out]; exact hi)])
    have hltI : (k : Int) < (len : Int) := by omega
    have hkn : (k + 1) * 1 ≤ len * 1 := Nat.mul_le_mul_right _ hlt
    rw [Nat.add_mul] at hkn
    obtain ⟨b, o, ha, hbw⟩ := HO.out.addr (show 0 < len * 1 by omega)
    subst ha
    have hk1 := HMO.out (k * 1) (by omega)
    obtain ⟨kk, HKK⟩ : ∃ kk : Int, Hid (k0 + (sumTo (fun j => cntD (cs j)) (k * 1) : Nat) = kk) := ⟨_, rfl⟩
    have kk0 : 0 ≤ kk := by have := HKK.out; omega
    have kk1 : kk ≤ 1000000000 + 8388609 := by have := HKK.out; omega
    rw [HKK.out]
    clear hk1
    have HKK1 : Hid (k0 + (sumTo (fun j => cntD (cs j)) k : Nat) = kk) := by have := HKK.out; rw [Nat.mul_one] at this; exact this
    obtain ⟨l0, cs0, E0, F0⟩ := (hf.out.cell hlt (c := 0) (by decide)).list
    simp only [Nat.mul_one, Nat.add_zero] at E0
    have E0 : cs (k) = .l l0 1 cs0 := E0
    have hs0 : Hid (szD (.l l0 1 cs0) ≤ 1048576) := by have q := sz_at (len := len) (sz := 1) (cs := cs) (i := k) (by omega); rw [E0] at q; exact Nat.le_trans q hs.out
    have E0 : Hid (cs (k) = .l l0 1 cs0) := E0
    have hf0 : Hid (Fits shI (.l l0 1 cs0)) := ⟨rfl, F0⟩
    clear F0
    have hcn0 : cntD (.l l0 1 cs0) ≤ 8388609 := by have q := cnt_le (s := shI) ⟨by decide, fun _ => trivial⟩ hf0.out; have q2 := hs0.out; omega
    obtain ⟨N0, HN0⟩ : ∃ N, Hid (cntD (.l l0 1 cs0) = N) := ⟨_, rfl⟩
    rw [HN0.out] at hcn0
    have HO0 : Hid (Owns wr c B (.l len 1 (fun j => if j < k * 1 then mkD (k0 + (sumTo (fun j => cntD (cs j)) j : Nat)) (cs j) else cs j)) (.slice (some ⟨b, o, none⟩) len cap) F) := HO
    clear HO
    obtain ⟨a0, c0, H0, d0, o0, s0⟩ := HO0.out.sub (j := k) (l := l0) (z := 1) (es := cs0) (by omega) (by show (if _ then _ else _) = _; rw [if_neg (by omega)]; exact E0.out)
    have S0 : Hid (∀ w' d', OnlyF wr w' H0 → Owns w' c B d' (.slice a0 l0 c0) H0 → Owns w' c B (.l len 1 (updD (fun j => if j < k * 1 then mkD (k0 + (sumTo (fun j => cntD (cs j)) j : Nat)) (cs j) else cs j) (k) d')) (.slice (some ⟨b, o, none⟩) len cap) F ∧ OnlyF wr w' F) := s0
    have O0 : Hid (Owns wr c B (.l l0 1 cs0) (.slice a0 l0 c0) H0) := o0
    clear s0 o0
    go_wp2_with fail
    refine (IntS_mark (kk) (by omega) (by omega) _ _ _ cs0 c _ B H0 hf0 (Nat.le_trans (Nat.le_add_right _ _) hs0.out) O0).mono ?_
    rintro e w0 ⟨rfl, hO, hF⟩
    obtain ⟨p0, r0⟩ := S0.out w0 _ hF hO
    have HO1 : Hid (Owns w0 c B (.l len 1 (updD (fun j => if j < k * 1 then mkD (k0 + (sumTo (fun j => cntD (cs j)) j : Nat)) (cs j) else cs j) (k) (mkD (kk) (.l l0 1 cs0)))) (.slice (some ⟨b, o, none⟩) len cap) F) := p0
    have HB1 : Hid (OnlyF W w0 F) := HB.out.trans r0
    have hbw : b < w0.heap.size := by have q1 := r0.size; omega
    rw [HN0.out]
    clear hO hF p0 r0 S0 O0
    go_wp2
    go_roundw
    case rel =>
      have e1 : sumTo (fun j => cntD (cs j)) ((k + 1) * 1) = sumTo (fun j => cntD (cs j)) (k) + cntD (cs (k)) := by rw [show (k + 1) * 1 = k + 1 by omega]; rfl
      have n0 : cntD (cs (k)) = N0 := by rw [E0.out]; exact HN0.out
      have hkk := HKK1.out
      refine ⟨k + 1, by omega, by go_num, ?_, ?_, HB1⟩
      · rw [e1, n0]
        congr 1
        omega
      · refine HO1.out.congr ?_
        intro j hj
        rcases (show j = k ∨ j < k * 1 ∨ (k + 1) * 1 ≤ j by omega) with e0 | h | h
        · rw [e0, if_pos (show k < (k + 1) * 1 by omega), updD_same, E0.out]
          rw [show k0 + (sumTo (fun j => cntD (cs j)) (k) : Nat) = kk by omega]
        · rw [updD_other _ _ (show j ≠ k by omega), if_pos h, if_pos (show j < (k + 1) * 1 by omega)]
        · rw [updD_other _ _ (show j ≠ k by omega), if_neg (show ¬ j < k * 1 by omega), if_neg (show ¬ j < (k + 1) * 1 by omega)]
    case measure => simp [intOf]; omega
set_option maxRecDepth 100000 in
set_option maxHeartbeats 4000000 in
theorem IntSS_held (k0 : Int) (h0 : 0 ≤ k0) (a : Option Addr) (len cap : Nat) (cs : Nat → Dv) (c : Bool) (W : World) (hf : Hid (Fits shIntSS (.l len 1 cs))) (hs : Hid (szD (.l len 1 cs) ≤ 1048576)) (h1 : k0 + (cntD (.l len 1 cs) : Nat) ≤ 16777216) (h : Hid (Holds W c (mkD k0 (.l len 1 cs)) (.slice a len cap))) :
    Calls Try.prog 16 #[.slice a len cap, .int .i64 k0] W fun e W' => e = .returned (.int .i64 (k0 + (cntD (.l len 1 cs) : Nat))) ∧ W' = W := by
  have hlen : len ≤ 1048576 := Nat.le_trans (Nat.le_add_right _ _) hs.out
  have hmo : ∀ m, m ≤ len * 1 → k0 + (sumTo (fun j => cntD (cs j)) m : Nat) ≤ 16777216 := fun m hm => by have q := sumTo_mono (fun j => cntD (cs j)) _ hm; have q2 : k0 + (sumTo (fun j => cntD (cs j)) (len * 1) : Nat) ≤ 16777216 := h1; omega
  have HMO : Hid (∀ m, m ≤ len * 1 → k0 + (sumTo (fun j => cntD (cs j)) m : Nat) ≤ 16777216) := hmo
  clear hmo h1
  have H : Hid (Holds W c (.l len 1 (fun j => mkD (k0 + (sumTo (fun j => cntD (cs j)) j : Nat)) (cs j))) (.slice a len cap)) := h
  clear h
  go_enter Try.func16, Try.ntmps16
  go_wp2
  go_loop [1, 5] (fun vk vi => ∃ k : Nat, k ≤ len ∧ vi = .int .i64 k ∧ vk = .int .i64 (k0 + (sumTo (fun j => cntD (cs j)) (k * 1) : Nat))) (fun _ vi => len - (intOf vi).toNat)
  case atStart => exact ⟨0, Nat.zero_le _, rfl, by simp [sumTo]⟩
  case round =>
    obtain ⟨k, hk, rfl, rfl⟩ := hrel
    by_cases hlt : k < len
    rotate_left
    · have HK : Hid (k = len) := by show k = len; omega
      go_wp2
      go_ret
      exact ⟨by rw [HK.out]; first | rfl | (have q : cntD (.l len 1 cs) = sumTo (fun j => cntD (cs j)) len := congrArg (sumTo _) (Nat.mul_one len); rw [q]; rfl) | (have q : cntD (.l len 1 cs) = sumTo (fun j => cntD (cs j)) len := congrArg (sumTo _) (Nat.mul_one len); rw [q]), rfl⟩
    have hltI : (k : Int) < (len : Int) := by omega
    have hkn : (k + 1) * 1 ≤ len * 1 := Nat.mul_le_mul_right _ hlt
    rw [Nat.add_mul] at hkn
    obtain ⟨b, o, ha, hb, hcell⟩ := H.out.cells (Below.refl _ _) (show 0 < len * 1 by omega)
    subst ha
    have hk1 := HMO.out (k * 1) (by omega)
    have HLAST := HMO.out ((k + 1) * 1) (by omega)
    obtain ⟨kk, HKK⟩ : ∃ kk : Int, Hid (k0 + (sumTo (fun j => cntD (cs j)) (k * 1) : Nat) = kk) := ⟨_, rfl⟩
    have kk0 : 0 ≤ kk := by have := HKK.out; omega
    have kk1 : kk ≤ 16777216 := by have := HKK.out; omega
    rw [HKK.out]
    clear hk1
    have HKK1 : Hid (k0 + (sumTo (fun j => cntD (cs j)) k : Nat) = kk) := by have := HKK.out; rw [Nat.mul_one] at this; exact this
    have e1 : sumTo (fun j => cntD (cs j)) ((k + 1) * 1) = sumTo (fun j => cntD (cs j)) (k) + cntD (cs (k)) := by rw [show (k + 1) * 1 = k + 1 by omega]; rfl
    obtain ⟨l0, cs0, E0, F0⟩ := (hf.out.cell hlt (c := 0) (by decide)).list
    simp only [Nat.mul_one, Nat.add_zero] at E0
    have E0 : cs (k) = .l l0 1 cs0 := E0
    have hs0 : Hid (szD (.l l0 1 cs0) ≤ 1048576) := by have q := sz_at (len := len) (sz := 1) (cs := cs) (i := k) (by omega); rw [E0] at q; exact Nat.le_trans q hs.out
    have hf0 : Hid (Fits shI (.l l0 1 cs0)) := ⟨rfl, F0⟩
    clear F0
    obtain ⟨N0, HN0⟩ : ∃ N, Hid (cntD (.l l0 1 cs0) = N) := ⟨_, rfl⟩
    have n0 : cntD (cs (k)) = N0 := by rw [E0]; exact HN0.out
    obtain ⟨u0, d0, q0⟩ := hcell (k) (by omega)
    have v0 : k0 + (sumTo (fun j => cntD (cs j)) (k) : Nat) = kk := by have q := HKK1.out; exact q
    rw [v0, E0] at q0
    have h0 : Hid (Holds W c (mkD (kk) (.l l0 1 cs0)) u0) := q0
    obtain ⟨a0, c0, ev0, _⟩ := Holds.slice (sz := 1) h0.out
    subst ev0
    clear q0
    rw [e1, n0] at HLAST
    have LAST : kk + (N0 : Int) ≤ 16777216 := by have q := HKK1.out; omega
    have HL0 : Hid ((kk) + (cntD (.l l0 1 cs0) : Nat) ≤ 16777216) := by show _ ≤ _; rw [HN0.out]; omega
    have HE : Hid (kk + (N0 : Int) = k0 + (sumTo (fun j => cntD (cs j)) ((k + 1) * 1) : Nat)) := by show _ = _; rw [e1, n0]; have q := HKK1.out; omega
    clear HLAST hcell e1 v0 n0 E0
    have kn0 : 0 ≤ kk := by omega
    have kp0 : 0 ≤ kk + (N0 : Int) := by omega
    go_wp2_with fail
    refine (IntS_held (kk) (by omega) (by omega) _ _ _ cs0 c _ hf0 (Nat.le_trans (Nat.le_add_right _ _) hs0.out) h0).mono ?_
    rintro e w' ⟨rfl, hw⟩
    rw [hw, HN0.out]
    clear hw w'
    go_wp2
    go_round
    case rel => exact ⟨k + 1, by omega, by go_num, by rw [← HE.out]⟩
    case measure => simp [intOf]; omega
end Go.Proofs.Ytfmgbalfabpogaa.deep

namespace Go.Proofs.Ytfmgbalfabpogaa.deep
open Go.RowKit Go.Proofs.Ytfmgbalfabpogaa.ints Go.Proofs.Ytfmgbalfabpogaa.math Go.Proofs.Ytfmgbalfabpogaa.walks
set_option linter.unusedVariables false

/-- The numbers of a flat list. -/
def zsD (sz : Nat) (d : Dv) : List Int := intsOf d.at (d.len * sz)
theorem zsD_len (sz : Nat) (d : Dv) : (zsD sz d).length = d.len * sz := intsOf_len _ _
theorem flat_in {w : World} {c : Bool} {d : Dv} {v : Value} {sz : Nat} {e : Nat → Sh} (h : Holds w c d v) (hf : Fits (.l sz e) d) (he : ∀ i, e i = .n) : ∃ a cap, v = .slice a d.len cap ∧ Ints w a (zsD sz d) := by
  obtain ⟨len, es, rfl, hq⟩ := hf.list
  obtain ⟨a, cap, rfl, _⟩ := h.slice
  exact ⟨a, cap, rfl, holds_ints h (fun i hi => by have := hq i hi; rw [he] at this; exact this.int)⟩
/-- A flow as plain data. -/
def bvD (cs : Nat → Dv) (k : Nat) : Bv := ⟨zsD 5 (cs (k * 4)), (cs (k * 4)).len, (cs (k * 4 + 1)).int, (cs (k * 4 + 2)).int, (cs (k * 4 + 3)).int⟩
theorem instr_fit (i : Nat) : (match i with | 0 => Sh.n | 1 => .n | 2 => .n | 3 => .n | _ => .n) = Sh.n := by
  match i with
  | 0 => rfl
  | 1 => rfl
  | 2 => rfl
  | 3 => rfl
  | i + 4 => rfl
theorem int_is {d : Dv} (h : Fits .n d) : d = .n d.int := by obtain ⟨x, rfl⟩ := h.int; rfl
theorem Holds.flow {W : World} {c : Bool} {n : Nat} {cs : Nat → Dv} {a : Option Addr} {cap : Nat} (h : Holds W c (.l n 4 cs) (.slice a n cap)) (hf : Fits shBlockS (.l n 4 cs)) : Flow W a n (bvD cs) := by
  by_cases h0 : n = 0
  · exact Or.inl h0
  obtain ⟨b, o, ea, hl, hq⟩ := h.cells (Below.refl _ _) (by omega)
  have key : ∀ k, ∃ p : Option Addr × Nat, k < n → W.cell? ⟨b, o + k * 4, none⟩ = some (.slice p.1 (bvD cs k).len p.2) ∧ Ints W p.1 (bvD cs k).zs := fun k => by
    by_cases hk : k < n
    · obtain ⟨u, h1, h2⟩ := hq (k * 4) (by omega)
      obtain ⟨a', cap', rfl, hI⟩ := flat_in h2 (hf.cell (k := k) (c := 0) hk (by decide)) instr_fit
      exact ⟨(a', cap'), fun _ => ⟨h1, hI⟩⟩
    · exact ⟨(none, 0), fun q => absurd q hk⟩
  obtain ⟨A, hA⟩ := Classical.axiomOfChoice key
  refine Or.inr ⟨b, o, A, ea, hl, fun i hi => ?_, fun k hk => ⟨(hA k hk).2, zsD_len _ _⟩⟩
  have hk : i / 4 < n := by omega
  have num : ∀ c, c < 4 → (∃ _ : 1 ≤ c, True) → ∃ x, cs (i / 4 * 4 + c) = .n x := fun c h4 ⟨h1, _⟩ => by
    have q := hf.cell (k := i / 4) (c := c) hk h4
    match c, h1, h4, q with
    | 1, _, _, q => exact ⟨_, int_is q⟩
    | 2, _, _, q => exact ⟨_, int_is q⟩
    | 3, _, _, q => exact ⟨_, int_is q⟩
  have val : ∀ c, c < 4 → 1 ≤ c → W.cell? ⟨b, o + (i / 4 * 4 + c), none⟩ = some (.int .i64 (cs (i / 4 * 4 + c)).int) := fun c h4 h1 => by
    obtain ⟨u, g1, g2⟩ := hq (i / 4 * 4 + c) (by omega)
    obtain ⟨x, hx⟩ := num c h4 ⟨h1, trivial⟩
    rw [hx] at g2 ⊢
    rw [g1, show u = .int .i64 x from g2]; rfl
  have h4 : i % 4 < 4 := Nat.mod_lt _ (by decide)
  have e : i = i / 4 * 4 + i % 4 := by omega
  rcases (show i % 4 = 0 ∨ i % 4 = 1 ∨ i % 4 = 2 ∨ i % 4 = 3 by omega) with r | r | r | r <;> rw [e, r]
  · rw [Nat.add_zero, cellB_0, (hA _ hk).1]
  · rw [cellB_1, val 1 (by decide) (by decide)]; rfl
  · rw [cellB_2, val 2 (by decide) (by decide)]; rfl
  · rw [cellB_3, val 3 (by decide) (by decide)]; rfl
theorem flow_sizes {n : Nat} {cs : Nat → Dv} (h : szD (.l n 4 cs) ≤ 1048576) (hf : Fits shBlockS (.l n 4 cs)) : n ≤ 1048576 ∧ ∀ k, k < n → (bvD cs k).len ≤ 1048576 := by
  refine ⟨Nat.le_trans (Nat.le_add_right _ _) h, fun k hk => ?_⟩
  have h1 := sz_at (sz := 4) (cs := cs) (show k * 4 < n * 4 by omega)
  obtain ⟨len, es, e, _⟩ := (hf.cell (k := k) (c := 0) hk (by decide)).list
  rw [Nat.add_zero] at e
  rw [e] at h1
  have h2 : len ≤ szD (.l len 5 es) := Nat.le_add_right _ _
  show (cs (k * 4)).len ≤ _
  rw [e]
  show len ≤ _
  omega
/-- A list of lists of ints, one of its rows. -/
theorem Holds.row {W wr : World} {c : Bool} {n : Nat} {cs : Nat → Dv} {a : Option Addr} {cap : Nat} (h : Holds W c (.l n 1 cs) (.slice a n cap)) (hf : Fits shIntSS (.l n 1 cs)) (hB : Below W.heap.size W wr) {k : Nat} (hk : k < n) : ∃ b o a' cap', a = some ⟨b, o, none⟩ ∧ b < W.heap.size ∧ wr.cell? ⟨b, o + k, none⟩ = some (.slice a' (cs k).len cap') ∧ Ints wr a' (zsD 1 (cs k)) := by
  obtain ⟨b, o, u, ea, hl, h1, h2⟩ := h.cell hB (i := k) (by omega)
  have q := hf.cell (k := k) (c := 0) hk (by decide)
  rw [Nat.mul_one, Nat.add_zero] at q
  obtain ⟨a', cap', rfl, hI⟩ := flat_in h2 q (fun _ => rfl)
  exact ⟨b, o, a', cap', ea, hl, h1, hI⟩
theorem rows_sizes {n : Nat} {cs : Nat → Dv} (h : szD (.l n 1 cs) ≤ 1048576) (hf : Fits shIntSS (.l n 1 cs)) : n ≤ 1048576 ∧ ∀ k, k < n → (cs k).len ≤ 1048576 := by
  refine ⟨Nat.le_trans (Nat.le_add_right _ _) h, fun k hk => ?_⟩
  have h1 := sz_at (sz := 1) (cs := cs) (show k < n * 1 by omega)
  have q := hf.cell (k := k) (c := 0) hk (by decide)
  rw [Nat.mul_one, Nat.add_zero] at q
  obtain ⟨len, es, e, _⟩ := q.list
  rw [e] at h1 ⊢
  have h2 : len ≤ szD (.l len 1 es) := Nat.le_add_right _ _
  show len ≤ _
  omega
end Go.Proofs.Ytfmgbalfabpogaa.deep

namespace Go.Proofs.Ytfmgbalfabpogaa.ints
open Go.RowKit
set_option linter.unusedVariables false

/-- The value v owns n structs of sz numbers each, in a block from B on (or it is nil, and they are none). -/
def OwnF (w : World) (B : Nat) (T : TypeId) (sz : Nat) (v : Value) (n : Nat) (fl : List Int) : Prop := w.ownsRow B T sz v n (fl.map (Value.int .i64))
theorem ownF_nil (w : World) (B : Nat) (T : TypeId) (sz : Nat) : OwnF w B T sz (.slice none 0 0) 0 [] := World.ownsRow_nil _ _ _ _
theorem OwnF.mine {w : World} {B n sz : Nat} {T : TypeId} {v : Value} {fl : List Int} (h : OwnF w B T sz v n fl) : ∃ a cap, v = .slice a n cap ∧ Mine w B a fl := by
  have h0 := h
  have hlen := h.1
  rcases h.2 with ⟨rfl, hn⟩ | ⟨g, cap, cur, rfl, hg, hw, _, _, _, hcur⟩
  · refine ⟨none, 0, by rw [hn], Or.inl ?_⟩
    rw [hn] at hlen
    simpa using hlen
  · refine ⟨some ⟨g, 0, none⟩, cap, rfl, Or.inr ⟨g, 0, rfl, hg, (World.ownsRow.lt h0 g rfl).2, fun i hi => ⟨?_, ?_⟩⟩⟩
    · have := World.ownsRow.cellAt h0 i (by simp at hlen; omega)
      simp only [Nat.zero_add]
      rw [this]
      simp [List.getD, List.getElem?_eq_getElem hi]
    · have := World.ownsRow.frozenAt h0 i
      simpa using this
theorem OwnF.kept {w w' : World} {B n sz : Nat} {T : TypeId} {v : Value} {fl : List Int} (h : OwnF w B T sz v n fl) (hb : Below w.heap.size w w') : OwnF w' B T sz v n fl :=
  World.ownsRow.kept h (row := none) ⟨hb.os, hb.tape, hb.output, hb.size, fun i hi _ => hb.block i hi⟩ (by
    cases q : v.ownBlock with
    | none => exact Or.inl rfl
    | some g => exact Or.inr (by simp))
theorem OwnF.low {w : World} {B B' n sz : Nat} {T : TypeId} {v : Value} {fl : List Int} (h : OwnF w B T sz v n fl) (hB : B' ≤ B) : OwnF w B' T sz v n fl := by
  refine ⟨h.1, ?_⟩
  rcases h.2 with q | ⟨g, cap, cur, e, hg, r⟩
  · exact Or.inl q
  · exact Or.inr ⟨g, cap, cur, e, Nat.le_trans hB hg, r⟩
theorem OwnF.drew {w : World} {B n sz : Nat} {T : TypeId} {v : Value} {fl : List Int} (h : OwnF w B T sz v n fl) : OwnF w.drew B T sz v n fl := h.kept (Below.refl _ _).drew
theorem OwnF.alloc {w : World} {B n sz : Nat} {T : TypeId} {v : Value} {fl : List Int} (h : OwnF w B T sz v n fl) (o : Obj) : OwnF (w.alloc o) B T sz v n fl := World.ownsRow.alloc h o
theorem OwnF.put {w : World} {B n sz : Nat} {T : TypeId} {v : Value} {fl : List Int} (h : OwnF w B T sz v n fl) {a : Addr} (u : Value) (ha : a.block < B) : OwnF (w.setCell a u) B T sz v n fl := by
  refine ⟨h.1, ?_⟩
  rcases h.2 with q | ⟨g, cap, cur, e, hg, hw, r⟩
  · exact Or.inl q
  · exact Or.inr ⟨g, cap, cur, e, hg, (Below.heap_setCell _ _ _ _ (by omega)).trans hw, r⟩
/-- One more, behind an append. -/
theorem OwnF.snoc {W wr w1 : World} {B n sz : Nat} {T : TypeId} {v v' : Value} {fl zs : List Int} {o : Obj} (hown : OwnF wr B T sz v n fl) (hB : B ≤ wr.heap.size) (hb : Below B W wr)
    (hown' : w1.ownsRow B T sz v' (n + 1) (fl.map (Value.int .i64) ++ zs.map (Value.int .i64))) (hgrow : (wr.alloc o).grownBy w1 v.ownBlock) : OwnF w1 B T sz v' (n + 1) (fl ++ zs) ∧ Below B W w1 ∧ B ≤ w1.heap.size := by
  refine ⟨by unfold OwnF; rw [List.map_append]; exact hown', (hb.alloc hB o).grown hgrow (by simp; omega) (fun j hj => (World.ownsRow.lt hown j hj).1), ?_⟩
  have := hgrow.size
  simp at this
  omega
theorem news_cells (w : World) (zs : List Int) (t : TypeId) : ∀ (j : Nat) (u : Value), (zs.map (Value.int .i64))[j]? = some u → (w.alloc (.cells (zs.map (Value.int .i64)).toArray t)).cell? ((⟨w.heap.size, 0, none⟩ : Addr).add j) = some u := by
  intro j u hj
  have hlt : j < (zs.map (Value.int .i64)).length := (List.getElem?_eq_some_iff.1 hj).1
  have e : (⟨w.heap.size, 0, none⟩ : Addr).add j = ⟨w.heap.size, j, none⟩ := by unfold Addr.add; split <;> simp_all
  rw [e, World.cell?_alloc_at _ _ _ _ (by simp)]
  simp only [List.getElem?_toArray]
  exact hj
theorem news_one (zs : List Int) : ∀ u ∈ zs.map (Value.int .i64), u.oneCell' = true := by
  intro u hu
  obtain ⟨x, _, rfl⟩ := List.mem_map.1 hu
  rfl
theorem news_vals (w : World) (vs : List Value) (t : TypeId) : ∀ (j : Nat) (u : Value), vs[j]? = some u → (w.alloc (.cells vs.toArray t)).cell? ((⟨w.heap.size, 0, none⟩ : Addr).add j) = some u := by
  intro j u hj
  have hlt : j < vs.length := (List.getElem?_eq_some_iff.1 hj).1
  have e : (⟨w.heap.size, 0, none⟩ : Addr).add j = ⟨w.heap.size, j, none⟩ := by unfold Addr.add; split <;> simp_all
  rw [e, World.cell?_alloc_at _ _ _ _ (by simp)]
  simp only [List.getElem?_toArray]
  exact hj
theorem mineF_put {w : World} {B b i : Nat} {a : Option Addr} {zs : List Int} {v : Value} (h : Mine w B a zs) (hb : b < B) : Mine (w.setCell ⟨b, i, none⟩ v) B a zs := by
  rcases h with h | ⟨g, off, e, hB, hl, hc⟩
  · exact Or.inl h
  · exact Or.inr ⟨g, off, e, hB, by simpa [World.setCell] using hl, fun j hj => ⟨by rw [World.cell?_setCell_other _ _ _ _ (by simp; try omega)]; exact (hc j hj).1, by simpa using (hc j hj).2⟩⟩
theorem mineF_low {w : World} {B B' : Nat} {a : Option Addr} {zs : List Int} (h : Mine w B a zs) (hB : B' ≤ B) : Mine w B' a zs := by
  rcases h with h | ⟨b, off, e, h0, r⟩
  · exact Or.inl h
  · exact Or.inr ⟨b, off, e, Nat.le_trans hB h0, r⟩
end Go.Proofs.Ytfmgbalfabpogaa.ints

namespace Go.Proofs.Ytfmgbalfabpogaa.deep
open Go.RowKit Go.Proofs.Ytfmgbalfabpogaa.ints
set_option linter.unusedVariables false

/-- The value v is a list of len rows that was made by appends; what its cells own lies in F. -/
structure Grown (w : World) (B : Nat) (T : TypeId) (sz : Nat) (v : Value) (len : Nat) (cs : Nat → Dv) (U : Nat → Value) (F : Nat → Prop) : Prop where
  row : w.ownsRow B T sz v len ((List.range (len * sz)).map U)
  parts : Rowed w false B cs U (len * sz) F
  out : ∀ g, v.ownBlock = some g → ¬ F g
  low : ∀ x, F x → B ≤ x ∧ x < w.heap.size
theorem Grown.nil (w : World) (B : Nat) (T : TypeId) (sz : Nat) (cs : Nat → Dv) (U : Nat → Value) : Grown w B T sz (.slice none 0 0) 0 cs U (fun _ => False) :=
  ⟨by rw [Nat.zero_mul]; exact World.ownsRow_nil _ _ _ _, by rw [Nat.zero_mul]; exact Rowed.nil _ _ _ _ _ _, (fun g e => by cases e), (fun x q => False.elim q)⟩
theorem row_keep {w w' : World} {B : Nat} {T : TypeId} {sz n : Nat} {v : Value} {xs : List Value} (h : w.ownsRow B T sz v n xs) (hb : Below w.heap.size w w') : w'.ownsRow B T sz v n xs :=
  World.ownsRow.kept h (row := none) ⟨hb.os, hb.tape, hb.output, hb.size, fun i hi _ => hb.block i hi⟩ (by
    cases q : v.ownBlock with
    | none => exact Or.inl rfl
    | some g => exact Or.inr (by simp))
theorem Grown.kept {w w' : World} {B : Nat} {T : TypeId} {sz : Nat} {v : Value} {len : Nat} {cs : Nat → Dv} {U : Nat → Value} {F : Nat → Prop} (h : Grown w B T sz v len cs U F) (hb : Below w.heap.size w w') : Grown w' B T sz v len cs U F :=
  ⟨row_keep h.row hb, h.parts.kept hb, h.out, fun x hx => ⟨(h.low x hx).1, Nat.lt_of_lt_of_le (h.low x hx).2 hb.size⟩⟩
/-- As data of its own. -/
theorem Grown.owns {w : World} {B : Nat} {T : TypeId} {sz : Nat} {v : Value} {len : Nat} {cs : Nat → Dv} {U : Nat → Value} {F : Nat → Prop} (h : Grown w B T sz v len cs U F) : ∃ a cap, v = .slice a len cap ∧ Owns w false B (.l len sz cs) (.slice a len cap) (fun x => F x ∨ v.ownBlock = some x) ∧ ∀ x, (F x ∨ v.ownBlock = some x) → B ≤ x ∧ x < w.heap.size := by
  have hr := h.row
  have lo : ∀ x, (F x ∨ v.ownBlock = some x) → B ≤ x ∧ x < w.heap.size := fun x q => by
    rcases q with q | q
    · exact h.low x q
    · exact World.ownsRow.lt hr x q
  rcases hr.2 with ⟨rfl, hn⟩ | ⟨g, cap, cur, rfl, hg, hw, hmc, hcm, _, hcur⟩
  · subst hn
    exact ⟨none, 0, rfl, ⟨none, 0, rfl, (fun q => by cases q), Or.inl (by simp)⟩, lo⟩
  · refine ⟨some ⟨g, 0, none⟩, cap, rfl, ?_, lo⟩
    obtain ⟨G, g1, g2⟩ := h.parts
    refine ⟨some ⟨g, 0, none⟩, cap, rfl, (fun q => by cases q), Or.inr ⟨g, 0, rfl, hg, (World.ownsRow.lt hr g rfl).2, Or.inr rfl, G, fun i hi => ⟨⟨U i, ?_, ?_, (g1 i hi).1⟩, fun q => h.out g rfl ((g1 i hi).2 g q), fun x hx => Or.inl ((g1 i hi).2 x hx)⟩, g2⟩⟩
    · have := World.ownsRow.cellAt hr i hi
      rw [Nat.zero_add, this]
      simp [hi]
    · have := World.ownsRow.frozenAt hr i
      simpa using this
def moreU (U : Nat → Value) (m : Nat) (news : List Value) : Nat → Value := fun i => if i < m then U i else news.getD (i - m) (.bool false)
theorem moreU_list (U : Nat → Value) (m : Nat) (news : List Value) : (List.range (m + news.length)).map (moreU U m news) = (List.range m).map U ++ news := by
  apply List.ext_getElem
  · simp
  · intro i h1 h2
    simp only [List.getElem_map, List.getElem_range, moreU]
    by_cases q : i < m
    · rw [if_pos q, List.getElem_append_left (by simpa using q)]; simp
    · rw [if_neg q, List.getElem_append_right (by simp; omega)]
      simp only [List.length_map, List.length_range]
      simp at h1
      simp [List.getD, show i - m < news.length by omega]
/-- One more row behind an append. -/
theorem Grown.snoc {w w' : World} {B : Nat} {T : TypeId} {sz : Nat} {v v' : Value} {len : Nat} {cs : Nat → Dv} {U : Nat → Value} {F H : Nat → Prop} {news : List Value} (h : Grown w B T sz v len cs U F) (hl : news.length = sz)
    (hr : w'.ownsRow B T sz v' (len + 1) ((List.range (len * sz)).map U ++ news)) (hg : w.grownBy w' v.ownBlock) (hv : v'.ownBlock = v.ownBlock ∨ v'.ownBlock = some w.heap.size)
    (hn : Rowed w false B (fun i => cs (len * sz + i)) (fun i => news.getD i (.bool false)) sz H) (hd : ∀ x, F x → ¬ H x) (ho : ∀ g, v.ownBlock = some g → ¬ H g) (hlo : ∀ x, H x → B ≤ x ∧ x < w.heap.size) :
    Grown w' B T sz v' (len + 1) cs (moreU U (len * sz) news) (fun x => F x ∨ H x) := by
  have blk : ∀ x, (F x ∨ H x) → x < w.heap.size → w'.heap[x]? = w.heap[x]? := fun x hx hl => hg.block x hl (by
    intro e
    rcases hx with q | q
    · exact h.out x e.symm q
    · exact ho x e.symm q)
  refine ⟨?_, ?_, ?_, ?_⟩
  · rw [Nat.add_mul, Nat.one_mul, show len * sz + sz = len * sz + news.length by rw [hl], moreU_list]; exact hr
  · obtain ⟨G, g1, g2⟩ := h.parts
    obtain ⟨K, k1, k2⟩ := hn
    rw [Nat.add_mul, Nat.one_mul]
    refine ⟨fun i => if i < len * sz then G i else K (i - len * sz), fun i hi => ?_, fun i j hi hj hne x hx hy => ?_⟩
    · by_cases q : i < len * sz
      · simp only [if_pos q, moreU]
        exact ⟨(g1 i q).1.agree hg.size (fun b hb hl => blk b (Or.inl ((g1 i q).2 b hb)) hl), fun x hx => Or.inl ((g1 i q).2 x hx)⟩
      · simp only [if_neg q, moreU]
        have hi' : i - len * sz < sz := by omega
        have e : len * sz + (i - len * sz) = i := by omega
        have o := (k1 _ hi').1
        simp only [e] at o
        exact ⟨o.agree hg.size (fun b hb hl => blk b (Or.inr ((k1 _ hi').2 b hb)) hl), fun x hx => Or.inr ((k1 _ hi').2 x hx)⟩
    · by_cases q : i < len * sz
      · by_cases r : j < len * sz
        · simp only [if_pos q] at hx
          simp only [if_pos r] at hy
          exact g2 i j q r hne x hx hy
        · simp only [if_pos q] at hx
          simp only [if_neg r] at hy
          exact hd x ((g1 i q).2 x hx) ((k1 _ (by omega)).2 x hy)
      · by_cases r : j < len * sz
        · simp only [if_neg q] at hx
          simp only [if_pos r] at hy
          exact hd x ((g1 j r).2 x hy) ((k1 _ (by omega)).2 x hx)
        · simp only [if_neg q] at hx
          simp only [if_neg r] at hy
          exact k2 _ _ (by omega) (by omega) (by omega) x hx hy
  · intro g e q
    rcases hv with hv | hv
    · rw [hv] at e
      rcases q with q | q
      · exact h.out g e q
      · exact ho g e q
    · rw [hv] at e
      have e := Option.some.inj e
      rcases q with q | q
      · have := (h.low g q).2; omega
      · have := (hlo g q).2; omega
  · intro x q
    have hs := hg.size
    rcases q with q | q
    · have := h.low x q; exact ⟨this.1, by omega⟩
    · have := hlo x q; exact ⟨this.1, by omega⟩
/-- .. and only the row's own block has turned. -/
theorem Grown.below {w w' : World} {B : Nat} {T : TypeId} {sz : Nat} {v : Value} {len : Nat} {cs : Nat → Dv} {U : Nat → Value} {F : Nat → Prop} (h : Grown w B T sz v len cs U F) (hg : w.grownBy w' v.ownBlock) (hB : B ≤ w.heap.size) : Below B w w' :=
  ⟨hg.os, hg.tape, hg.output, hg.size, fun k hk => hg.block k (by omega) (fun e => by have := (World.ownsRow.lt h.row k e.symm).1; omega)⟩
end Go.Proofs.Ytfmgbalfabpogaa.deep

namespace Go.Proofs.Ytfmgbalfabpogaa.deep
open Go.RowKit Go.Proofs.Ytfmgbalfabpogaa.ints Go.Proofs.Ytfmgbalfabpogaa.math Go.Proofs.Ytfmgbalfabpogaa.walks
set_option linter.unusedVariables false

/-- The cells of blocks in a row, as deep data. -/
def dB (f : Nat → Bv) (i : Nat) : Dv := match i % 4 with
  | 0 => dI (f (i / 4)).len 5 (f (i / 4)).zs
  | 1 => .n (f (i / 4)).t
  | 2 => .n (f (i / 4)).th
  | _ => .n (f (i / 4)).el
theorem dB_0 (f : Nat → Bv) (k : Nat) : dB f (k * 4 + 0) = dI (f k).len 5 (f k).zs := by
  unfold dB; rw [show (k * 4 + 0) % 4 = 0 by omega, show (k * 4 + 0) / 4 = k by omega]; rfl
theorem dB_1 (f : Nat → Bv) (k : Nat) : dB f (k * 4 + 1) = .n (f k).t := by
  unfold dB; rw [show (k * 4 + 1) % 4 = 1 by omega, show (k * 4 + 1) / 4 = k by omega]; rfl
theorem dB_2 (f : Nat → Bv) (k : Nat) : dB f (k * 4 + 2) = .n (f k).th := by
  unfold dB; rw [show (k * 4 + 2) % 4 = 2 by omega, show (k * 4 + 2) / 4 = k by omega]; rfl
theorem dB_3 (f : Nat → Bv) (k : Nat) : dB f (k * 4 + 3) = .n (f k).el := by
  unfold dB; rw [show (k * 4 + 3) % 4 = 3 by omega, show (k * 4 + 3) / 4 = k by omega]; rfl
theorem dB_fits (f : Nat → Bv) (n : Nat) : Fits shBlockS (.l n 4 (dB f)) := by
  refine ⟨rfl, fun i hi => ?_⟩
  have e : i = i / 4 * 4 + i % 4 := by omega
  rcases (show i % 4 = 0 ∨ i % 4 = 1 ∨ i % 4 = 2 ∨ i % 4 = 3 by omega) with r | r | r | r
  · rw [r] at e ⊢
    rw [e, dB_0]
    exact ⟨rfl, fun j _ => by rcases (show j % 5 = 0 ∨ j % 5 = 1 ∨ j % 5 = 2 ∨ j % 5 = 3 ∨ j % 5 = 4 by omega) with q | q | q | q | q <;> rw [q] <;> trivial⟩
  · rw [r] at e ⊢; rw [e, dB_1]; trivial
  · rw [r] at e ⊢; rw [e, dB_2]; trivial
  · rw [r] at e ⊢; rw [e, dB_3]; trivial
theorem dI_size (len sz : Nat) (zs : List Int) : szD (dI len sz zs) = len := by
  show len + sumTo _ _ = _
  rw [sz_flat _ (fun i _ => ⟨_, rfl⟩)]; omega
theorem dB_size (f : Nat → Bv) (n : Nat) (hn : n ≤ 8) (hl : ∀ k, k < n → (f k).len ≤ 1000) : szD (.l n 4 (dB f)) ≤ 100000 := by
  show n + sumTo _ _ ≤ _
  have h : sumTo (fun i => szD (dB f i)) (n * 4) ≤ sumTo (fun _ => 1000) (n * 4) := sumTo_le _ (fun i hi => by
    have e : i = i / 4 * 4 + i % 4 := by omega
    have hk : i / 4 < n := by omega
    have := hl _ hk
    rcases (show i % 4 = 0 ∨ i % 4 = 1 ∨ i % 4 = 2 ∨ i % 4 = 3 by omega) with r | r | r | r <;> rw [r] at e <;> rw [e]
    · rw [dB_0, dI_size]; exact this
    · rw [dB_1]; exact Nat.zero_le _
    · rw [dB_2]; exact Nat.zero_le _
    · rw [dB_3]; exact Nat.zero_le _)
  rw [sumTo_const] at h
  omega
theorem block_row : (Try.prog.info? 44).map (fun i => (i.zero, i.size, i.bytes)) = some (some (.agg #[.slice none 0 0, .int .i64 0, .int .i64 0, .int .i64 0]), 4, 48) := by kernel_rfl
/-- The value v owns the first n blocks of f, each with code of its own. -/
def OwnBl (w : World) (B : Nat) (v : Value) (n : Nat) (f : Nat → Bv) : Prop := ∃ U F, Grown w B 44 4 v n (dB f) U F
theorem OwnBl.nil (w : World) (B : Nat) (f : Nat → Bv) : OwnBl w B (.slice none 0 0) 0 f := ⟨fun _ => .bool false, _, Grown.nil w B _ 4 _ _⟩
theorem OwnBl.kept {w w' : World} {B n : Nat} {v : Value} {f : Nat → Bv} (h : OwnBl w B v n f) (hb : Below w.heap.size w w') : OwnBl w' B v n f := let ⟨U, F, g⟩ := h; ⟨U, F, g.kept hb⟩
theorem OwnBl.row {w : World} {B n : Nat} {v : Value} {f : Nat → Bv} (h : OwnBl w B v n f) : ∃ xs, w.ownsRow B 44 4 v n xs := let ⟨U, F, g⟩ := h; ⟨_, g.row⟩
theorem OwnBl.owns {w : World} {B n : Nat} {v : Value} {f : Nat → Bv} (h : OwnBl w B v n f) : ∃ a cap F, v = .slice a n cap ∧ Owns w false B (.l n 4 (dB f)) (.slice a n cap) F ∧ ∀ x, F x → B ≤ x ∧ x < w.heap.size := by
  obtain ⟨U, F, g⟩ := h
  obtain ⟨a, cap, e, ho, hl⟩ := g.owns
  exact ⟨a, cap, _, e, ho, hl⟩
/-- What is known of the list when a block is to be put behind it: its row, and what comes of it. -/
theorem OwnBl.snoc {w0 w1 : World} {B n : Nat} {v : Value} {f : Nat → Bv} (h : OwnBl w0 B v n f) (hb : Below w0.heap.size w0 w1) (hB : B ≤ w0.heap.size) {ca : Option Addr} {cc : Nat} (hc : Mine w1 w0.heap.size ca (f n).zs) (hz : (f n).zs.length = (f n).len * 5) :
    ∃ xs, w1.ownsRow B 44 4 v n xs ∧ ∀ (o : Obj) (w2 : World) (v' : Value), w2.ownsRow B 44 4 v' (n + 1) (xs ++ [.slice ca (f n).len cc, .int .i64 (f n).t, .int .i64 (f n).th, .int .i64 (f n).el]) → (w1.alloc o).grownBy w2 v.ownBlock → (v'.ownBlock = v.ownBlock ∨ v'.ownBlock = some (w1.alloc o).heap.size) → OwnBl w2 B v' (n + 1) f ∧ ∀ W, Below B W w1 → Below B W w2 := by
  obtain ⟨U, F, g0⟩ := h
  have g1 := g0.kept hb
  refine ⟨_, g1.row, fun o w2 v' hown hgrow hob => ?_⟩
  have hbo : Below w1.heap.size w1 (w1.alloc o) := (Below.refl _ _).alloc (Nat.le_refl _) o
  have g2 := g1.kept hbo
  have hs := hb.size
  have hsa : w1.heap.size ≤ (w1.alloc o).heap.size := hbo.size
  have hF : ∀ x, F x → x < w0.heap.size := fun x hx => (g0.low x hx).2
  have hV : ∀ y, v.ownBlock = some y → y < w0.heap.size := fun y hy => (World.ownsRow.lt g0.row y hy).2
  refine ⟨⟨moreU U (n * 4) [.slice ca (f n).len cc, .int .i64 (f n).t, .int .i64 (f n).th, .int .i64 (f n).el], _, g2.snoc (H := fun x => w0.heap.size ≤ x ∧ x < w1.heap.size) rfl hown hgrow hob ?_ (fun x hx hy => by have := hF x hx; omega) (fun y hy q => by have := hV y hy; omega) (fun x hx => ⟨by omega, by omega⟩)⟩, fun W hW => ?_⟩
  · have o0 : Owns (w1.alloc o) false B (dI (f n).len 5 (f n).zs) (.slice ca (f n).len cc) (fun x => w0.heap.size ≤ x ∧ x < w1.heap.size) := by
      have q := mine_owns (c := false) (cap := cc) hc hz (F := fun x => w0.heap.size ≤ x ∧ x < w1.heap.size) (fun b o e h1 h2 => ⟨h1, h2⟩) (fun q => by cases q)
      exact (q.kept hbo).low hB
    refine Rowed.flat (m := 3) (Rowed.flat (m := 2) (Rowed.flat (m := 1) (Rowed.snoc (m := 0) (F := fun _ => False) (H := fun x => w0.heap.size ≤ x ∧ x < w1.heap.size) (Rowed.nil _ _ _ _ _ _) ?_ (fun x q => q.elim) (fun x q => q.elim) (fun x q => q)) ?_) ?_) ?_
    · show Owns _ _ _ (dB f (n * 4 + 0)) _ _
      rw [dB_0]; exact o0
    · show Owns _ _ _ (dB f (n * 4 + 1)) _ _
      rw [dB_1]; rfl
    · show Owns _ _ _ (dB f (n * 4 + 2)) _ _
      rw [dB_2]; rfl
    · show Owns _ _ _ (dB f (n * 4 + 3)) _ _
      rw [dB_3]; rfl
  · exact (hW.alloc (by omega) o).grown hgrow (by simp; omega) (fun j hj => (World.ownsRow.lt g0.row j hj).1)
end Go.Proofs.Ytfmgbalfabpogaa.deep

namespace Go.Proofs.Ytfmgbalfabpogaa.math
set_option linter.unusedVariables false

/-- The dead ones among the last m steps. -/
def deadK (zs : List Int) (len : Nat) (f : Nat → Bool) : Nat → Nat → Bool
  | 0 => fun _ => false
  | m + 1 => fun i => deadK zs len f m i || (i == len - 1 - m && deadB (zs.getD ((len - 1 - m) * 5) 0) (zs.getD ((len - 1 - m) * 5 + 1) 0) (backK false zs len f m))
theorem deadK_next {zs : List Int} {len q : Nat} {f : Nat → Bool} (h : q < len) : deadK zs len f (len - q) = fun i => deadK zs len f (len - (q + 1)) i || (i == q && deadB (zs.getD (q * 5) 0) (zs.getD (q * 5 + 1) 0) (backK false zs len f (len - (q + 1)))) := by
  have e : len - q = (len - (q + 1)) + 1 := by omega
  rw [e]
  funext i
  show (_ || (i == len - 1 - (len - (q + 1)) && deadB (zs.getD ((len - 1 - (len - (q + 1))) * 5) 0) (zs.getD ((len - 1 - (len - (q + 1))) * 5 + 1) 0) _)) = _
  rw [show len - 1 - (len - (q + 1)) = q by omega]
theorem deadK_low {zs : List Int} {len : Nat} {f : Nat → Bool} : ∀ m, m ≤ len → ∀ i, i < len - m → deadK zs len f m i = false
  | 0, _, i, _ => rfl
  | m + 1, hm, i, hi => by
    show (_ || (i == len - 1 - m && _)) = false
    rw [deadK_low m (by omega) i (by omega), show (i == len - 1 - m) = false by simp; omega]
    rfl
theorem deadK_hi {zs : List Int} {len : Nat} {f : Nat → Bool} : ∀ m, m ≤ len → ∀ i, len ≤ i → deadK zs len f m i = false
  | 0, _, i, _ => rfl
  | m + 1, hm, i, hi => by
    show (_ || (i == len - 1 - m && _)) = false
    rw [deadK_hi m (by omega) i hi, show (i == len - 1 - m) = false by simp; omega]
    rfl
theorem putL_front {l : List Int} {n : Int} (h : ∀ x ∈ l, n < x) : putL l n = n :: l := by
  have hk : putK l n = 0 := by
    unfold putK
    cases l with
    | nil => rfl
    | cons x l =>
      have := h x (by simp)
      simp [List.takeWhile, show ¬ x < n by omega]
  unfold putL
  rw [hk]
  cases l with
  | nil => simp
  | cons x l =>
    have := h x (by simp)
    simp
    intro e
    omega
theorem put_front {x : Nat → Bool} {q : Nat} (h : ∀ i, i < q + 1 → x i = false) (hq : q < 64) : putL (risingTo x 64) (q : Int) = risingTo (fun i => x i || i == q) 64 := by
  have hx : ∀ y ∈ risingTo x 64, (q : Int) < y := fun y hy => by
    obtain ⟨i, _, hi, rfl⟩ := (mem_rising x y 64).1 hy
    by_cases e : i < q + 1
    · rw [h i e] at hi; cases hi
    · omega
  rw [putL_front hx]
  refine sorted_same (List.pairwise_cons.2 ⟨hx, rising_sorted x 64⟩) (rising_sorted _ 64) (fun y => ?_)
  rw [List.mem_cons, mem_rising, mem_rising]
  constructor
  · rintro (rfl | ⟨i, hi, hx, rfl⟩)
    · exact ⟨q, hq, by simp, rfl⟩
    · exact ⟨i, hi, by simp [hx], rfl⟩
  · rintro ⟨i, hi, hx, rfl⟩
    simp only [Bool.or_eq_true, beq_iff_eq] at hx
    rcases hx with hx | rfl
    · exact Or.inr ⟨i, hi, hx, rfl⟩
    · exact Or.inl rfl
/-- The step that is looked at, dead. -/
theorem dead_yes {zs : List Int} {len q : Nat} {f : Nat → Bool} (h : q < len) (hl : len ≤ 64) (hd : deadB (zs.getD (q * 5) 0) (zs.getD (q * 5 + 1) 0) (backK false zs len f (len - (q + 1))) = true) : putL (risingTo (deadK zs len f (len - (q + 1))) 64) (q : Int) = risingTo (deadK zs len f (len - q)) 64 := by
  rw [put_front (fun i hi => deadK_low _ (by omega) i (by omega)) (by omega), deadK_next h]
  exact congrArg (fun g => risingTo g 64) (funext fun i => by rw [hd]; simp)
theorem dead_no {zs : List Int} {len q : Nat} {f : Nat → Bool} (h : q < len) (hd : deadB (zs.getD (q * 5) 0) (zs.getD (q * 5 + 1) 0) (backK false zs len f (len - (q + 1))) = false) : deadK zs len f (len - (q + 1)) = deadK zs len f (len - q) := by
  rw [deadK_next h]
  funext i
  rw [hd]; simp
theorem rising_none : ∀ k, risingTo (fun _ => false) k = []
  | 0 => rfl
  | k + 1 => by
    show risingTo (fun _ => false) k ++ (if false then _ else []) = []
    rw [rising_none k]; rfl
end Go.Proofs.Ytfmgbalfabpogaa.math

namespace Go.Proofs.Ytfmgbalfabpogaa.math
set_option linter.unusedVariables false

/-- The steps among the first that are not dead, told flat, and their number. -/
def keepZ (zs : List Int) (d : Nat → Bool) : Nat → List Int
  | 0 => []
  | m + 1 => if d m = true then keepZ zs d m else keepZ zs d m ++ [zs.getD (m * 5) 0, zs.getD (m * 5 + 1) 0, zs.getD (m * 5 + 2) 0, zs.getD (m * 5 + 3) 0, zs.getD (m * 5 + 4) 0]
def keepN (d : Nat → Bool) : Nat → Nat
  | 0 => 0
  | m + 1 => if d m = true then keepN d m else keepN d m + 1
theorem keep_len (zs : List Int) (d : Nat → Bool) : ∀ m, (keepZ zs d m).length = keepN d m * 5
  | 0 => rfl
  | m + 1 => by
    have := keep_len zs d m
    simp only [keepZ, keepN]
    split
    · exact this
    · simp only [List.length_append, List.length_cons, List.length_nil, this]; omega
theorem keepN_le (d : Nat → Bool) : ∀ m, keepN d m ≤ m
  | 0 => Nat.le_refl _
  | m + 1 => by have := keepN_le d m; simp only [keepN]; split <;> omega
theorem keep_yes {zs : List Int} {d : Nat → Bool} {m : Nat} (h : d m = true) : keepZ zs d (m + 1) = keepZ zs d m ∧ keepN d (m + 1) = keepN d m := ⟨by simp only [keepZ, if_pos h], by simp only [keepN, if_pos h]⟩
theorem keep_no {zs : List Int} {d : Nat → Bool} {m : Nat} (h : d m = false) : keepZ zs d (m + 1) = keepZ zs d m ++ [zs.getD (m * 5) 0, zs.getD (m * 5 + 1) 0, zs.getD (m * 5 + 2) 0, zs.getD (m * 5 + 3) 0, zs.getD (m * 5 + 4) 0] ∧ keepN d (m + 1) = keepN d m + 1 := by
  have h' : ¬ d m = true := by rw [h]; simp
  exact ⟨by simp only [keepZ, if_neg h'], by simp only [keepN, if_neg h']⟩
/-- Which steps of a block are dead, where s is needed ahead of each block. -/
def deadF7 (f : Nat → Bv) (s : Ls) (k : Nat) : Nat → Bool := deadK (f k).zs (f k).len (behindL (f k) s) (f k).len
/-- A flow without its dead steps. -/
def dropB (f : Nat → Bv) (s : Ls) (k : Nat) : Bv := ⟨keepZ (f k).zs (deadF7 f s k) (f k).len, keepN (deadF7 f s k) (f k).len, (f k).t, (f k).th, (f k).el⟩
theorem drop_len (f : Nat → Bv) (s : Ls) (k : Nat) : (dropB f s k).zs.length = (dropB f s k).len * 5 := keep_len _ _ _
theorem has_dead (d : Nat → Bool) {i : Nat} (h : i < 64) : (risingTo d 64).contains (i : Int) = d i := by
  cases q : d i
  · rw [Bool.eq_false_iff]
    intro c
    rw [List.contains_iff_mem, mem_rising] at c
    obtain ⟨j, _, h2, h3⟩ := c
    obtain rfl : i = j := by omega
    rw [q] at h2; cases h2
  · rw [List.contains_iff_mem, mem_rising]
    exact ⟨i, h, q, rfl⟩
end Go.Proofs.Ytfmgbalfabpogaa.math

namespace Go.Proofs.Ytfmgbalfabpogaa.walks
open Go.RowKit Go.Shelf Go.Proofs.Ytfmgbalfabpogaa.math Go.Proofs.Ytfmgbalfabpogaa.ints
set_option linter.unusedVariables false
attribute [local go_sem] Oper.semAt_some

set_option maxRecDepth 100000 in
set_option maxHeartbeats 2000000 in
theorem backwardT1_in (F : Fence) (n : Nat) (hf : F.fn 64) (hro : F.round = none) (hn : 1 ≤ n) (l Bs n₀ mb db : Nat) (a : Option Addr) (len cap : Nat) (zs : List Int) (hlen : len ≤ 1048576) (hBs : Bs < n₀) (hBm : Bs ≠ mb) (hBd : Bs ≠ db) (J Jx : List (Fin len) → World → Prop)
    (hY : ∀ pre x W, J pre W → pre.length < len → YieldAt F (n - 1) Try.prog l #[.int .i64 (x.val : Int), stepAt zs x.val] W fun e W' =>
      (e = .returned (.bool true) ∧ J (pre ++ [x]) W' ∧ KeepTwo n₀ mb db W W') ∨ (e = .returned (.bool false) ∧ Jx (pre ++ [x]) W'))
    (W : World) (hc : W.cell? ⟨Bs, 0, none⟩ = some (.slice a len cap)) (hS : Hid (Steps W a zs len)) (hab : Hid (∀ b o, a = some ⟨b, o, none⟩ → 0 < len → b < n₀ ∧ b ≠ mb ∧ b ≠ db)) (h0 : J [] W) :
    CallsIn F n Try.prog 64 #[.func (.yield l) #[] #[], .pointer (some ⟨Bs, 0, none⟩)] W fun e W' => (∃ v, e = .returned v) ∧
      ((∃ ys, ys = downTo len len ∧ J ys W') ∨ (∃ pre, True ∧ Jx pre W')) := by
  refine callsIn_of_wp Try.func64 rfl hf ?_ hro
  simp only [Try.ntmps64, List.size_toArray, List.length_cons, List.length_nil, Nat.reduceAdd, Nat.reduceSub, Array.replicate_succ, Array.replicate_zero, List.push_toArray, List.append_toArray, List.nil_append, List.cons_append]
  gi_wp2
  gi_loopw [3] (fun vi wr => ∃ m : Nat, m ≤ len ∧ vi = .int .i64 ((m : Int) - 1) ∧ Hid (J (downTo len (len - m)) wr) ∧ Hid (KeepTwo n₀ mb db W wr)) (fun vi _ => ((Go.RowKit.intOf vi) + 1).toNat)
  case atStart => exact ⟨len, Nat.le_refl _, rfl, by show J _ _; rw [Nat.sub_self]; exact h0, KeepTwo.refl _ _ _ _⟩
  case round =>
    obtain ⟨m, hm, rfl, HJ, HK⟩ := hrel
    rcases m with _ | q
    · gi_wp2
      go_end0
      exact ⟨⟨_, rfl⟩, .inl ⟨_, rfl, HJ.out⟩⟩
    · have hq : ((q + 1 : Nat) : Int) - 1 = (q : Int) := by omega
      rw [hq]
      have hql : q < len := by omega
      have hqI : (q : Int) < (len : Int) := by omega
      obtain ⟨sb, rfl, hsb, hsc⟩ : ∃ b, a = some ⟨b, 0, none⟩ ∧ b < W.heap.size ∧ ∀ i, i < len → W.cell? ⟨b, i, none⟩ = some (stepAt zs i) := by
        rcases hS.out with e | e
        · omega
        · exact e
      obtain ⟨hb1, hb2, hb3⟩ := hab.out sb 0 rfl (by omega)
      have k0 : wr.cell? ⟨Bs, 0, none⟩ = some (.slice (some ⟨sb, 0, none⟩) len cap) := (HK.out.cell (p := ⟨Bs, 0, none⟩) hBs hBm hBd).trans hc
      have k1 : wr.cell? ⟨sb, q, none⟩ = some (stepAt zs q) := (HK.out.cell (p := ⟨sb, q, none⟩) hb1 hb2 hb3).trans (hsc q hql)
      have HN : Hid (downTo len (len - q) = downTo len (len - (q + 1)) ++ [⟨q, hql⟩]) := downTo_next hql
      obtain ⟨fn, tmps, assign, body, hy, hR⟩ := hY _ ⟨q, hql⟩ wr HJ.out (Nat.lt_of_le_of_lt (downTo_len _ _) (by omega))
      dsimp only at hy
      rw [← HN.out] at hR
      clear hq hsc hc hm
      generalize stepAt zs q = sv at hy k1
      gi_wp2
      refine hR.mono ?_
      rintro e W3 (⟨rfl, hJ3, hk3⟩ | ⟨rfl, hJx3⟩)
      · have HJ3 : Hid (J (downTo len (len - q)) W3) := hJ3
        have HK3 : Hid (KeepTwo n₀ mb db W W3) := keepTwo_t HK.out hk3
        clear hJ3 hk3
        gi_wp2
        go_roundw
        case rel => exact ⟨q, by omega, by simp, HJ3, HK3⟩
        case measure => simp [Go.RowKit.intOf]
      · gi_wp2
        refine bodyPost_ret (results_none rfl _ _ _) rfl ?_
        exact ⟨⟨_, rfl⟩, .inr ⟨_, trivial, hJx3⟩⟩
theorem backwardT_stops (F : Fence) (n : Nat) (hf : F.fn 64) (hro : F.round = none) (hn : 1 ≤ n) (Bs n₀ mb db : Nat) (a : Option Addr) (len cap : Nat) (zs : List Int) (hlen : len ≤ 1048576) (w : World) (hn₀ : n₀ ≤ w.heap.size) (hBs : Bs < n₀) (hBm : Bs ≠ mb) (hBd : Bs ≠ db)
    (hc : w.cell? ⟨Bs, 0, none⟩ = some (.slice a len cap)) (hS : Steps w a zs len) (hab : ∀ b o, a = some ⟨b, o, none⟩ → 0 < len → b < n₀ ∧ b ≠ mb ∧ b ≠ db) :
    SeqStopsK F n Try.prog 64 #[.pointer (some ⟨Bs, 0, none⟩)] (fun x : Fin len => #[Value.int .i64 (x.val : Int), stepAt zs x.val]) (KeepTwo n₀ mb db) (fun ys => ys = downTo len len) (fun _ => True) len w := fun l J Jx W hW _ _ hY h0 =>
  backwardT1_in F n hf hro hn l Bs n₀ mb db a len cap zs hlen hBs hBm hBd J Jx hY W ((hW.cell (p := ⟨Bs, 0, none⟩) (Nat.lt_of_lt_of_le hBs hn₀)).trans hc) (hS.kept hW) hab h0
end Go.Proofs.Ytfmgbalfabpogaa.walks

namespace Go.Proofs.Ytfmgbalfabpogaa.walks
open Go.RowKit Go.Shelf Go.Proofs.Ytfmgbalfabpogaa.math Go.Proofs.Ytfmgbalfabpogaa.ints
set_option linter.unusedVariables false
set_option maxRecDepth 100000
attribute [local go_sem] Oper.semAt_some

theorem keepTwo_b2 {n₀ na nc : Nat} {w : World} (hn : n₀ ≤ w.heap.size) (W : World) (l : Nat) (o o' : Obj) (hl : w.heap.size ≤ l) (h : W.heap[l]? = some o) (_ : o.isCells = false) (_ : o.isWalk = false) : KeepTwo n₀ na nc W (W.putObj l o') :=
  ⟨(grownBy_putObj' W l o').size, fun k hk _ _ => (grownBy_putObj' W l o').block k (by have := (Array.getElem?_eq_some_iff.1 h).1; omega) (fun e => by cases e; omega)⟩
/-- What is needed and what is dead, behind one step more. -/
def deadF (zs : List Int) {len : Nat} (st : (Nat → Bool) × (Nat → Bool)) (i : Fin len) : (Nat → Bool) × (Nat → Bool) := (stepBack false zs i.val st.1, fun j => st.2 j || (j == i.val && deadB (zs.getD (i.val * 5) 0) (zs.getD (i.val * 5 + 1) 0) st.1))
def stP (zs : List Int) {len : Nat} (f : Nat → Bool) (pre : List (Fin len)) : (Nat → Bool) × (Nat → Bool) := pre.foldl (deadF zs) (f, fun _ => false)
theorem stP_snoc (zs : List Int) {len : Nat} (f : Nat → Bool) (pre : List (Fin len)) (x : Fin len) : stP zs f (pre ++ [x]) = deadF zs (stP zs f pre) x := by simp [stP]
theorem stP_all (zs : List Int) (len : Nat) (f : Nat → Bool) : ∀ m, m ≤ len → stP zs f (downTo len m) = (backK false zs len f m, deadK zs len f m)
  | 0, _ => rfl
  | m + 1, hm => by
    have e := downTo_next (len := len) (q := len - (m + 1)) (by omega)
    rw [show len - (len - (m + 1)) = m + 1 by omega, show len - (len - (m + 1) + 1) = m by omega] at e
    rw [e, stP_snoc, stP_all zs len f m (by omega)]
    have e1 : len - (m + 1) = len - 1 - m := by omega
    unfold deadF
    show (stepBack false zs (len - (m + 1)) _, fun j => deadK zs len f m j || (j == len - (m + 1) && deadB (zs.getD ((len - (m + 1)) * 5) 0) (zs.getD ((len - (m + 1)) * 5 + 1) 0) (backK false zs len f m))) = _
    rw [e1]
    rfl
/-- Nothing has turned but two blocks. -/
structure Two (mb db : Nat) (A B : World) : Prop where
  os : B.os = A.os
  tape : B.tape = A.tape
  output : B.output = A.output
  size : A.heap.size ≤ B.heap.size
  block : ∀ k, k < A.heap.size → k ≠ mb → k ≠ db → B.heap[k]? = A.heap[k]?
theorem Two.trans {mb db : Nat} {A B C : World} (h : Two mb db A B) (k : Two mb db B C) : Two mb db A C := ⟨k.os.trans h.os, k.tape.trans h.tape, k.output.trans h.output, Nat.le_trans h.size k.size, fun i hi h1 h2 => (k.block i (Nat.lt_of_lt_of_le hi h.size) h1 h2).trans (h.block i hi h1 h2)⟩
theorem Two.grown {mb db : Nat} {A B : World} {row : Option Nat} (h : A.grownBy B row) (hr : ∀ r, row = some r → r = mb ∨ r = db) : Two mb db A B := ⟨h.os, h.tape, h.output, h.size, fun k hk h1 h2 => h.block k hk (fun e => by rcases hr k e.symm with q | q <;> omega)⟩
theorem Two.from {mb db n₀ : Nat} {A B : World} (h : Two mb db A B) (h1 : mb < n₀) (h2 : db < n₀) : KeepsFrom n₀ A B := ⟨h.size, fun k o hk ho _ => (h.block k (Array.getElem?_eq_some_iff.1 ho).1 (by omega) (by omega)).trans ho⟩
theorem Two.keep {mb db n₀ : Nat} {A B : World} (h : Two mb db A B) (hn : n₀ ≤ A.heap.size) : KeepTwo n₀ mb db A B := ⟨h.size, fun k hk h1 h2 => h.block k (by omega) h1 h2⟩
theorem Two.cell {mb db : Nat} {A B : World} {p : Addr} {v : Value} (h : Two mb db A B) (hc : A.cell? p = some v) (hp : p.block < A.heap.size) (h1 : p.block ≠ mb) (h2 : p.block ≠ db) : B.cell? p = some v := (World.cell?_of_block (h.block _ hp h1 h2)).trans hc
theorem Two.below {mb db n₀ : Nat} {W A B : World} (h : Two mb db A B) (hb : Below n₀ W A) (hn : n₀ ≤ A.heap.size) (h1 : n₀ ≤ mb) (h2 : n₀ ≤ db) : Below n₀ W B := ⟨h.os.trans hb.os, h.tape.trans hb.tape, h.output.trans hb.output, Nat.le_trans hb.size h.size, fun k hk => (h.block k (by omega) (by omega) (by omega)).trans (hb.block k hk)⟩
set_option maxHeartbeats 8000000 in
theorem impl_deadin (nb bb n cap k : Nat) (A S : Nat → Option Addr × Nat) (f : Nat → Bv) (M : Nat → Option Nat) (s : Ls) (W : World) (hf : Hid (flowB f n = true)) (hk : k < n) (hb : Hid (BlocksAt W bb n A S f)) (h : Hid (NeedsAt W nb bb n cap M s)) :
    Calls Try.prog 25 #[.pointer (some ⟨nb, 0, none⟩), .int .i64 (k : Int)] W fun e W' => BehindAns (deadK (f k).zs (f k).len (behindL (f k) s) (f k).len) W e W' := by
  have hmm := @run_makeMap Try.prog
  have hn8 : n ≤ 8 := (flow_out hf.out).1.2
  have hkI : (k : Int) < (n : Int) := by omega
  have hst : ∀ j, j < (f k).len → stepB (f k).zs j = true := by
    have hblk := (flow_out hf.out).2 k hk
    simp only [blockB, Bool.and_eq_true] at hblk
    exact (code_out hblk.1.1.1).2
  have hll : (f k).len ≤ 30 := by
    have hblk := (flow_out hf.out).2 k hk
    simp only [blockB, Bool.and_eq_true] at hblk
    exact (code_out hblk.1.1.1).1
  have HST : Hid (∀ j, j < (f k).len → stepB (f k).zs j = true) := hst
  have HBW1 : Hid (Below W.heap.size W (W.alloc (.map #[] 0))) := (Below.refl _ _).alloc (Nat.le_refl _) _
  have CB := impl_behind nb bb n cap k A S f M s (W.alloc (.map #[] 0)) hf hk (hb.out.kept HBW1.out) (h.out.kept HBW1.out)
  obtain ⟨bz, hbz⟩ : ∃ bz, Hid (behindL (f k) s = bz) := ⟨_, rfl⟩
  rw [hbz.out] at CB ⊢
  have c4 : W.cell? ⟨bb, k * 5 + 4, none⟩ = some (.slice (S k).1 (f k).len (S k).2) := by rw [hb.out.cell _ (by omega), cell5_4]
  have d0 := h.out.blk
  have hnl := h.out.lt
  have hbl := hb.out.lt
  have HStp : Hid (Steps W (S k).1 (f k).zs (f k).len) := hb.out.step k hk
  have HSM : Hid (SetIs (W.alloc (.map #[] 0)) W.heap.size (fun _ => false)) := set_made W
  generalize (f k).zs = zs at HST HStp ⊢
  generalize (f k).len = len at c4 HST HStp hll ⊢
  generalize (S k).1 = sa at c4 HStp
  generalize (S k).2 = sc at c4
  clear hst
  refine (callsIn_wide (n := 6)).1 ?_
  have f2 : Fence.wide.fn 47 := trivial
  have f4 : Fence.wide.fn 46 := trivial
  refine callsIn_of_wp_marks Try.func25 rfl trivial ?_ rfl
  simp only [Try.ntmps25, List.size_toArray, List.length_cons, List.length_nil, Nat.reduceAdd, Nat.reduceSub, Array.replicate_succ, Array.replicate_zero, List.push_toArray, List.append_toArray, List.nil_append, List.cons_append]
  gi_wp2_with fail
  refine (callsIn_wide.2 CB).mono ?_
  rintro e w3 ⟨mb, rfl, hmb, hS3, hB3⟩
  have hmbl := hS3.lt
  have HB3 : Hid (Below W.heap.size W w3) := HBW1.out.trans (hB3.mono HBW1.out.size)
  have HS3 : Hid (SetIs w3 mb bz) := hS3
  have HSM3 : Hid (SetIs w3 W.heap.size (fun _ => false)) := HSM.out.kept hB3
  have h3s := hB3.size
  have hmb' : W.heap.size + 1 ≤ mb := by simpa using hmb
  have h3s' : W.heap.size + 1 ≤ w3.heap.size := by simpa using h3s
  have d3 := (HB3.out.cell (p := ⟨nb, 0, none⟩) hnl).trans d0
  have c43 := (HB3.out.cell (p := ⟨bb, k * 5 + 4, none⟩) hbl).trans c4
  have HX2 : Hid (Below w3.heap.size w3 ((w3.alloc (.cells #[.map (some W.heap.size)] 56)).alloc (.cells #[.map (some mb)] 56))) := ((Below.refl _ w3).alloc (Nat.le_refl _) _).alloc (by simp) _
  have d4 := (HX2.out.cell (p := ⟨nb, 0, none⟩) (by show nb < _; omega)).trans d3
  have c44 := (HX2.out.cell (p := ⟨bb, k * 5 + 4, none⟩) (by show bb < _; omega)).trans c43
  clear CB hB3 hS3 d0 c4 hmm h3s hmb
  gi_wp2_with (gi_at_call 47; refine (backward_in Fence.wide _ trivial rfl _ _ _ _).mono ?_; rintro e w' ⟨rfl, rfl⟩)
  have bD := ((Boxed.new w3 56 (.map (some W.heap.size))).alloc (.cells #[.map (some mb)] 56)).alloc (.cells #[.slice sa len sc] 85)
  have bM := (Boxed.new (w3.alloc (.cells #[.map (some W.heap.size)] 56)) 56 (.map (some mb))).alloc (.cells #[.slice sa len sc] 85)
  have bI := Boxed.new ((w3.alloc (.cells #[.map (some W.heap.size)] 56)).alloc (.cells #[.map (some mb)] 56)) 85 (.slice sa len sc)
  simp only [World.size_alloc] at bM bI
  have HX3 : Below w3.heap.size w3 (((w3.alloc (.cells #[.map (some W.heap.size)] 56)).alloc (.cells #[.map (some mb)] 56)).alloc (.cells #[.slice sa len sc] 85)) := HX2.out.alloc (by simp; omega) _
  obtain ⟨X, hX⟩ : ∃ X, Hid ((((w3.alloc (.cells #[.map (some W.heap.size)] 56)).alloc (.cells #[.map (some mb)] 56)).alloc (.cells #[.slice sa len sc] 85)) = X) := ⟨_, rfl⟩
  have hXs : X.heap.size = w3.heap.size + 1 + 1 + 1 := by rw [← hX.out]; simp
  rw [hX.out] at bD bM bI HX3 ⊢
  have HBX : Hid (Below W.heap.size W X) := HB3.out.trans (HX3.mono (by omega))
  have hdb : W.heap.size < w3.heap.size := by omega
  have hab : ∀ b o, sa = some ⟨b, o, none⟩ → 0 < len → b < X.heap.size ∧ b ≠ mb ∧ b ≠ W.heap.size := by
    intro b o e h0
    rcases HStp.out with q | ⟨b', e', hl, _⟩
    · omega
    · rw [e] at e'
      simp only [Option.some.injEq, Addr.mk.injEq] at e'
      obtain ⟨rfl, rfl, _⟩ := e'
      exact ⟨by omega, by omega, by omega⟩
  clear d3 d4 c43 c44 HX2
  refine wpIn_rangeFunc_ownG rfl (by omega) (gf := 64) (lb := #[.pointer (some ⟨w3.heap.size + 1 + 1, 0, none⟩)]) rfl trivial (enters_of Try.func64 (by kernel_rfl) rfl)
    (backwardT_stops Fence.wide 5 trivial rfl (by omega) (w3.heap.size + 1 + 1) X.heap.size mb W.heap.size sa len sc zs (by omega) X (Nat.le_refl _) (by omega) (by omega) (by omega) bI.cell (HStp.out.kept HBX.out) hab) keepTwo_t (keepTwo_b2 (Nat.le_refl _)) (Below.refl _ _) (fun _ => rfl)
    (fun pre W1 => (((SetIs W1 mb (stP zs bz pre).1 ∧ SetIs W1 W.heap.size (stP zs bz pre).2) ∧ W1.cell? ⟨w3.heap.size, 0, none⟩ = some (.map (some W.heap.size)) ∧ W1.cell? ⟨w3.heap.size + 1, 0, none⟩ = some (.map (some mb))) ∧ X.heap.size ≤ W1.heap.size) ∧ Below W.heap.size W W1)
    (fun _ _ _ => False)
    (OwnFrom.and (fun s A B row hs hg hr => ⟨⟨⟨hs.1.1.1.far hg (fun e => by have := (hr _ e.symm).1; omega), hs.1.1.2.far hg (fun e => by have := (hr _ e.symm).1; omega)⟩, cell_kept hs.1.2.1 hg (fun r e => (hr r e).2), cell_kept hs.1.2.2 hg (fun r e => (hr r e).2)⟩, Nat.le_trans hs.2 hg.size⟩) (ownFrom_below (Nat.le_refl _) (by omega)))
    (fun _ _ _ _ _ hs _ _ => hs)
    ⟨⟨⟨⟨HS3.out.kept HX3, HSM3.out.kept HX3⟩, bD.cell, bM.cell⟩, Nat.le_refl _⟩, HBX.out⟩
    (fun x => { tmps := #[.pointer (some ⟨nb, 0, none⟩), .int .i64 (k : Int), undef, undef, .map none, .pointer (some ⟨w3.heap.size, 0, none⟩), .pointer (some ⟨w3.heap.size + 1, 0, none⟩), .int .i64 (x.val : Int), stepAt zs x.val, .map (some W.heap.size), .pointer (some ⟨nb, 0, none⟩), .int .i64 (k : Int), .map (some mb), .pointer (some ⟨nb, 0, none⟩), .pointer (some ⟨nb, 0, none⟩), .pointer (some ⟨nb, 0, none⟩), .slice (some ⟨bb, 0, none⟩) n cap, .int .i64 (k : Int), .pointer (some ⟨bb, k * 5, none⟩), .pointer (some ⟨bb, k * 5 + 4, none⟩), .slice sa len sc, .func (.func 64) #[] #[.pointer (some ⟨w3.heap.size + 1 + 1, 0, none⟩)], .int .i64 (x.val : Int), stepAt zs x.val, undef, undef, undef, undef, undef, undef, undef, undef, undef, undef, undef], defers := [] }) ?assign ?body ?done ?stop
  case assign =>
    intro l x W1 K hK
    generalize stepAt zs x.val = sv at hK ⊢
    gi_wp2
    exact hK
  case body =>
    rintro l pre x W1 ⟨⟨⟨⟨hs, hd⟩, cD, cM⟩, hsz⟩, hB⟩ _
    have hstx : stepB zs x.val = true := HST.out x.val x.isLt
    have hx30 : x.val < 30 := by have := x.isLt; omega
    obtain ⟨g1, hg1⟩ : ∃ g1, Hid ((stP zs bz pre).1 = g1) := ⟨_, rfl⟩
    obtain ⟨g2, hg2⟩ : ∃ g2, Hid ((stP zs bz pre).2 = g2) := ⟨_, rfl⟩
    rw [hg1.out] at hs
    rw [hg2.out] at hd
    have CD := impl_dead _ _ _ _ _ mb g1 W1 hstx hs
    have C2 := fun w hw => impl_strong _ _ _ _ _ mb g1 w hstx hw
    change Calls _ _ #[stepAt zs x.val, .map (some mb)] _ _ at CD
    change ∀ w, _ → Calls _ _ #[.map (some mb), stepAt zs x.val] _ _ at C2
    have HP1 : Hid (∀ w', SetIs w' mb (stepBack false zs x.val g1) → SetIs w' mb (stP zs bz (pre ++ [x])).1) := fun w' q => by rw [stP_snoc]; show SetIs _ _ (stepBack false zs x.val (stP zs bz pre).1); rw [hg1.out]; exact q
    have HP2 : Hid (∀ w', SetIs w' W.heap.size (fun j => g2 j || (j == x.val && deadB (zs.getD (x.val * 5) 0) (zs.getD (x.val * 5 + 1) 0) g1)) → SetIs w' W.heap.size (stP zs bz (pre ++ [x])).2) := fun w' q => by rw [stP_snoc]; unfold deadF; rw [hg1.out, hg2.out]; exact q
    obtain ⟨c, hc⟩ : ∃ c, Hid (deadB (zs.getD (x.val * 5) 0) (zs.getD (x.val * 5 + 1) 0) g1 = c) := ⟨_, rfl⟩
    rw [hc.out] at CD HP2
    have HS1 : Hid (SetIs W1 mb g1) := hs
    have HD1 : Hid (SetIs W1 W.heap.size g2) := hd
    have HB1 : Hid (Below W.heap.size W W1) := hB
    have f5 : Fence.wide.fn 43 := trivial
    have f6 : Fence.wide.fn 23 := trivial
    have f7 : Fence.wide.fn 48 := trivial
    generalize stepAt zs x.val = sv at CD C2 ⊢
    clear hs hd hB hc
    gi_wp2_with fail
    refine (CallsIn.inRound l (callsIn_wide.2 CD)).mono ?_
    rintro e w5 ⟨rfl, hB5⟩
    have T5 : Two mb W.heap.size W1 w5 := Two.grown (row := none) (below_grown hB5 none) (fun r e => by cases e)
    have h5s := hB5.size
    have HS5 : Hid (SetIs w5 mb g1) := HS1.out.kept hB5
    have HD5 : Hid (SetIs w5 W.heap.size g2) := HD1.out.kept hB5
    have cD5 := T5.cell cD (by show w3.heap.size < _; omega) (by show w3.heap.size ≠ _; omega) (by show w3.heap.size ≠ _; omega)
    have cM5 := T5.cell cM (by show w3.heap.size + 1 < _; omega) (by show w3.heap.size + 1 ≠ _; omega) (by show w3.heap.size + 1 ≠ _; omega)
    have HT5 : Hid (Two mb W.heap.size W1 w5) := T5
    clear CD hB5 T5 cD cM
    cases c
    · gi_wp2_with fail
      refine (CallsIn.inRound l (callsIn_wide.2 (C2 _ HS5))).mono ?_
      rintro e w7 ⟨rfl, hS7, hG7⟩
      have T7 : Two mb W.heap.size W1 w7 := HT5.out.trans (Two.grown hG7 (fun r e => by cases e; exact Or.inl rfl))
      have T57 : Two mb W.heap.size w5 w7 := Two.grown hG7 (fun r e => by cases e; exact Or.inl rfl)
      have cD7 := T57.cell cD5 (by show w3.heap.size < _; omega) (by show w3.heap.size ≠ _; omega) (by show w3.heap.size ≠ _; omega)
      have cM7 := T57.cell cM5 (by show w3.heap.size + 1 < _; omega) (by show w3.heap.size + 1 ≠ _; omega) (by show w3.heap.size + 1 ≠ _; omega)
      have HD7 : SetIs w7 W.heap.size g2 := HD5.out.far hG7 (by simp; omega)
      gi_wp2
      exact ⟨T7.from (by omega) (by omega), T7.keep (by omega), ⟨⟨⟨HP1.out _ hS7, HP2.out _ (HD7.same (fun i _ => by simp))⟩, cD7, cM7⟩, Nat.le_trans hsz T7.size⟩, T7.below HB1.out (by omega) (by omega) (Nat.le_refl _)⟩
    · have HBA : Hid (Below w5.heap.size w5 (w5.alloc (.cells #[.int .i64 (x.val : Int)] 3))) := (Below.refl _ _).alloc (Nat.le_refl _) _
      have HI5 : Hid (Ints (w5.alloc (.cells #[.int .i64 (x.val : Int)] 3)) (some ⟨w5.heap.size, 0, none⟩) [(x.val : Int)]) := Or.inr ⟨w5.heap.size, 0, rfl, by simp, fun i hi => by
        have : i = 0 := by simpa using hi
        subst this
        simp⟩
      have HU5 : Hid (∀ j, j < 1 → 0 ≤ [(x.val : Int)].getD j 0 ∧ [(x.val : Int)].getD j 0 < 64) := fun j hj => by
        have : j = 0 := by omega
        subst this
        exact ⟨Int.natCast_nonneg _, by show (x.val : Int) < 64; omega⟩
      have CA := impl_add W.heap.size g2 (some ⟨w5.heap.size, 0, none⟩) 1 1 [(x.val : Int)] (w5.alloc (.cells #[.int .i64 (x.val : Int)] 3)) rfl (by omega) HI5 HU5 (HD5.out.kept HBA.out)
      gi_wp2_with fail
      refine (CallsIn.inRound l (callsIn_wide.2 CA)).mono ?_
      rintro e w6 ⟨rfl, hS6, hG6⟩
      clear CA
      have T56 : Two mb W.heap.size w5 w6 := (Two.grown (row := none) (below_grown HBA.out none) (fun r e => by cases e)).trans (Two.grown hG6 (fun r e => by cases e; exact Or.inr rfl))
      have HS6 : Hid (SetIs w6 mb g1) := (HS5.out.kept HBA.out).far hG6 (by simp; omega)
      have cD6 := T56.cell cD5 (by show w3.heap.size < _; omega) (by show w3.heap.size ≠ _; omega) (by show w3.heap.size ≠ _; omega)
      have cM6 := T56.cell cM5 (by show w3.heap.size + 1 < _; omega) (by show w3.heap.size + 1 ≠ _; omega) (by show w3.heap.size + 1 ≠ _; omega)
      have HD6 : Hid (SetIs w6 W.heap.size (addS g2 [(x.val : Int)])) := hS6
      have HT6 : Hid (Two mb W.heap.size W1 w6) := HT5.out.trans T56
      have h6s := T56.size
      clear hS6 hG6 cD5 cM5 T56
      gi_wp2_with fail
      refine (CallsIn.inRound l (callsIn_wide.2 (C2 _ HS6))).mono ?_
      rintro e w7 ⟨rfl, hS7, hG7⟩
      have T67 : Two mb W.heap.size w6 w7 := Two.grown hG7 (fun r e => by cases e; exact Or.inl rfl)
      have T7 : Two mb W.heap.size W1 w7 := HT6.out.trans T67
      have cD7 := T67.cell cD6 (by show w3.heap.size < _; omega) (by show w3.heap.size ≠ _; omega) (by show w3.heap.size ≠ _; omega)
      have cM7 := T67.cell cM6 (by show w3.heap.size + 1 < _; omega) (by show w3.heap.size + 1 ≠ _; omega) (by show w3.heap.size + 1 ≠ _; omega)
      have HD7 : SetIs w7 W.heap.size (addS g2 [(x.val : Int)]) := HD6.out.far hG7 (by simp; omega)
      gi_wp2
      exact ⟨T7.from (by omega) (by omega), T7.keep (by omega), ⟨⟨⟨HP1.out _ hS7, HP2.out _ (HD7.same (fun i _ => by
        unfold addS
        rw [Bool.and_true]
        congr 1
        by_cases q : i = x.val
        · subst q; simp
        · have q2 : ¬ (i : Int) = (x.val : Int) := by omega
          simp [q, q2]))⟩, cD7, cM7⟩, Nat.le_trans hsz T7.size⟩, T7.below HB1.out (by omega) (by omega) (Nat.le_refl _)⟩
  case done =>
    rintro D ys W1 hD rfl ⟨⟨⟨⟨hs, hd⟩, cD, cM⟩, hsz⟩, hB⟩ hK
    rw [stP_all zs len bz len (Nat.le_refl _)] at hd
    have HD1 : Hid (SetIs W1 W.heap.size (deadK zs len bz len)) := hd
    have HB1 : Hid (Below W.heap.size W W1) := hB
    clear hs hd hB
    gi_wp2
    refine ⟨by simp, .inl ⟨_, _, rfl, run_takeDeferred hK, ?_⟩⟩
    have hG := grownBy_putObj' W1 D (.deferred none)
    refine ⟨_, results_one rfl _ _ _, W.heap.size, rfl, Nat.le_refl _, HD1.out.far hG (by simp; omega), HB1.out.grown hG (by omega) (fun r e => by cases e; omega)⟩
  case stop =>
    rintro D c pre W _ _ h _
    exact h.elim

end Go.Proofs.Ytfmgbalfabpogaa.walks

namespace Go.Proofs.Ytfmgbalfabpogaa.walks
open Go.RowKit Go.Proofs.Ytfmgbalfabpogaa.math Go.Proofs.Ytfmgbalfabpogaa.ints
set_option linter.unusedVariables false
set_option maxRecDepth 100000

/-- What needsOf answers. -/
def NeedsAns (p : Bool) (f : Nat → Bv) (n : Nat) (W : World) (e : Ending) (W' : World) : Prop :=
  ((flowB f n = true ∧ ∃ nb bb cap M s, e = .returned (.tuple #[.pointer (some ⟨nb, 0, none⟩), .bool true]) ∧ NeedsAt W' nb bb n cap M s ∧ FixL p f n s ∧ ∃ A S, BlocksAt W' bb n A S f) ∨ (flowB f n = false ∧ e = .returned (.tuple #[.pointer none, .bool false]))) ∧ Below W.heap.size W W'
theorem needs_made (W : World) (bb n cap : Nat) : NeedsAt (W.alloc (.cells #[.slice (some ⟨bb, 0, none⟩) n cap, .map none, .map none, .map none, .map none, .map none, .map none, .map none, .map none] 77)) W.heap.size bb n cap (fun _ => none) (fun _ _ => false) := by
  refine ⟨by simp, by simp, fun k hk => ?_, fun k _ => Or.inl ⟨rfl, fun _ _ => rfl⟩⟩
  rcases k with _ | _ | _ | _ | _ | _ | _ | _ | k
  all_goals first | omega | exact ⟨by simp, by simp⟩
theorem grow_below {W w w' : World} {mb : Nat} (h : Below W.heap.size W w) (k : w.grownBy w' (some mb)) (hm : W.heap.size ≤ mb) : Below W.heap.size W w' :=
  ⟨k.os.trans h.os, k.tape.trans h.tape, k.output.trans h.output, Nat.le_trans h.size k.size, fun i hi => (k.block i (Nat.lt_of_lt_of_le hi h.size) (by simp; omega)).trans (h.block i hi)⟩

set_option maxHeartbeats 4000000 in
theorem impl_needs_s (a : Option Addr) (n cap : Nat) (f : Nat → Bv) (W : World) (hn : n ≤ 1048576) (hlen : Hid (∀ k, k < n → (f k).len ≤ 1048576)) (h : Hid (Flow W a n f)) :
    Calls Try.prog 22 #[.slice a n cap, .func (.func 23) #[] #[]] W fun e W' => NeedsAns false f n W e W' := by
  go_enter Try.func22, Try.ntmps22
  go_wp2_with fail
  refine (impl_blocks2 a n cap f W hn hlen h).mono ?_
  rintro e w1 ⟨(⟨hf, bb, bc, A, S, rfl, hbl, hbc, hst⟩ | ⟨hf, rfl⟩), hB1⟩
  · have HF : Hid (flowB f n = true) := hf
    have HB1 : Hid (BlocksAt w1 bb n A S f) := ⟨hbl, hbc, hst⟩
    have HBe : Hid (Below W.heap.size W w1) := hB1
    have hsz := hB1.size
    clear hf hbc hst hB1
    go_wp2
    have HBA : Hid (Below w1.heap.size w1 (w1.alloc (.cells #[.slice (some ⟨bb, 0, none⟩) n bc, .map none, .map none, .map none, .map none, .map none, .map none, .map none, .map none] 77))) := (Below.refl _ _).alloc (Nat.le_refl _) _
    have HN0 : Hid (NeedsAt (w1.alloc (.cells #[.slice (some ⟨bb, 0, none⟩) n bc, .map none, .map none, .map none, .map none, .map none, .map none, .map none, .map none] 77)) w1.heap.size bb n bc (fun _ => none) (fun _ _ => false)) := needs_made w1 bb n bc
    obtain ⟨X, hX⟩ : ∃ X, Hid ((w1.alloc (.cells #[.slice (some ⟨bb, 0, none⟩) n bc, .map none, .map none, .map none, .map none, .map none, .map none, .map none, .map none] 77)) = X) := ⟨_, rfl⟩
    rw [hX.out] at HBA HN0 ⊢
    have HBk0 : Hid (BlocksAt X bb n A S f) := HB1.out.kept HBA.out
    have HBX : Hid (Below W.heap.size W X) := HBe.out.trans (HBA.out.mono hsz)
    obtain ⟨nb, hnb⟩ : ∃ nb, Hid (w1.heap.size = nb) := ⟨_, rfl⟩
    rw [hnb.out] at HN0 ⊢
    have hnbW : W.heap.size ≤ nb := by rw [← hnb.out]; exact hsz
    have hn1 : 1 ≤ n := (flow_out HF.out).1.1
    clear hbl
    go_loopg [] 65 (fun gk wr => ∃ (M : Nat → Option Nat) (s : Ls), sumL s n + gk = 65 ∧ Hid (NeedsAt wr nb bb n bc M s) ∧ Hid (UpL false f n s) ∧ Hid (BlocksAt wr bb n A S f) ∧ Hid (Below W.heap.size W wr))
    case atStart => exact ⟨_, _, (by have : sumL (fun _ _ => false) n = 0 := sum_none n; omega), HN0, up_none _ _ _, HBk0, HBX⟩
    case round =>
      obtain ⟨M0, s0, hsum, HN, HU, HBk, HB⟩ := hrel
      go_wp2_with fail
      refine (impl_round_s nb bb n bc A S f M0 s0 _ HF HBk HN HU).mono ?_
      rintro e w2 ⟨c, M, s, rfl, hN, hR, hG⟩
      have HBk2 : Hid (BlocksAt w2 bb n A S f) := (HBk.out.far HN.out (by omega) hG).1
      have HB2 : Hid (Below W.heap.size W w2) := grow_below HB.out hG hnbW
      have HN2 : Hid (NeedsAt w2 nb bb n bc M s) := hN
      have HR2 : Hid (RndL false f n s0 s (fun _ => True) c) := hR
      clear hN hR hG
      cases c
      · have HA : Hid (NeedsAns false f n W (.returned (.tuple #[.pointer (some ⟨nb, 0, none⟩), .bool true])) w2) := ⟨Or.inl ⟨HF.out, nb, bb, bc, M, s, rfl, HN2.out, rnd_fix HF.out HR2.out (fun _ _ => trivial), A, S, HBk2.out⟩, HB2.out⟩
        go_wp2
        go_ret2
        exact HA.out
      · have hmore := HR2.out.yes rfl
        have hcap := sum_64 HF.out s
        have HU2 : Hid (UpL false f n s) := HR2.out.up
        go_wp2
        go_roundg (65 - sumL s n)
        case rel => exact ⟨M, s, by omega, HN2, HU2, HBk2, HB2⟩
        case measure => omega
  · have HA : Hid (NeedsAns false f n W (.returned (.tuple #[.pointer none, .bool false])) w1) := ⟨Or.inr ⟨hf, rfl⟩, hB1⟩
    clear hf hB1
    go_wp2
    go_ret2
    exact HA.out

set_option maxHeartbeats 4000000 in
theorem impl_needs_p (a : Option Addr) (n cap : Nat) (f : Nat → Bv) (W : World) (hn : n ≤ 1048576) (hlen : Hid (∀ k, k < n → (f k).len ≤ 1048576)) (h : Hid (Flow W a n f)) :
    Calls Try.prog 22 #[.slice a n cap, .func (.func 44) #[] #[]] W fun e W' => NeedsAns true f n W e W' := by
  go_enter Try.func22, Try.ntmps22
  go_wp2_with fail
  refine (impl_blocks2 a n cap f W hn hlen h).mono ?_
  rintro e w1 ⟨(⟨hf, bb, bc, A, S, rfl, hbl, hbc, hst⟩ | ⟨hf, rfl⟩), hB1⟩
  · have HF : Hid (flowB f n = true) := hf
    have HB1 : Hid (BlocksAt w1 bb n A S f) := ⟨hbl, hbc, hst⟩
    have HBe : Hid (Below W.heap.size W w1) := hB1
    have hsz := hB1.size
    clear hf hbc hst hB1
    go_wp2
    have HBA : Hid (Below w1.heap.size w1 (w1.alloc (.cells #[.slice (some ⟨bb, 0, none⟩) n bc, .map none, .map none, .map none, .map none, .map none, .map none, .map none, .map none] 77))) := (Below.refl _ _).alloc (Nat.le_refl _) _
    have HN0 : Hid (NeedsAt (w1.alloc (.cells #[.slice (some ⟨bb, 0, none⟩) n bc, .map none, .map none, .map none, .map none, .map none, .map none, .map none, .map none] 77)) w1.heap.size bb n bc (fun _ => none) (fun _ _ => false)) := needs_made w1 bb n bc
    obtain ⟨X, hX⟩ : ∃ X, Hid ((w1.alloc (.cells #[.slice (some ⟨bb, 0, none⟩) n bc, .map none, .map none, .map none, .map none, .map none, .map none, .map none, .map none] 77)) = X) := ⟨_, rfl⟩
    rw [hX.out] at HBA HN0 ⊢
    have HBk0 : Hid (BlocksAt X bb n A S f) := HB1.out.kept HBA.out
    have HBX : Hid (Below W.heap.size W X) := HBe.out.trans (HBA.out.mono hsz)
    obtain ⟨nb, hnb⟩ : ∃ nb, Hid (w1.heap.size = nb) := ⟨_, rfl⟩
    rw [hnb.out] at HN0 ⊢
    have hnbW : W.heap.size ≤ nb := by rw [← hnb.out]; exact hsz
    have hn1 : 1 ≤ n := (flow_out HF.out).1.1
    clear hbl
    go_loopg [] 65 (fun gk wr => ∃ (M : Nat → Option Nat) (s : Ls), sumL s n + gk = 65 ∧ Hid (NeedsAt wr nb bb n bc M s) ∧ Hid (UpL true f n s) ∧ Hid (BlocksAt wr bb n A S f) ∧ Hid (Below W.heap.size W wr))
    case atStart => exact ⟨_, _, (by have : sumL (fun _ _ => false) n = 0 := sum_none n; omega), HN0, up_none _ _ _, HBk0, HBX⟩
    case round =>
      obtain ⟨M0, s0, hsum, HN, HU, HBk, HB⟩ := hrel
      go_wp2_with fail
      refine (impl_round_p nb bb n bc A S f M0 s0 _ HF HBk HN HU).mono ?_
      rintro e w2 ⟨c, M, s, rfl, hN, hR, hG⟩
      have HBk2 : Hid (BlocksAt w2 bb n A S f) := (HBk.out.far HN.out (by omega) hG).1
      have HB2 : Hid (Below W.heap.size W w2) := grow_below HB.out hG hnbW
      have HN2 : Hid (NeedsAt w2 nb bb n bc M s) := hN
      have HR2 : Hid (RndL true f n s0 s (fun _ => True) c) := hR
      clear hN hR hG
      cases c
      · have HA : Hid (NeedsAns true f n W (.returned (.tuple #[.pointer (some ⟨nb, 0, none⟩), .bool true])) w2) := ⟨Or.inl ⟨HF.out, nb, bb, bc, M, s, rfl, HN2.out, rnd_fix HF.out HR2.out (fun _ _ => trivial), A, S, HBk2.out⟩, HB2.out⟩
        go_wp2
        go_ret2
        exact HA.out
      · have hmore := HR2.out.yes rfl
        have hcap := sum_64 HF.out s
        have HU2 : Hid (UpL true f n s) := HR2.out.up
        go_wp2
        go_roundg (65 - sumL s n)
        case rel => exact ⟨M, s, by omega, HN2, HU2, HBk2, HB2⟩
        case measure => omega
  · have HA : Hid (NeedsAns true f n W (.returned (.tuple #[.pointer none, .bool false])) w1) := ⟨Or.inr ⟨hf, rfl⟩, hB1⟩
    clear hf hB1
    go_wp2
    go_ret2
    exact HA.out
end Go.Proofs.Ytfmgbalfabpogaa.walks

namespace Go.Proofs.Ytfmgbalfabpogaa.walks
open Go.RowKit Go.Proofs.Ytfmgbalfabpogaa.math Go.Proofs.Ytfmgbalfabpogaa.ints Go.Proofs.Ytfmgbalfabpogaa.deep
set_option linter.unusedVariables false
set_option maxRecDepth 100000

set_option maxHeartbeats 8000000 in
theorem impl_without (a : Option Addr) (len cap db : Nat) (zs : List Int) (d : Nat → Bool) (W : World) (hz : Hid (zs.length = len * 5)) (hlen : len ≤ 30) (h : Hid (Ints W a zs)) (hd : Hid (SetIs W db d)) :
    Calls Try.prog 24 #[.slice a len cap, .map (some db)] W fun e W' => ∃ v, e = .returned v ∧ OwnF W' W.heap.size 46 5 v (keepN d len) (keepZ zs d len) ∧ Below W.heap.size W W' := by
  obtain ⟨i5, hi5, hz5, hz6, hz7⟩ := parts_of Instr_info
  have hlI : (len : Int) ≤ 30 := by omega
  go_enter Try.func24, Try.ntmps24
  go_wp2
  go_loopw [5, 10] (fun vo vi wr => ∃ (k : Nat) (v : Value), k ≤ len ∧ vi = .int .i64 k ∧ v = vo ∧ Hid (OwnF wr W.heap.size 46 5 v (keepN d k) (keepZ zs d k)) ∧ Hid (Below W.heap.size W wr)) (fun _ vi _ => len - (intOf vi).toNat)
  case atStart => exact ⟨0, _, Nat.zero_le _, rfl, rfl, ownF_nil _ _ _ _, Below.refl _ _⟩
  case round =>
    obtain ⟨k, v, hk, rfl, rfl, HV, HB⟩ := hrel
    by_cases hlt : k < len
    rotate_left
    · have HE : Hid (k = len) := by show k = len; omega
      rw [HE.out] at HV
      go_wp2
      go_ret
      exact ⟨_, rfl, HV.out, HB.out⟩
    have hltI : (k : Int) < (len : Int) := by omega
    have hsz := HB.out.size
    obtain ⟨b, off, ha, hb, c0, c1, c2, c3, c4⟩ := Instr_at h.out hz.out HB.out hlt
    subst ha
    obtain ⟨x0, e0⟩ : ∃ x, Hid (zs.getD (k * 5) 0 = x) := ⟨_, rfl⟩
    obtain ⟨x1, e1⟩ : ∃ x, Hid (zs.getD (k * 5 + 1) 0 = x) := ⟨_, rfl⟩
    obtain ⟨x2, e2⟩ : ∃ x, Hid (zs.getD (k * 5 + 2) 0 = x) := ⟨_, rfl⟩
    obtain ⟨x3, e3⟩ : ∃ x, Hid (zs.getD (k * 5 + 3) 0 = x) := ⟨_, rfl⟩
    obtain ⟨x4, e4⟩ : ∃ x, Hid (zs.getD (k * 5 + 4) 0 = x) := ⟨_, rfl⟩
    rw [e0.out] at c0
    rw [e1.out] at c1
    rw [e2.out] at c2
    rw [e3.out] at c3
    rw [e4.out] at c4
    have HS : Hid (SetIs wr db d) := hd.out.kept HB.out
    have BA : Hid (Below wr.heap.size wr (wr.alloc (.cells #[.int .i64 x0, .int .i64 x1, .int .i64 x2, .int .i64 x3, .int .i64 x4] 46))) := (Below.refl _ _).alloc (Nat.le_refl _) _
    cases hdk : d k
    · have hS := keep_no (zs := zs) hdk
      rw [e0.out, e1.out, e2.out, e3.out, e4.out] at hS
      have HKS : Hid (keepZ zs d (k + 1) = keepZ zs d k ++ [x0, x1, x2, x3, x4] ∧ keepN d (k + 1) = keepN d k + 1) := hS
      have hle := keepN_le d k
      clear hS e0 e1 e2 e3 e4
      go_wp2_with (first
        | (go_at_call 45; refine (impl_has db k d _ (by omega) (HS.out.kept BA.out)).mono ?_; rw [hdk]; rintro e w2 ⟨rfl, x, hw2⟩; have BX : Hid (Below wr.heap.size wr w2) := (by show Below _ _ _; rw [hw2]; exact BA.out.alloc BA.out.size _); have d0 : w2.cell? ⟨wr.heap.size, 0, none⟩ = some (.int .i64 x0) := (by rw [hw2]; go_simp); have d1 : w2.cell? ⟨wr.heap.size, 1, none⟩ = some (.int .i64 x1) := (by rw [hw2]; go_simp); have d2 : w2.cell? ⟨wr.heap.size, 2, none⟩ = some (.int .i64 x2) := (by rw [hw2]; go_simp); have d3 : w2.cell? ⟨wr.heap.size, 3, none⟩ = some (.int .i64 x3) := (by rw [hw2]; go_simp); have d4 : w2.cell? ⟨wr.heap.size, 4, none⟩ = some (.int .i64 x4) := (by rw [hw2]; go_simp); clear hw2; have HV2 : Hid (OwnF w2 W.heap.size 46 5 v (keepN d k) (keepZ zs d k)) := HV.out.kept BX.out; have HB2 : Hid (Below W.heap.size W w2) := HB.out.trans (BX.out.mono hsz); have hs2 := HB2.out.size)
        | (at_builtin; refine wpList_append_own _ rfl _ _ 42 rfl W.heap.size 46 i5 _ 5 40 Try.underlying42 hi5 hz5 hz6 hz7 rfl (by decide) _ _ _ rfl (World.ownsRow.alloc HV2.out _) ⟨w2.heap.size, 0, none⟩ 1 1 ([x0, x1, x2, x3, x4].map (Value.int .i64)) rfl ?c1 ?c2 ?c3 ?c4 ?c5 ?c6 ?_))
      case c1 => rfl
      case c2 => exact news_cells w2 [x0, x1, x2, x3, x4] _
      case c3 => exact news_one _
      case c4 => unfold maxLen; omega
      case c5 => omega
      case c6 => simp; omega
      intro v' w4 hown' hgrow _
      obtain ⟨q1, q2, _⟩ := OwnF.snoc (zs := [x0, x1, x2, x3, x4]) HV2.out hs2 HB2.out hown' hgrow
      have H1 : Hid (OwnF w4 W.heap.size 46 5 v' (keepN d (k + 1)) (keepZ zs d (k + 1))) := by
        show OwnF _ _ _ _ _ _ _
        rw [HKS.out.1, HKS.out.2]; exact q1
      have H2 : Hid (Below W.heap.size W w4) := q2
      clear q1 q2 hown' hgrow
      go_wp2
      go_roundw
      case rel => exact ⟨k + 1, v', by omega, by go_num, rfl, H1, H2⟩
      case measure => simp [intOf]; omega
    · have HKS : Hid (keepZ zs d (k + 1) = keepZ zs d k ∧ keepN d (k + 1) = keepN d k) := keep_yes hdk
      clear e0 e1 e2 e3 e4
      go_wp2_with (first
        | (go_at_call 45; refine (impl_has db k d _ (by omega) (HS.out.kept BA.out)).mono ?_; rw [hdk]; rintro e w2 ⟨rfl, x, hw2⟩; have BX : Hid (Below wr.heap.size wr w2) := (by show Below _ _ _; rw [hw2]; exact BA.out.alloc BA.out.size _); clear hw2; have HV2 : Hid (OwnF w2 W.heap.size 46 5 v (keepN d k) (keepZ zs d k)) := HV.out.kept BX.out; have HB2 : Hid (Below W.heap.size W w2) := HB.out.trans (BX.out.mono hsz)))
      have H1 : Hid (OwnF w2 W.heap.size 46 5 v (keepN d (k + 1)) (keepZ zs d (k + 1))) := by
        show OwnF _ _ _ _ _ _ _
        rw [HKS.out.1, HKS.out.2]; exact HV2.out
      go_roundw
      case rel => exact ⟨k + 1, v, by omega, by go_num, rfl, H1, HB2⟩
      case measure => simp [intOf]; omega
theorem row4 {w : World} {g : Nat} {T : TypeId} {v0 v1 v2 v3 : Value} (h : w.rowIs g T 4 (rowF [v0, v1, v2, v3])) : w.cell? ⟨g, 0, none⟩ = some v0 ∧ w.cell? ⟨g, 1, none⟩ = some v1 ∧ w.cell? ⟨g, 2, none⟩ = some v2 ∧ w.cell? ⟨g, 3, none⟩ = some v3 ∧ w.frozen? ⟨g, 0, none⟩ = false :=
  ⟨h.cell (i := 0) (by decide), h.cell (i := 1) (by decide), h.cell (i := 2) (by decide), h.cell (i := 3) (by decide), h.frozen 0⟩
theorem row4_put {w : World} {g : Nat} {T : TypeId} {v0 v1 v2 v3 : Value} (h : w.rowIs g T 4 (rowF [v0, v1, v2, v3])) (u : Value) : (w.setCell ⟨g, 0, none⟩ u).rowIs g T 4 (rowF [u, v1, v2, v3]) :=
  (h.set 0 u).congr (fun i hi => by
    match i, hi with
    | 0, _ => rfl
    | 1, _ => rfl
    | 2, _ => rfl
    | 3, _ => rfl)
theorem news_four (a : Option Addr) (l c : Nat) (x y z : Int) : ∀ u ∈ [Value.slice a l c, .int .i64 x, .int .i64 y, .int .i64 z], u.oneCell' = true := by
  intro u hu; simp at hu; rcases hu with rfl | rfl | rfl | rfl <;> rfl
/-- What DropDead answers. -/
def DropAns (f : Nat → Bv) (n : Nat) (W : World) (e : Ending) (W' : World) : Prop :=
  ((flowB f n = true ∧ ∃ v s, e = .returned (.tuple #[v, .bool true]) ∧ OwnBl W' W.heap.size v n (dropB f s) ∧ FixL false f n s) ∨ (flowB f n = false ∧ e = .returned (.tuple #[.slice none 0 0, .bool false]))) ∧ Below W.heap.size W W'
theorem ownBl_low {w : World} {B B' n : Nat} {v : Value} {f : Nat → Bv} (h : OwnBl w B v n f) (hB : B' ≤ B) : OwnBl w B' v n f := by
  obtain ⟨U, F, g⟩ := h
  refine ⟨U, F, ⟨⟨g.row.1, ?_⟩, ?_, g.out, fun x hx => ⟨Nat.le_trans hB (g.low x hx).1, (g.low x hx).2⟩⟩⟩
  · rcases g.row.2 with q | ⟨y, cap, cur, e, hg, r⟩
    · exact Or.inl q
    · exact Or.inr ⟨y, cap, cur, e, Nat.le_trans hB hg, r⟩
  · obtain ⟨G, g1, g2⟩ := g.parts
    exact ⟨G, fun i hi => ⟨(g1 i hi).1.low hB, (g1 i hi).2⟩, g2⟩
set_option maxHeartbeats 8000000 in
theorem impl_dropdead (a : Option Addr) (n cap : Nat) (f : Nat → Bv) (W : World) (hn : n ≤ 1048576) (hlen : Hid (∀ k, k < n → (f k).len ≤ 1048576)) (h : Hid (Flow W a n f)) :
    Calls Try.prog 8 #[.slice a n cap] W fun e W' => DropAns f n W e W' := by
  obtain ⟨i4, hi4, hz4, hz5, hz6⟩ := parts_of block_row
  go_enter Try.func8, Try.ntmps8
  go_wp2_with fail
  refine (impl_needs_s a n cap f W hn hlen h).mono ?_
  rintro e w1 ⟨(⟨hf, nb, bb, bc, M, s, rfl, hN, hF, A, S, hBk⟩ | ⟨hf, rfl⟩), hB1⟩
  rotate_left
  · have HA : Hid (DropAns f n W (.returned (.tuple #[.slice none 0 0, .bool false])) w1) := ⟨Or.inr ⟨hf, rfl⟩, hB1⟩
    clear hf hB1
    go_wp2
    go_ret2
    exact HA.out
  have HF : Hid (flowB f n = true) := hf
  have HN : Hid (NeedsAt w1 nb bb n bc M s) := hN
  have HX : Hid (FixL false f n s) := hF
  have HBk : Hid (BlocksAt w1 bb n A S f) := hBk
  have HB1 : Hid (Below W.heap.size W w1) := hB1
  have hn8 : n ≤ 8 := (flow_out hf).1.2
  have hn8I : (n : Int) ≤ 8 := by omega
  have hw1 := hB1.size
  clear hf hN hF hB1 hBk
  go_wp2
  go_loopw [6, 18] (fun vl vi wr => ∃ (k : Nat) (v : Value), k ≤ n ∧ vi = .int .i64 k ∧ v = vl ∧ Hid (OwnBl wr w1.heap.size v k (dropB f s)) ∧ Hid (Below w1.heap.size w1 wr)) (fun _ vi _ => n - (intOf vi).toNat)
  case atStart => exact ⟨0, _, Nat.zero_le _, rfl, rfl, OwnBl.nil _ _ _, Below.refl _ _⟩
  case round =>
    obtain ⟨k, v, hk, rfl, rfl, HO, HB⟩ := hrel
    have HBW : Hid (Below W.heap.size W wr) := HB1.out.trans (HB.out.mono hw1)
    by_cases hlt : k < n
    rotate_left
    · have HE : Hid (k = n) := by show k = n; omega
      have HA : Hid (DropAns f n W (.returned (.tuple #[v, .bool true])) wr) := ⟨Or.inl ⟨HF.out, v, s, rfl, by rw [HE.out] at HO; exact ownBl_low HO.out hw1, HX.out⟩, HBW.out⟩
      go_wp2
      go_ret2
      exact HA.out
    have hltI : (k : Int) < (n : Int) := by omega
    obtain ⟨b, off, ca, cc, ha, hb, c0, c1, c2, c3, hI, hZ⟩ := flow_at h.out HBW.out hlt
    subst ha
    have hl30 : (f k).len ≤ 30 := by
      have hblk := (flow_out HF.out).2 k hlt
      simp only [blockB, Bool.and_eq_true] at hblk
      exact (code_out hblk.1.1.1).1
    have HNr : Hid (NeedsAt wr nb bb n bc M s) := HN.out.kept HB.out
    have HBr : Hid (BlocksAt wr bb n A S f) := HBk.out.kept HB.out
    have EZ : Hid ((dropB f s k).zs = keepZ (f k).zs (deadF7 f s k) (f k).len ∧ (dropB f s k).len = keepN (deadF7 f s k) (f k).len ∧ (dropB f s k).t = (f k).t ∧ (dropB f s k).th = (f k).th ∧ (dropB f s k).el = (f k).el) := ⟨rfl, rfl, rfl, rfl, rfl⟩
    have HDI : Hid (∀ X, BlocksAt X bb n A S f → NeedsAt X nb bb n bc M s → Calls Try.prog 25 #[.pointer (some ⟨nb, 0, none⟩), .int .i64 (k : Int)] X fun e W' => BehindAns (deadF7 f s k) X e W') := fun X q1 q2 => impl_deadin nb bb n bc k A S f M s X HF hlt q1 q2
    have hle := keepN_le (deadF7 f s k) (f k).len
    have HZ : Hid ((f k).zs.length = (f k).len * 5) := hZ
    have HI : Hid (Ints wr ca (f k).zs) := hI
    have HSN := @OwnBl.snoc wr
    obtain ⟨dk, hdk⟩ : ∃ dk, Hid (deadF7 f s k = dk) := ⟨_, rfl⟩
    rw [hdk.out] at EZ HDI hle
    generalize (f k).zs = zs at HZ HI EZ
    generalize (f k).len = len at c0 HZ hl30 EZ hle
    generalize (f k).t = t at c1 EZ
    generalize (f k).th = th at c2 EZ
    generalize (f k).el = el at c3 EZ
    clear hI hZ
    go_upto_region 8 with fail
    have BA : Hid (Below wr.heap.size wr (wr.alloc (.cells #[.slice ca len cc, .int .i64 t, .int .i64 th, .int .i64 el] 44))) := (Below.refl _ _).alloc (Nat.le_refl _) _
    have S0 : Hid ((wr.alloc (.cells #[.slice ca len cc, .int .i64 t, .int .i64 th, .int .i64 el] 44)).rowIs wr.heap.size 44 4 (rowF [.slice ca len cc, .int .i64 t, .int .i64 th, .int .i64 el])) := row_of wr #[.slice ca len cc, .int .i64 t, .int .i64 th, .int .i64 el] 44
    obtain ⟨W1, hW1⟩ : ∃ W1, Hid (wr.alloc (.cells #[.slice ca len cc, .int .i64 t, .int .i64 th, .int .i64 el] 44) = W1) := ⟨_, rfl⟩
    rw [hW1.out] at BA S0 ⊢
    have BD : Hid (Below wr.heap.size wr W1.drew) := BA.out.drew
    have hgl : wr.heap.size < W1.drew.heap.size := S0.out.lt
    have s0 : W1.drew.cell? ⟨wr.heap.size, 0, none⟩ = some (.slice ca len cc) := S0.out.cell (i := 0) (by decide)
    have f0 : W1.drew.frozen? ⟨wr.heap.size, 0, none⟩ = false := S0.out.frozen 0
    clear c0 c1 c2 c3
    go_region_with (first | (go_at_call 25; refine (HDI.out _ (HBr.out.kept BD.out) (HNr.out.kept BD.out)).mono ?_; rintro e w2 ⟨db, rfl, hdb, hS2, hB2⟩; have s2 := (hB2.cell (p := ⟨wr.heap.size, 0, none⟩) hgl).trans s0) | (go_at_call 24; refine (impl_without ca len cc db zs dk _ HZ hl30 (HI.out.kept (BD.out.trans (hB2.mono BD.out.size))) hS2).mono ?_; rintro e w3 ⟨v3, rfl, hV3, hB3⟩; obtain ⟨ua, uc, hue, hMu⟩ := hV3.mine; subst hue; have f3 := (hB3.frozen (p := ⟨wr.heap.size, 0, none⟩) (Nat.lt_of_lt_of_le hgl hB2.size)).trans ((hB2.frozen (p := ⟨wr.heap.size, 0, none⟩) hgl).trans f0); have s3 := (hB3.cell (p := ⟨wr.heap.size, 0, none⟩) (Nat.lt_of_lt_of_le hgl hB2.size)).trans s2))
    all_goals
      have hs1 := BD.out.size
      have hs2 := hB2.size
      have hs3 := hB3.size
      have hwr := HB.out.size
      have K1 : Hid (Below wr.heap.size wr w3) := BD.out.trans ((hB2.trans (hB3.mono hs2)).mono hs1)
      have S3 : Hid (w3.rowIs wr.heap.size 44 4 (rowF [.slice ca len cc, .int .i64 t, .int .i64 th, .int .i64 el])) := (World.rowIs.drew S0.out).of_block ((hB3.block _ (Nat.lt_of_lt_of_le hgl hs2)).trans (hB2.block _ hgl))
      obtain ⟨W4, hW4⟩ : ∃ W4, Hid (w3.setCell ⟨wr.heap.size, 0, none⟩ (.slice ua (keepN dk len) uc) = W4) := ⟨_, rfl⟩
      have B4 : Hid (Below wr.heap.size wr W4) := by show Below _ _ _; rw [← hW4.out]; exact K1.out.setCell (Nat.le_refl _) _
      have R4 : Hid (W4.rowIs wr.heap.size 44 4 (rowF [.slice ua (keepN dk len) uc, .int .i64 t, .int .i64 th, .int .i64 el])) := by show World.rowIs _ _ _ _ _; rw [← hW4.out]; exact row4_put S3.out _
      have M4 : Hid (Mine W4 wr.heap.size ua (dropB f s k).zs) := by
        show Mine _ _ _ _
        rw [EZ.out.1, ← hW4.out]
        exact mineF_low (mineF_put hMu (by omega)) (by omega)
      obtain ⟨xs, hrow, hgo⟩ := OwnBl.snoc (cc := uc) HO.out B4.out hwr M4.out (drop_len f s k)
      rw [EZ.out.2.1, EZ.out.2.2.1, EZ.out.2.2.2.1, EZ.out.2.2.2.2] at hgo
      have HGO : Hid (∀ (o : Obj) (w2 : World) (v' : Value), w2.ownsRow w1.heap.size 44 4 v' (k + 1) (xs ++ [.slice ua (keepN dk len) uc, .int .i64 t, .int .i64 th, .int .i64 el]) → (W4.alloc o).grownBy w2 v.ownBlock → (v'.ownBlock = v.ownBlock ∨ v'.ownBlock = some (W4.alloc o).heap.size) → OwnBl w2 w1.heap.size v' (k + 1) (dropB f s) ∧ ∀ W, Below w1.heap.size W W4 → Below w1.heap.size W w2) := hgo
      have HROW : Hid (W4.ownsRow w1.heap.size 44 4 v k xs) := hrow
      have BW4 : Hid (Below w1.heap.size w1 W4) := HB.out.trans (B4.out.mono hwr)
      obtain ⟨r0, r1, r2, r3, -⟩ := row4 R4.out
      have hg4 : wr.heap.size < W4.heap.size := R4.out.lt
      have h4s := BW4.out.size
      rw [hW4.out]
      clear hgo hrow hMu hV3 hB3 hB2 hS2 hdb hW4 K1 S3 S0 BD M4 R4 s0 f0 f3 hgl
      obtain ⟨g, hg⟩ : ∃ g, Hid (wr.heap.size = g) := ⟨_, rfl⟩
      rw [hg.out] at r0 r1 r2 r3 hg4 ⊢
      obtain ⟨kn, hkn⟩ : ∃ kn, Hid (keepN dk len = kn) := ⟨_, rfl⟩
      rw [hkn.out] at r0 HGO ⊢
      go_wp2_with (first
        | (at_builtin; refine wpList_append_own_at _ rfl _ _ 24 rfl w1.heap.size 44 i4 _ 4 48 Try.underlying24 hi4 hz4 hz5 hz6 rfl (by decide) _ _ xs rfl (World.ownsRow.alloc HROW.out _) ⟨W4.heap.size, 0, none⟩ 1 1 [.slice ua kn uc, .int .i64 t, .int .i64 th, .int .i64 el] rfl rfl (news_vals W4 [.slice ua kn uc, .int .i64 t, .int .i64 th, .int .i64 el] _) (news_four _ _ _ _ _ _) (by unfold maxLen; omega) (by omega) (by simp; omega) ?_))
      intro v5 w5 hown hgrow _ hob
      obtain ⟨q1, q2⟩ := HGO.out _ w5 v5 hown hgrow (by simpa using hob)
      have H1 : Hid (OwnBl w5 w1.heap.size v5 (k + 1) (dropB f s)) := q1
      have H2 : Hid (Below w1.heap.size w1 w5) := q2 _ BW4.out
      clear q1 q2 hown hgrow hob HGO HROW
      go_wp2
      go_roundw
      case rel => exact ⟨k + 1, v5, by omega, by go_num, rfl, H1, H2⟩
      case measure => simp [intOf]; omega
end Go.Proofs.Ytfmgbalfabpogaa.walks

namespace Go.Proofs.Ytfmgbalfabpogaa.walks
open Go.RowKit Go.Proofs.Ytfmgbalfabpogaa.math Go.Proofs.Ytfmgbalfabpogaa.ints
set_option linter.unusedVariables false
set_option maxRecDepth 100000

theorem lists_info : (Try.prog.info? 48).map (fun i => (i.zero, i.size, i.bytes)) = some (some (.slice none 0 0), 1, 24) := by kernel_rfl
def updV (V : Nat → Value) (k : Nat) (v : Value) : Nat → Value := fun j => if j = k then v else V j
theorem InL.set {w : World} {ib n k : Nat} {V : Nat → Value} {s : Ls} {v : Value} {x : Nat → Bool} (h : InL w ib n V s) (hk : k < n) (hv : LRow w v (risingTo x 8)) : InL (w.setCell ⟨ib, k, none⟩ v) ib n (updV V k v) (updL s k x) := by
  have hc := (h.cell k hk).1
  have hy := lrow_slice (h.row k hk)
  refine ⟨by simpa [World.setCell] using h.lt, fun j hj => ?_, fun j hj => ?_⟩
  · by_cases e : j = k
    · subst e
      refine ⟨?_, by simpa using (h.cell j hj).2⟩
      rw [World.cell?_setCell_same _ _ _ hc]
      simp [updV]
    · refine ⟨?_, by simpa using (h.cell j hj).2⟩
      rw [World.cell?_setCell_other _ _ _ _ (by simp; try exact fun q => e (Eq.symm q)), (h.cell j hj).1]
      simp [updV, e]
  · by_cases e : j = k
    · subst e
      rw [updL_same]
      simp only [updV, if_pos]
      exact hv.set hc hy
    · rw [updL_other _ _ e]
      simp only [updV, if_neg e]
      exact (h.row j hj).set hc hy
/-- What l7All answers. -/
def AllAns (p : Bool) (f : Nat → Bv) (n : Nat) (W : World) (e : Ending) (W' : World) : Prop :=
  ∃ ib V s, e = .returned (.slice (some ⟨ib, 0, none⟩) n n) ∧ InL W' ib n V s ∧ FixL p f n s ∧ Below W.heap.size W W'
theorem made_in (W : World) (n : Nat) : InL (W.alloc (.cells (madeCells #[.slice none 0 0] n) 48)) W.heap.size n (fun _ => .slice none 0 0) (fun _ _ => false) := by
  have h := World.rowIs_made W (.slice none 0 0) n 48
  exact ⟨h.lt, fun k hk => ⟨h.cell hk, h.frozen k⟩, fun k hk => Or.inl ⟨rfl, rfl⟩⟩
theorem box_kept7 {w w' : World} {g : Nat} {v0 v1 v2 v3 : Value} (hb : Below w.heap.size w w') (hg : g < w.heap.size) (h : w.cell? ⟨g, 0, none⟩ = some v0 ∧ w.cell? ⟨g, 1, none⟩ = some v1 ∧ w.cell? ⟨g, 2, none⟩ = some v2 ∧ w.cell? ⟨g, 3, none⟩ = some v3) : w'.cell? ⟨g, 0, none⟩ = some v0 ∧ w'.cell? ⟨g, 1, none⟩ = some v1 ∧ w'.cell? ⟨g, 2, none⟩ = some v2 ∧ w'.cell? ⟨g, 3, none⟩ = some v3 :=
  ⟨(hb.cell (p := ⟨g, 0, none⟩) hg).trans h.1, (hb.cell (p := ⟨g, 1, none⟩) hg).trans h.2.1, (hb.cell (p := ⟨g, 2, none⟩) hg).trans h.2.2.1, (hb.cell (p := ⟨g, 3, none⟩) hg).trans h.2.2.2⟩
set_option maxHeartbeats 16000000 in
theorem spec_all7 (a : Option Addr) (n cap : Nat) (f : Nat → Bv) (p : Bool) (W : World) (hf : Hid (flowB f n = true)) (hlen : Hid (∀ k, k < n → (f k).len ≤ 1048576)) (h : Hid (Flow W a n f)) :
    Calls Try.prog 37 #[.slice a n cap, .bool p] W fun e W' => AllAns p f n W e W' := by
  have hn8 : n ≤ 8 := (flow_out hf.out).1.2
  have hn8I : (n : Int) ≤ 8 := by omega
  have hmk := run_make_row' (P := Try.prog) 31 48 (.slice none 0 0) 24 Try.underlying31 lists_info rfl .i64 .i64 n (by omega) (by omega)
  go_enter Try.func37, Try.ntmps37
  go_wp2
  clear hmk
  have HI0 : Hid (InL (W.alloc (.cells (madeCells #[.slice none 0 0] n) 48)) W.heap.size n (fun _ => .slice none 0 0) (fun _ _ => false)) := made_in W n
  have HB0 : Hid (Below W.heap.size W (W.alloc (.cells (madeCells #[.slice none 0 0] n) 48))) := (Below.refl _ _).alloc (Nat.le_refl _) _
  obtain ⟨ib, hib⟩ : ∃ ib, Hid (W.heap.size = ib) := ⟨_, rfl⟩
  obtain ⟨X, hX⟩ : ∃ X, Hid (W.alloc (.cells (madeCells #[.slice none 0 0] n) 48) = X) := ⟨_, rfl⟩
  rw [hX.out] at HI0 HB0 ⊢
  rw [hib.out] at HI0 ⊢
  go_loopg [] 65 (fun gk wr => ∃ (V : Nat → Value) (s : Ls), sumL s n + gk = 65 ∧ Hid (InL wr ib n V s) ∧ Hid (UpL p f n s) ∧ Hid (Below W.heap.size W wr))
  case atStart => exact ⟨_, _, (by have : sumL (fun _ _ => false) n = 0 := sum_none n; omega), HI0, up_none _ _ _, HB0⟩
  case round =>
    obtain ⟨V0, s0, hsum, HI1, HU1, HB1⟩ := hrel
    go_wp2
    go_loopw [6, 15] (fun vc vi wr => ∃ (k : Nat) (c : Bool) (V : Nat → Value) (s : Ls), k ≤ n ∧ vi = .int .i64 k ∧ vc = .bool c ∧ Hid (InL wr ib n V s) ∧ Hid (RndL p f n s0 s (fun j => j < k) c) ∧ Hid (Below W.heap.size W wr)) (fun _ vi _ => n - (intOf vi).toNat)
    case atStart => exact ⟨0, false, V0, s0, Nat.zero_le _, rfl, rfl, HI1, rnd_start HU1.out _ (fun k _ q => by omega), HB1⟩
    case round =>
      obtain ⟨k, c, V, s, hk, rfl, rfl, HI, HR, HB⟩ := hrel
      by_cases hlt : k < n
      · obtain ⟨b, off, ca, cc, ha, hb, c0, c1, c2, c3, hI, hZ⟩ := flow_at h.out HB.out hlt
        subst ha
        have hblk := (flow_out hf.out).2 k hlt
        simp only [blockB, Bool.and_eq_true] at hblk
        have HC : Hid (∀ j, j < (f k).len → stepB (f k).zs j = true) := (code_out hblk.1.1.1).2
        have ht := inR_out hblk.1.1.2
        have hth := inR_out hblk.1.2
        have hel := inR_out hblk.2
        have HZ : Hid ((f k).zs.length = (f k).len * 5) := hZ
        have HCI : Hid (Ints wr ca (f k).zs) := hI
        have hll := hlen.out k hlt
        have HAD : Hid (aheadL p f s k = backK p (f k).zs (f k).len (behindL (f k) s) (f k).len) := rfl
        have HBD : Hid (∀ i, behindL (f k) s i = ((nextL s (f k).th i || nextL s (f k).el i) || (!((f k).th == (f k).el) && i == (f k).t.toNat))) := fun i => rfl
        have hbs := HB.out.size
        obtain ⟨bz, hbz⟩ : ∃ bz, Hid (behindL (f k) s = bz) := ⟨_, rfl⟩
        obtain ⟨x, hx⟩ : ∃ x, Hid (aheadL p f s k = x) := ⟨_, rfl⟩
        have HCK : Hid (backK p (f k).zs (f k).len bz (f k).len = x) := by show _ = _; rw [← hx.out, ← hbz.out]; rfl
        generalize (f k).zs = zs at HZ HCI HC HCK HAD
        generalize (f k).len = len at c0 HZ HC hll HCK HAD
        generalize (f k).t = t at c1 ht HBD
        generalize (f k).th = th at c2 hth HBD
        generalize (f k).el = el at c3 hel HBD
        have HBR : Hid (risingTo (fun i => (nextL s th i || nextL s el i) || (!(th == el) && i == t.toNat)) 8 = risingTo bz 8) := by
          show _ = _
          rw [← hbz.out]
          exact rising_congr 8 (fun i _ => (HBD.out i).symm)
        have Ht : Hid (0 ≤ t ∧ t ≤ 7) := ht
        have Hth : Hid (th < (n : Int)) := by show th < _; omega
        have Hel : Hid (el < (n : Int)) := by show el < _; omega
        clear hI hZ hblk ht hth hel HAD HBD
        obtain ⟨ka, kc, hkv, _⟩ := (HI.out.row k hlt).ints
        have ck := (HI.out.cell k hlt).1
        have cf := (HI.out.cell k hlt).2
        rw [hkv] at ck
        go_upto_region 6 with fail
        have HBA : Hid (Below wr.heap.size wr (wr.alloc (.cells #[.slice ca len cc, .int .i64 t, .int .i64 th, .int .i64 el] 44))) := (Below.refl _ _).alloc (Nat.le_refl _) _
        have S0 : (wr.alloc (.cells #[.slice ca len cc, .int .i64 t, .int .i64 th, .int .i64 el] 44)).cell? ⟨wr.heap.size, 0, none⟩ = some (.slice ca len cc) ∧ (wr.alloc (.cells #[.slice ca len cc, .int .i64 t, .int .i64 th, .int .i64 el] 44)).cell? ⟨wr.heap.size, 1, none⟩ = some (.int .i64 t) ∧ (wr.alloc (.cells #[.slice ca len cc, .int .i64 t, .int .i64 th, .int .i64 el] 44)).cell? ⟨wr.heap.size, 2, none⟩ = some (.int .i64 th) ∧ (wr.alloc (.cells #[.slice ca len cc, .int .i64 t, .int .i64 th, .int .i64 el] 44)).cell? ⟨wr.heap.size, 3, none⟩ = some (.int .i64 el) := by simp
        have hgl : wr.heap.size < (wr.alloc (.cells #[.slice ca len cc, .int .i64 t, .int .i64 th, .int .i64 el] 44)).heap.size := by simp
        obtain ⟨W1, hW1⟩ : ∃ W1, Hid (wr.alloc (.cells #[.slice ca len cc, .int .i64 t, .int .i64 th, .int .i64 el] 44) = W1) := ⟨_, rfl⟩
        rw [hW1.out] at HBA S0 hgl ⊢
        have HI1' : Hid (InL W1 ib n V s) := HI.out.kept HBA.out
        have HC1 : Hid (Ints W1 ca zs) := HCI.out.kept HBA.out
        have HBW1 : Hid (Below W.heap.size W W1) := HB.out.trans (HBA.out.mono hbs)
        obtain ⟨gx, hgx⟩ : ∃ gx, Hid (wr.heap.size = gx) := ⟨_, rfl⟩
        rw [hgx.out] at S0 hgl ⊢
        have SD : W1.drew.cell? ⟨gx, 0, none⟩ = some (.slice ca len cc) ∧ W1.drew.cell? ⟨gx, 1, none⟩ = some (.int .i64 t) ∧ W1.drew.cell? ⟨gx, 2, none⟩ = some (.int .i64 th) ∧ W1.drew.cell? ⟨gx, 3, none⟩ = some (.int .i64 el) := S0
        clear c0 c1 c2 c3 ck cf
        go_region_held3 (fun w' => w'.cell? ⟨gx, 0, none⟩ = some (.slice ca len cc) ∧ w'.cell? ⟨gx, 1, none⟩ = some (.int .i64 t) ∧ w'.cell? ⟨gx, 2, none⟩ = some (.int .i64 th) ∧ w'.cell? ⟨gx, 3, none⟩ = some (.int .i64 el))
          (first | assumption | exact SD | exact S5 | exact S6 | go_keep)
          (first | (go_at_call 39; refine (spec_behind7 ca len cc t th el ib n n V s _ hn8 Ht.out Hth.out Hel.out (HI1'.out.kept (Below.refl _ W1).drew)).mono ?_; rw [HBR.out]; rintro e w5 ⟨v5, rfl, hL5, hB5⟩; have S5 := box_kept7 hB5 hgl SD) | (go_at_call 53; refine (spec_code7 _ _ _ zs p _ bz _ HZ hll HC ((HC1.out.kept (Below.refl _ W1).drew).kept hB5) hL5).mono ?_; rw [HCK.out]; rintro e w6 ⟨v6, rfl, hL6, hB6⟩; have S6 := box_kept7 hB6 (Nat.lt_of_lt_of_le hgl hB5.size) S5))
        have B6 : Below W1.heap.size W1 w6 := (Below.refl _ W1).drew.trans (hB5.trans (hB6.mono hB5.size))
        have HI6 : Hid (InL w6 ib n V s) := HI1'.out.kept B6
        have HL6 : Hid (LRow w6 v6 (risingTo x 8)) := hL6
        have HB6 : Hid (Below W.heap.size W w6) := HBW1.out.trans (B6.mono HBW1.out.size)
        obtain ⟨va, vc, hv6, _⟩ := hL6.ints
        have ck : w6.cell? ⟨ib, k, none⟩ = some (.slice ka (risingTo (s k) 8).length kc) := by rw [← hkv]; exact (HI6.out.cell k hlt).1
        have cf := (HI6.out.cell k hlt).2
        have hkI : (k : Int) < (n : Int) := by omega
        have HX8 : Hid (cntL x ≤ 8) := cnt_8 _
        have HS8 : Hid (cntL (s k) ≤ 8) := cnt_8 _
        obtain ⟨m1, hm1⟩ : ∃ m1, (risingTo x 8).length = m1 := ⟨_, rfl⟩
        obtain ⟨m2, hm2⟩ : ∃ m2, (risingTo (s k) 8).length = m2 := ⟨_, rfl⟩
        have HM1 : Hid (cntL x = m1) := hm1
        have HM2 : Hid (cntL (s k) = m2) := hm2
        rw [hm1] at hv6
        rw [hm2] at ck hkv
        have hle : m2 ≤ m1 := by rw [← HM1.out, ← HM2.out, ← hx.out]; exact cnt_le (HR.out.up.up k hlt)
        have HIS : Hid (InL (w6.setCell ⟨ib, k, none⟩ v6) ib n (updV V k v6) (updL s k x)) := HI6.out.set hlt HL6.out
        have hibW : W.heap.size ≤ ib := by have := hib.out; omega
        have HBS : Hid (Below W.heap.size W (w6.setCell ⟨ib, k, none⟩ v6)) := HB6.out.setCell (p := ⟨ib, k, none⟩) hibW _
        have HRM : Hid (m2 < m1 → RndL p f n s0 (updL s k x) (fun j => j < k + 1) true) := fun q => by rw [← hx.out]; exact rnd_more hf.out HR.out hlt (by rw [hx.out, HM1.out, HM2.out]; exact q) _
        have HRS : Hid (m1 = m2 → RndL p f n s0 (updL s k x) (fun j => j < k + 1) c) := fun q => by
          rw [← hx.out]
          exact rnd_still hf.out HR.out hlt (by rw [hx.out, HM1.out, HM2.out]; omega) (step_still hf.out HR.out.up hlt (by rw [hx.out, HM1.out, HM2.out]; omega)).2 (fun j hj q => by omega)
        subst hv6
        clear hL5 hL6 hB5 hB6 B6 S0 SD S5 S6 hm1 hm2 hgl
        cases c
        · by_cases hmm : m1 = m2
          · have HRR := HRS.out hmm
            have HRF : Hid (RndL p f n s0 (updL s k x) (fun j => j < k + 1) false) := HRR
            subst hmm
            clear HRR HRS HRM hle
            go_wp2
            go_roundw
            case rel => exact ⟨k + 1, false, _, _, by omega, by go_num, rfl, HIS, HRF, HBS⟩
            case measure => simp [intOf]; omega
          · have HRF : Hid (RndL p f n s0 (updL s k x) (fun j => j < k + 1) true) := HRM.out (by omega)
            have e1 : ((m1 : Int) == (m2 : Int)) = false := by simp; omega
            have e2 : decide ((m1 : Int) = (m2 : Int)) = false := decide_eq_false (by omega)
            have e3 : decide (m1 = m2) = false := decide_eq_false hmm
            have e4 : (m1 == m2) = false := by simpa using hmm
            clear HRS HRM hle hmm
            go_wp2
            go_roundw
            case rel => exact ⟨k + 1, true, _, _, by omega, by go_num, by simp [bne, e1], HIS, HRF, HBS⟩
            case measure => simp [intOf]; omega
        · have HRF : Hid (RndL p f n s0 (updL s k x) (fun j => j < k + 1) true) := by
            by_cases q : m1 = m2
            · exact HRS.out q
            · exact HRM.out (by omega)
          clear HRS HRM hle
          go_wp2
          go_roundw
          case rel => exact ⟨k + 1, true, _, _, by omega, by go_num, rfl, HIS, HRF, HBS⟩
          case measure => simp [intOf]; omega
      · have hkn : k = n := by omega
        subst hkn
        clear hlt
        cases c
        · have HA : Hid (AllAns p f k W (.returned (.slice (some ⟨ib, 0, none⟩) k k)) wr) := ⟨ib, V, s, rfl, HI.out, rnd_fix hf.out HR.out (fun j hj => hj), HB.out⟩
          go_wp2
          go_ret
          exact HA.out
        · have hmore := HR.out.yes rfl
          have hcap := sum_64 hf.out s
          have HU2 : Hid (UpL p f k s) := HR.out.up
          go_wp2
          go_roundg (65 - sumL s k)
          case rel => exact ⟨V, s, by omega, HI, HU2, HB⟩
          case measure => omega
/-- The lists, one of each block. -/
def LivesAns (p : Bool) (f : Nat → Bv) (n : Nat) (W : World) (e : Ending) (W' : World) : Prop :=
  ((flowB f n = true ∧ ∃ ib V s, e = .returned (.tuple #[.slice (some ⟨ib, 0, none⟩) n n, .bool true]) ∧ InL W' ib n V s ∧ FixL p f n s) ∨ (flowB f n = false ∧ e = .returned (.tuple #[.slice none 0 0, .bool false]))) ∧ Below W.heap.size W W'
end Go.Proofs.Ytfmgbalfabpogaa.walks

namespace Go.Proofs.Ytfmgbalfabpogaa.walks
open Go.RowKit Go.Proofs.Ytfmgbalfabpogaa.math Go.Proofs.Ytfmgbalfabpogaa.ints
set_option linter.unusedVariables false

/-- What put leaves. -/
def PutOwn (W : World) (zs : List Int) (e : Ending) (W' : World) : Prop := ∃ v', e = .returned v' ∧ ints.Own W' W.heap.size v' zs ∧ Below W.heap.size W W'
set_option maxHeartbeats 2000000 in
theorem put_nilO (n : Int) (W : World) : Calls Try.prog 54 #[.slice none 0 0, .int .i64 n] W fun e W' => PutOwn W [n] e W' := by
  obtain ⟨i0, hi, hz0, hz1, hz2⟩ := info_parts row_info
  go_enter Try.func54, Try.ntmps54
  go_wp2
  go_loop [5] (fun v => v = .int .i64 0) (fun _ => 1)
  case atStart => rfl
  case round =>
    subst hrel
    go_wp2_with (first
      | (at_builtin; refine wpList_append_own_none rfl _ _ 48 rfl W.heap.size 3 i0 1 Try.underlying48 hi _ 0 [] rfl (World.ownsRow_nil _ _ _ _) rfl ?_)
      | (at_builtin; refine wpList_append_own _ rfl _ _ 48 rfl W.heap.size 3 i0 (.int .i64 0) 1 8 Try.underlying48 hi hz0 hz1 hz2 rfl (by decide) _ 0 [] rfl (World.ownsRow_nil _ _ _ _) ⟨W.heap.size, 0, none⟩ 1 1 [.int .i64 n] rfl rfl (new_one W n _) (one_of n) (by unfold maxLen; omega) (by omega) (by simp) ?_)
      | go_in)
    intro v1 w1 hown hgrow _
    have hO : ints.Own w1 W.heap.size v1 [n] := by unfold ints.Own; simpa using hown
    have hB : Below W.heap.size W w1 := ((Below.refl W.heap.size W).alloc (Nat.le_refl _) _).grown hgrow (by simp) (fun k hk => by simp [Value.ownBlock] at hk)
    obtain ⟨a1, c1, rfl, _⟩ := hO.mine
    have HO : Hid (ints.Own w1 W.heap.size (.slice a1 [n].length c1) [n]) := hO
    have HB : Hid (Below W.heap.size W w1) := hB
    clear hown hgrow hO hB
    simp only [List.length_singleton] at HO ⊢
    go_wp2_with (first
      | (at_builtin; refine wpList_append_own_none rfl _ _ 48 rfl W.heap.size 3 i0 1 Try.underlying48 hi _ 1 [.int .i64 n] rfl HO.out rfl ?_)
      | go_in)
    go_ret
    exact ⟨_, rfl, HO.out, HB.out⟩
theorem third_partO {W w2 w3 : World} {v2 v3 : Value} {zs : List Int} {k len : Nat} {n : Int} (hz : zs.length = len) (hk : k ≤ len) (HP : putL zs n = ((zs.drop 0).take k ++ [n]) ++ (zs.drop k).take (zs.length - k)) (HO : Hid (w2.ownsRow W.heap.size 3 1 v2 (k + 1) (List.take k (List.map (Value.int .i64) zs) ++ [.int .i64 n]))) (HB : Hid (Below W.heap.size W w2))
    (hown : w3.ownsRow W.heap.size 3 1 v3 (k + 1 + (len - k)) (List.take k (List.map (Value.int .i64) zs) ++ .int .i64 n :: List.take (len - k) (List.drop k (List.map (Value.int .i64) zs)))) (hgrow : w2.grownBy w3 v2.ownBlock) : PutOwn W (putL zs n) (.returned v3) w3 := by
  have hl : (putL zs n).length = k + 1 + (len - k) := by rw [HP]; simp; omega
  have hO : ints.Own w3 W.heap.size v3 (putL zs n) := by
    unfold ints.Own
    rw [hl, HP, hz]
    simpa [List.map_take, List.map_drop] using hown
  exact ⟨v3, rfl, hO, HB.out.grown hgrow HB.out.size (fun j hj => (World.ownsRow.lt HO.out j hj).1)⟩
theorem third_endO {W w2 w3 : World} {v2 v3 : Value} {zs : List Int} {k : Nat} {n : Int} (hz : zs.length = k) (HP : putL zs n = ((zs.drop 0).take k ++ [n]) ++ (zs.drop k).take (zs.length - k)) (HO : Hid (w2.ownsRow W.heap.size 3 1 v2 (k + 1) (List.take k (List.map (Value.int .i64) zs) ++ [.int .i64 n]))) (HB : Hid (Below W.heap.size W w2))
    (hown : w3.ownsRow W.heap.size 3 1 v3 (k + 1) (List.take k (List.map (Value.int .i64) zs) ++ [.int .i64 n])) (hgrow : w2.grownBy w3 v2.ownBlock) : PutOwn W (putL zs n) (.returned v3) w3 := by
  have hl : (putL zs n).length = k + 1 := by rw [HP]; simp; omega
  have hO : ints.Own w3 W.heap.size v3 (putL zs n) := by
    unfold ints.Own
    rw [hl, HP, hz]
    simpa [List.map_take, List.map_drop] using hown
  exact ⟨v3, rfl, hO, HB.out.grown hgrow HB.out.size (fun j hj => (World.ownsRow.lt HO.out j hj).1)⟩
set_option maxRecDepth 100000 in
set_option maxHeartbeats 4000000 in
theorem put_someO (b off cap len K : Nat) (zs : List Int) (n : Int) (W : World) (hz : Hid (zs.length = len)) (hcap : len ≤ cap) (hlen : len ≤ 1000) (hb : b < W.heap.size) (hK : Hid (putK zs n = K)) (hno : Hid (∀ k, k < zs.length → zs.getD k 0 ≠ n)) (hc : Hid (∀ i, i < zs.length → W.cell? ⟨b, off + i, none⟩ = some (.int .i64 (zs.getD i 0)))) :
    Calls Try.prog 54 #[.slice (some ⟨b, off, none⟩) len cap, .int .i64 n] W fun e W' => PutOwn W (putL zs n) e W' := by
  obtain ⟨i0, hi, hz0, hz1, hz2⟩ := info_parts row_info
  have hKl : K ≤ len := by rw [← hK.out, ← hz.out]; exact putK_le _ _
  have hKi : (K : Int) ≤ (len : Int) := by omega
  have hKc : (K : Int) ≤ (cap : Int) := by omega
  have hK0 : (0 : Int) ≤ (K : Int) := Int.natCast_nonneg _
  go_enter Try.func54, Try.ntmps54
  go_wp2
  go_loop [5] (fun v => ∃ k : Nat, k ≤ K ∧ v = .int .i64 k) (fun v => K - (intOf v).toNat)
  case atStart => exact ⟨0, Nat.zero_le _, rfl⟩
  case round =>
    obtain ⟨k, hk, rfl⟩ := hrel
    by_cases hlt : k < K
    · have h0 : 0 < len := by omega
      have hcell := hc.out k (by have := hz.out; omega)
      have hlo : zs.getD k 0 < n := putK_lt zs n k (by rw [hK.out]; exact hlt)
      generalize zs.getD k 0 = x at hcell hlo
      have hx : decide (x < n) = true := decide_eq_true hlo
      go_wp2
      go_round
      case rel => exact ⟨k + 1, by omega, by go_num⟩
      case measure => simp [intOf]; omega
    have hkK : k = K := by omega
    subst hkK
    clear hlt hk
    by_cases hend : k < len
    · have h0 : 0 < len := by omega
      have hcell := hc.out k (by have := hz.out; omega)
      have hge : n ≤ zs.getD k 0 := by
        have := putK_ge zs n (by rw [hK.out, hz.out]; exact hend)
        rw [hK.out] at this; exact this
      by_cases heq : zs.getD k 0 = n
      · exact absurd heq (hno.out k (by have := hz.out; omega))
      · have HP : Hid (putL zs n = ((zs.drop 0).take k ++ [n]) ++ (zs.drop k).take (zs.length - k)) := by
          have := putL_len (zs := zs) (n := n) (fun _ => by rw [hK.out]; exact heq)
          rw [hK.out] at this
          exact this
        generalize zs.getD k 0 = x at hcell hge heq
        have d1 : decide (x < n) = false := decide_eq_false (by omega)
        have d2 : (x == n) = false := by simpa using heq
        have d3 : decide (x = n) = false := decide_eq_false heq
        clear heq
        go_wp2_with (first
          | (at_builtin; refine wpList_append_own _ rfl _ _ 48 rfl W.heap.size 3 i0 (.int .i64 0) 1 8 Try.underlying48 hi hz0 hz1 hz2 rfl (by decide) _ 0 [] rfl (World.ownsRow_nil _ _ _ _) ⟨b, off, none⟩ k cap (((zs.drop 0).take k).map (Value.int .i64)) rfl ?c1 (part_news 0 k (by have := hz.out; omega) hc.out) (map_one _) (by unfold maxLen; omega) (by omega) (Nat.le_refl _) ?_)
          | go_in)
        case c1 => have := hz.out; first | omega | (simp; omega)
        intro v1 w1 hown hgrow _
        obtain ⟨HO, HB⟩ := first_part (hz := hz.out) (hk := hKl) hown hgrow
        clear hown hgrow
        go_wp2_with (first
          | (at_builtin; refine wpList_append_own _ rfl _ _ 48 rfl W.heap.size 3 i0 (.int .i64 0) 1 8 Try.underlying48 hi hz0 hz1 hz2 rfl (by decide) _ k (List.take k (List.map (Value.int .i64) zs)) rfl (World.ownsRow.alloc HO.out _) ⟨w1.heap.size, 0, none⟩ 1 1 [.int .i64 n] rfl rfl (new_one w1 n _) (one_of n) (by unfold maxLen; omega) (by omega) (by have := HB.out.size; simp; omega) ?_)
          | go_in)
        intro v2 w2 hown hgrow _
        obtain ⟨HO2, HB2⟩ := second_part HO HB hown hgrow
        have HC2 : Hid (∀ i, i < zs.length → w2.cell? ⟨b, off + i, none⟩ = some (.int .i64 (zs.getD i 0))) := fun i hi => (HB2.out.cell (p := ⟨b, off + i, none⟩) hb).trans (hc.out i hi)
        clear hown hgrow
        go_wp2_with (first
          | (at_builtin; refine wpList_append_own _ rfl _ _ 48 rfl W.heap.size 3 i0 (.int .i64 0) 1 8 Try.underlying48 hi hz0 hz1 hz2 rfl (by decide) v2 (k + 1) (List.take k (List.map (Value.int .i64) zs) ++ [.int .i64 n]) rfl HO2.out ⟨b, off + k, none⟩ (len - k) (cap - k) (((zs.drop k).take (len - k)).map (Value.int .i64)) rfl ?c2 (part_news k (len - k) (by have := hz.out; omega) HC2.out) (map_one _) (by unfold maxLen; omega) (by omega) HB2.out.size ?_)
          | go_in)
        case c2 => have := hz.out; first | omega | (simp; omega)
        intro v3 w3 hown hgrow _
        have HA : Hid (PutOwn W (putL zs n) (.returned v3) w3) := third_partO hz.out hKl HP.out HO2 HB2 hown hgrow
        clear hown hgrow
        go_wp2
        go_ret
        exact HA.out
    · have hkl : k = len := by omega
      have HP : Hid (putL zs n = ((zs.drop 0).take k ++ [n]) ++ (zs.drop k).take (zs.length - k)) := by
        have := putL_len (zs := zs) (n := n) (fun h => absurd h (by rw [hK.out, hz.out]; omega))
        rw [hK.out] at this
        exact this
      clear hend
      subst hkl
      rcases Nat.lt_or_ge k cap with hck | hck
      · have hck1 : ¬ cap = k := by omega
        go_wp2_with (first
          | (at_builtin; refine wpList_append_own _ rfl _ _ 48 rfl W.heap.size 3 i0 (.int .i64 0) 1 8 Try.underlying48 hi hz0 hz1 hz2 rfl (by decide) _ 0 [] rfl (World.ownsRow_nil _ _ _ _) ⟨b, off, none⟩ k cap (((zs.drop 0).take k).map (Value.int .i64)) rfl ?c5 (part_news 0 k (by have := hz.out; omega) hc.out) (map_one _) (by unfold maxLen; omega) (by omega) (Nat.le_refl _) ?_)
          | go_in)
        case c5 => have := hz.out; first | omega | (simp; omega)
        intro v1 w1 hown hgrow _
        obtain ⟨HO, HB⟩ := first_part (hz := hz.out) (hk := hKl) hown hgrow
        clear hown hgrow
        go_wp2_with (first
          | (at_builtin; refine wpList_append_own _ rfl _ _ 48 rfl W.heap.size 3 i0 (.int .i64 0) 1 8 Try.underlying48 hi hz0 hz1 hz2 rfl (by decide) _ k (List.take k (List.map (Value.int .i64) zs)) rfl (World.ownsRow.alloc HO.out _) ⟨w1.heap.size, 0, none⟩ 1 1 [.int .i64 n] rfl rfl (new_one w1 n _) (one_of n) (by unfold maxLen; omega) (by omega) (by have := HB.out.size; simp; omega) ?_)
          | go_in)
        intro v2 w2 hown hgrow _
        obtain ⟨HO2, HB2⟩ := second_part HO HB hown hgrow
        have HC2 : Hid (∀ i, i < zs.length → w2.cell? ⟨b, off + i, none⟩ = some (.int .i64 (zs.getD i 0))) := fun i hi => (HB2.out.cell (p := ⟨b, off + i, none⟩) hb).trans (hc.out i hi)
        clear hown hgrow
        go_wp2_with (first
          | (at_builtin; refine wpList_append_own _ rfl _ _ 48 rfl W.heap.size 3 i0 (.int .i64 0) 1 8 Try.underlying48 hi hz0 hz1 hz2 rfl (by decide) v2 (k + 1) (List.take k (List.map (Value.int .i64) zs) ++ [.int .i64 n]) rfl HO2.out ⟨b, off + k, none⟩ 0 _ [] rfl rfl (fun j u h => by simp at h) (fun u h => by simp at h) (by unfold maxLen; omega) (by omega) HB2.out.size ?_)
          | go_in)
        intro v3 w3 hown hgrow _
        have HA : Hid (PutOwn W (putL zs n) (.returned v3) w3) := third_endO hz.out HP.out HO2 HB2 hown hgrow
        clear hown hgrow
        go_wp2
        go_ret
        exact HA.out
      · have hck2 : k = cap := by omega
        subst hck2
        clear hck
        go_wp2_with (first
          | (at_builtin; refine wpList_append_own _ rfl _ _ 48 rfl W.heap.size 3 i0 (.int .i64 0) 1 8 Try.underlying48 hi hz0 hz1 hz2 rfl (by decide) _ 0 [] rfl (World.ownsRow_nil _ _ _ _) ⟨b, off, none⟩ k k (((zs.drop 0).take k).map (Value.int .i64)) rfl ?c6 (part_news 0 k (by have := hz.out; omega) hc.out) (map_one _) (by unfold maxLen; omega) (by omega) (Nat.le_refl _) ?_)
          | go_in)
        case c6 => have := hz.out; first | omega | (simp; omega)
        intro v1 w1 hown hgrow _
        obtain ⟨HO, HB⟩ := first_part (hz := hz.out) (hk := hKl) hown hgrow
        clear hown hgrow
        go_wp2_with (first
          | (at_builtin; refine wpList_append_own _ rfl _ _ 48 rfl W.heap.size 3 i0 (.int .i64 0) 1 8 Try.underlying48 hi hz0 hz1 hz2 rfl (by decide) _ k (List.take k (List.map (Value.int .i64) zs)) rfl (World.ownsRow.alloc HO.out _) ⟨w1.heap.size, 0, none⟩ 1 1 [.int .i64 n] rfl rfl (new_one w1 n _) (one_of n) (by unfold maxLen; omega) (by omega) (by have := HB.out.size; simp; omega) ?_)
          | go_in)
        intro v2 w2 hown hgrow _
        obtain ⟨HO2, HB2⟩ := second_part HO HB hown hgrow
        have HC2 : Hid (∀ i, i < zs.length → w2.cell? ⟨b, off + i, none⟩ = some (.int .i64 (zs.getD i 0))) := fun i hi => (HB2.out.cell (p := ⟨b, off + i, none⟩) hb).trans (hc.out i hi)
        clear hown hgrow
        go_wp2_with (first
          | (at_builtin; refine wpList_append_own _ rfl _ _ 48 rfl W.heap.size 3 i0 (.int .i64 0) 1 8 Try.underlying48 hi hz0 hz1 hz2 rfl (by decide) v2 (k + 1) (List.take k (List.map (Value.int .i64) zs) ++ [.int .i64 n]) rfl HO2.out ⟨b, off, none⟩ 0 _ [] rfl rfl (fun j u h => by simp at h) (fun u h => by simp at h) (by unfold maxLen; omega) (by omega) HB2.out.size ?_)
          | go_in)
        intro v3 w3 hown hgrow _
        have HA : Hid (PutOwn W (putL zs n) (.returned v3) w3) := third_endO hz.out HP.out HO2 HB2 hown hgrow
        clear hown hgrow
        go_wp2
        go_ret
        exact HA.out
theorem spec_put_own (v : Value) (zs : List Int) (n : Int) (W : World) (h : LRow W v zs) (hl : zs.length ≤ 1000) (hno : ∀ k, k < zs.length → zs.getD k 0 ≠ n) : Calls Try.prog 54 #[v, .int .i64 n] W fun e W' => PutOwn W (putL zs n) e W' := by
  rcases h with ⟨rfl, rfl⟩ | ⟨b, off, cap, rfl, hc, hb, hx⟩
  · exact put_nilO n W
  · exact put_someO b off cap zs.length (putK zs n) zs n W rfl hc hl hb rfl hno hx
end Go.Proofs.Ytfmgbalfabpogaa.walks

namespace Go.Proofs.Ytfmgbalfabpogaa.walks
open Go.RowKit Go.Proofs.Ytfmgbalfabpogaa.math Go.Proofs.Ytfmgbalfabpogaa.ints
set_option linter.unusedVariables false
set_option maxRecDepth 100000

theorem own_kept {w w' : World} {B : Nat} {v : Value} {zs : List Int} (h : ints.Own w B v zs) (hb : Below w.heap.size w w') : ints.Own w' B v zs :=
  World.ownsRow.kept h (row := none) ⟨hb.os, hb.tape, hb.output, hb.size, fun i hi _ => hb.block i hi⟩ (by
    cases q : v.ownBlock with
    | none => exact Or.inl rfl
    | some g => exact Or.inr (by simp))
theorem own_low {w : World} {B B' : Nat} {v : Value} {zs : List Int} (h : ints.Own w B v zs) (hB : B' ≤ B) : ints.Own w B' v zs :=
  ⟨h.1, h.2.imp id (fun ⟨g, cap, cur, e, hb, r⟩ => ⟨g, cap, cur, e, Nat.le_trans hB hb, r⟩)⟩
theorem dead_far {zs : List Int} {len q : Nat} {f : Nat → Bool} (h : q < len) : ∀ k, k < (risingTo (deadK zs len f (len - (q + 1))) 64).length → (risingTo (deadK zs len f (len - (q + 1))) 64).getD k 0 ≠ (q : Int) := by
  intro k hk e
  have hm : (q : Int) ∈ risingTo (deadK zs len f (len - (q + 1))) 64 := by
    rw [← e, List.getD_eq_getElem?_getD, List.getElem?_eq_getElem hk]
    simp
  obtain ⟨i, _, hi, e2⟩ := (mem_rising _ _ 64).1 hm
  have : i = q := by omega
  subst this
  rw [deadK_low _ (by omega) i (by omega)] at hi
  cases hi
theorem dst_small8 {o d a b n : Int} (hg : goodI o d a b n = true) (h8 : o ≠ 8) : 0 ≤ d ∧ d ≤ 7 := by
  rcases good_cases hg with ⟨_, q, _⟩ | ⟨_, q, _⟩ | ⟨q, _⟩ | ⟨_, q, _⟩
  all_goals first | exact q | omega
theorem below_loads {w w' : World} {g : Nat} {v : Value} (hb : Below w.heap.size w w') (hg : g < w.heap.size) (h : w.cell? ⟨g, 0, none⟩ = some v) : w'.cell? ⟨g, 0, none⟩ = some v := (hb.cell (p := ⟨g, 0, none⟩) hg).trans h
set_option maxHeartbeats 4000000 in
theorem spec_dead7 (ca : Option Addr) (len cc : Nat) (t th el : Int) (zs : List Int) (v : Value) (f : Nat → Bool) (W : World) (hz : Hid (zs.length = len * 5)) (hlen : len ≤ 30) (hG : Hid (∀ k, k < len → stepB zs k = true)) (h : Hid (Ints W ca zs)) (hL : LRow W v (risingTo f 8)) :
    Calls Try.prog 38 #[.agg #[.slice ca len cc, .int .i64 t, .int .i64 th, .int .i64 el], v] W fun e W' => PutOwn W (risingTo (deadK zs len f len) 64) e W' := by
  have HL0 : Hid (LRow W v (risingTo f 8)) := hL
  clear hL
  go_enter Try.func38, Try.ntmps38
  go_wp2
  have c00 : (W.alloc (.cells #[.slice ca len cc, .int .i64 t, .int .i64 th, .int .i64 el] 44)).cell? ⟨W.heap.size, 0, none⟩ = some (.slice ca len cc) := by simp
  have hg0 : W.heap.size < (W.alloc (.cells #[.slice ca len cc, .int .i64 t, .int .i64 th, .int .i64 el] 44)).heap.size := by simp
  have HBA : Hid (Below W.heap.size W (W.alloc (.cells #[.slice ca len cc, .int .i64 t, .int .i64 th, .int .i64 el] 44))) := (Below.refl _ _).alloc (Nat.le_refl _) _
  obtain ⟨X, hX⟩ : ∃ X, Hid ((W.alloc (.cells #[.slice ca len cc, .int .i64 t, .int .i64 th, .int .i64 el] 44)) = X) := ⟨_, rfl⟩
  rw [hX.out] at c00 hg0 HBA ⊢
  obtain ⟨gx, hgx⟩ : ∃ gx, Hid (W.heap.size = gx) := ⟨_, rfl⟩
  rw [hgx.out] at c00 hg0 ⊢
  go_loopw [5, 6, 7] (fun vo vl vi wr => ∃ i : Nat, i ≤ len ∧ vi = .int .i64 ((i : Int) - 1) ∧ gx < wr.heap.size ∧ wr.cell? ⟨gx, 0, none⟩ = some (.slice ca len cc) ∧ Hid (ints.Own wr W.heap.size vo (risingTo (deadK zs len f (len - i)) 64)) ∧ Hid (LRow wr vl (risingTo (backK false zs len f (len - i)) 8)) ∧ Hid (Below W.heap.size W wr)) (fun _ _ vi _ => ((intOf vi) + 1).toNat)
  case atStart => exact ⟨len, Nat.le_refl _, rfl, hg0, c00, by show ints.Own _ _ _ _; rw [Nat.sub_self, show risingTo (deadK zs len f 0) 64 = [] from rising_none 64]; exact own_nil _ _, by show LRow _ _ _; rw [Nat.sub_self]; exact HL0.out.kept HBA.out, HBA⟩
  case round =>
    obtain ⟨i, hi, rfl, hgw, cg, HD, HL, HB⟩ := hrel
    clear c00 hg0
    rcases i with _ | q
    · have HR : Hid (∀ v, ints.Own wr W.heap.size v (risingTo (deadK zs len f (len - 0)) 64) → PutOwn W (risingTo (deadK zs len f len) 64) (.returned v) wr) := fun v hv => ⟨v, rfl, hv, HB.out⟩
      have HR' := HR.out _ HD.out
      have HR2 : Hid (PutOwn W (risingTo (deadK zs len f len) 64) (.returned _) wr) := HR'
      clear HR'
      go_wp2
      go_ret
      exact HR2.out
    · have hq : ((q + 1 : Nat) : Int) - 1 = (q : Int) := by omega
      rw [hq]
      have hql : q < len := by omega
      have hqI : (q : Int) < (len : Int) := by omega
      obtain ⟨b, o', ha, hb, c0, c1, c2, c3, c4⟩ := Instr_at h.out hz.out HB.out hql
      subst ha
      have HBK : Hid (backK false zs len f (len - q) = backAt false (zs.getD (q * 5) 0) (zs.getD (q * 5 + 1) 0) (zs.getD (q * 5 + 2) 0) (zs.getD (q * 5 + 3) 0) (backK false zs len f (len - (q + 1)))) := backK_next hql
      have HY : Hid (deadB (zs.getD (q * 5) 0) (zs.getD (q * 5 + 1) 0) (backK false zs len f (len - (q + 1))) = true → putL (risingTo (deadK zs len f (len - (q + 1))) 64) (q : Int) = risingTo (deadK zs len f (len - q)) 64) := dead_yes hql (by omega)
      have HNO : Hid (deadB (zs.getD (q * 5) 0) (zs.getD (q * 5 + 1) 0) (backK false zs len f (len - (q + 1))) = false → deadK zs len f (len - (q + 1)) = deadK zs len f (len - q)) := dead_no hql
      have hg := hG.out q hql
      unfold stepB at hg
      have hbs := HB.out.size
      generalize zs.getD (q * 5) 0 = o at c0 hg HBK HY HNO
      generalize zs.getD (q * 5 + 1) 0 = d at c1 hg HBK HY HNO
      generalize zs.getD (q * 5 + 2) 0 = x at c2 hg HBK
      generalize zs.getD (q * 5 + 3) 0 = y at c3 hg HBK
      generalize zs.getD (q * 5 + 4) 0 = n at c4 hg
      have Hg : Hid (goodI o d x y n = true) := hg
      obtain ⟨fb, hfb⟩ : ∃ fb, Hid (backK false zs len f (len - (q + 1)) = fb) := ⟨_, rfl⟩
      rw [hfb.out] at HBK HY HNO HL
      have HBX : Hid (Below wr.heap.size wr (wr.alloc (.cells #[.int .i64 o, .int .i64 d, .int .i64 x, .int .i64 y, .int .i64 n] 46))) := (Below.refl _ _).alloc (Nat.le_refl _) _
      obtain ⟨X2, hX2⟩ : ∃ X2, Hid ((wr.alloc (.cells #[.int .i64 o, .int .i64 d, .int .i64 x, .int .i64 y, .int .i64 n] 46)) = X2) := ⟨_, rfl⟩
      have k0 : X2.cell? ⟨wr.heap.size, 0, none⟩ = some (.int .i64 o) := by rw [← hX2.out]; simp
      have k1 : X2.cell? ⟨wr.heap.size, 1, none⟩ = some (.int .i64 d) := by rw [← hX2.out]; simp
      have k2 : X2.cell? ⟨wr.heap.size, 2, none⟩ = some (.int .i64 x) := by rw [← hX2.out]; simp
      have k3 : X2.cell? ⟨wr.heap.size, 3, none⟩ = some (.int .i64 y) := by rw [← hX2.out]; simp
      have k4 : X2.cell? ⟨wr.heap.size, 4, none⟩ = some (.int .i64 n) := by rw [← hX2.out]; simp
      have hX2s : wr.heap.size < X2.heap.size := by rw [← hX2.out]; simp
      rw [hX2.out] at HBX
      have HD2 : Hid (ints.Own X2 W.heap.size _ (risingTo (deadK zs len f (len - (q + 1))) 64)) := own_kept HD.out HBX.out
      have HFar : Hid (∀ k, k < (risingTo (deadK zs len f (len - (q + 1))) 64).length → (risingTo (deadK zs len f (len - (q + 1))) 64).getD k 0 ≠ (q : Int)) := dead_far hql
      have HL2 : Hid (LRow X2 _ (risingTo fb 8)) := HL.out.kept HBX.out
      have HB2 : Hid (Below W.heap.size W X2) := HB.out.trans (HBX.out.mono hbs)
      have cg2 := below_loads HBX.out hgw cg
      have hgw2 : gx < X2.heap.size := Nat.lt_of_lt_of_le hgw HBX.out.size
      obtain ⟨va, vc, hv, hvI⟩ := HL2.out.ints
      have HVI : Hid (Ints X2 va (risingTo fb 8)) := hvI
      subst hv
      clear hg hq hvI HD HL HB

      by_cases h8 : o = 8
      · subst h8
        have HN : Hid (deadK zs len f (len - (q + 1)) = deadK zs len f (len - q)) := HNO.out rfl
        rw [HN.out] at HD2
        clear HY HNO
        go_upto_region 7 with fail
        rw [hX2.out]
        go_wp2_with fail
        refine (spec_back7 _ _ _ _ _ false _ fb _ Hg.out HL2.out).mono ?_
        rw [← HBK.out]
        rintro e w9 ⟨v9, rfl, hL9, hB9⟩
        have HL9 : Hid (LRow w9 v9 (risingTo (backK false zs len f (len - q)) 8)) := hL9
        have HD9 : Hid (ints.Own w9 W.heap.size _ (risingTo (deadK zs len f (len - q)) 64)) := own_kept HD2.out hB9
        have HB9 : Hid (Below W.heap.size W w9) := HB2.out.trans (hB9.mono HB2.out.size)
        have cg9 := below_loads hB9 hgw2 cg2
        have hgw9 : gx < w9.heap.size := Nat.lt_of_lt_of_le hgw2 hB9.size
        clear hL9 hB9
        go_wp2
        go_roundw
        case rel => exact ⟨q, by omega, by go_num, hgw9, cg9, HD9, HL9, HB9⟩
        case measure => simp [intOf]
      · obtain ⟨hd0, hd7⟩ := dst_small8 Hg.out h8
        obtain ⟨dn, rfl⟩ : ∃ dn : Nat, d = (dn : Int) := ⟨d.toNat, by omega⟩
        have hd8 : dn < 8 := by omega
        have s1 : (o == 8) = false := by simpa using h8
        have s2 : decide (o = 8) = false := decide_eq_false h8
        have HDB : Hid (deadB o (dn : Int) fb = !fb dn) := by show deadB _ _ _ = _; unfold deadB; rw [s1]; simp
        have s3 : (o != 8) = true := by simp [bne, s1]
        have s4 : decide (o ≠ 8) = true := decide_eq_true h8
        clear h8 hd0 hd7
        go_upto_region 7 with fail
        rw [hX2.out]
        cases hfd : fb dn
        · have HH : Hid (hasB (risingTo fb 8) (dn : Int) = false) := (has_set _ hd8).trans hfd
          have HP : Hid (putL (risingTo (deadK zs len f (len - (q + 1))) 64) (q : Int) = risingTo (deadK zs len f (len - q)) 64) := HY.out (by rw [HDB.out, hfd]; rfl)
          clear HY HNO
          go_wp2_with fail
          refine (spec_has _ _ _ (risingTo fb 8) _ _ rfl (rise_big _) HVI).mono ?_
          rw [HH.out]
          rintro e w' ⟨rfl, hw⟩
          rw [hw]
          clear hw w'
          go_wp2_with fail
          refine (spec_put_own _ (risingTo (deadK zs len f (len - (q + 1))) 64) (q : Int) _ (LRow.of_own HD2.out) (Nat.le_trans (rising_len _ _) (by omega)) HFar.out).mono ?_
          rw [HP.out]
          rintro e w3 ⟨v3, rfl, hD3, hB3⟩
          have HD3 : Hid (ints.Own w3 W.heap.size v3 (risingTo (deadK zs len f (len - q)) 64)) := own_low hD3 HB2.out.size
          have HL3 : Hid (LRow w3 (.slice va (risingTo fb 8).length vc) (risingTo fb 8)) := HL2.out.kept hB3
          have HB3 : Hid (Below W.heap.size W w3) := HB2.out.trans (hB3.mono HB2.out.size)
          have cg3 := below_loads hB3 hgw2 cg2
          have hgw3 : gx < w3.heap.size := Nat.lt_of_lt_of_le hgw2 hB3.size
          have k0 := (hB3.cell (p := ⟨wr.heap.size, 0, none⟩) hX2s).trans k0
          have k1 := (hB3.cell (p := ⟨wr.heap.size, 1, none⟩) hX2s).trans k1
          have k2 := (hB3.cell (p := ⟨wr.heap.size, 2, none⟩) hX2s).trans k2
          have k3 := (hB3.cell (p := ⟨wr.heap.size, 3, none⟩) hX2s).trans k3
          have k4 := (hB3.cell (p := ⟨wr.heap.size, 4, none⟩) hX2s).trans k4
          clear hD3 hB3
          go_wp2_with fail
          refine (spec_back7 _ _ _ _ _ false _ fb _ Hg.out HL3.out).mono ?_
          rw [← HBK.out]
          rintro e w9 ⟨v9, rfl, hL9, hB9⟩
          have HL9 : Hid (LRow w9 v9 (risingTo (backK false zs len f (len - q)) 8)) := hL9
          have HD9 : Hid (ints.Own w9 W.heap.size _ (risingTo (deadK zs len f (len - q)) 64)) := own_kept HD3.out hB9
          have HB9 : Hid (Below W.heap.size W w9) := HB3.out.trans (hB9.mono HB3.out.size)
          have cg9 := below_loads hB9 hgw3 cg3
          have hgw9 : gx < w9.heap.size := Nat.lt_of_lt_of_le hgw3 hB9.size
          clear hL9 hB9
          go_wp2
          go_roundw
          case rel => exact ⟨q, by omega, by go_num, hgw9, cg9, HD9, HL9, HB9⟩
          case measure => simp [intOf]
        · have HH : Hid (hasB (risingTo fb 8) (dn : Int) = true) := (has_set _ hd8).trans hfd
          have HN : Hid (deadK zs len f (len - (q + 1)) = deadK zs len f (len - q)) := HNO.out (by rw [HDB.out, hfd]; rfl)
          rw [HN.out] at HD2
          clear HY HNO
          go_wp2_with fail
          refine (spec_has _ _ _ (risingTo fb 8) _ _ rfl (rise_big _) HVI).mono ?_
          rw [HH.out]
          rintro e w' ⟨rfl, hw⟩
          rw [hw]
          clear hw w'
          go_wp2_with fail
          refine (spec_back7 _ _ _ _ _ false _ fb _ Hg.out HL2.out).mono ?_
          rw [← HBK.out]
          rintro e w9 ⟨v9, rfl, hL9, hB9⟩
          have HL9 : Hid (LRow w9 v9 (risingTo (backK false zs len f (len - q)) 8)) := hL9
          have HD9 : Hid (ints.Own w9 W.heap.size _ (risingTo (deadK zs len f (len - q)) 64)) := own_kept HD2.out hB9
          have HB9 : Hid (Below W.heap.size W w9) := HB2.out.trans (hB9.mono HB2.out.size)
          have cg9 := below_loads hB9 hgw2 cg2
          have hgw9 : gx < w9.heap.size := Nat.lt_of_lt_of_le hgw2 hB9.size
          clear hL9 hB9
          go_wp2
          go_roundw
          case rel => exact ⟨q, by omega, by go_num, hgw9, cg9, HD9, HL9, HB9⟩
          case measure => simp [intOf]

end Go.Proofs.Ytfmgbalfabpogaa.walks

namespace Go.Proofs.Ytfmgbalfabpogaa.walks
open Go.RowKit Go.Maps Go.Sort Go.Shelf Go.Proofs.Ytfmgbalfabpogaa.math Go.Proofs.Ytfmgbalfabpogaa.ints
set_option linter.unusedVariables false

set_option maxHeartbeats 1000000 in
theorem impl_rise_nil (w : World) :
    Calls Try.prog 29 #[.map none] w fun e w' => RiseAns [] w e w' := by
  refine (callsIn_wide (n := 6)).1 ?_
  have hseq : SeqGives Fence.wide 2 Try.prog 68 #[.pointer (some ⟨w.heap.size, 0, none⟩)] encZ (fun ss : List Int => ss = []) 0 (w.alloc (.cells #[.map none] 56)) :=
    AnyZI.keys_gives_nil (ρ := Try.keysA_ren) { Try.keysA with } Fence.wide _ trivial rfl w.heap.size _ (by simp) (by simp)
  have cK : ∀ mb W, CallsIn Fence.wide 5 Try.prog 51 #[.map mb] W fun e w' => e = .returned (.func (.func 68) #[] #[.pointer (some ⟨W.heap.size, 0, none⟩)]) ∧ w' = W.alloc (.cells #[.map mb] 56) := fun mb W => AnyZI.keys_in Try.keysA Fence.wide 5 trivial rfl mb W
  have cS := AnyZI.sorted_in Try.sortedA Fence.wide 5 trivial trivial trivial trivial rfl (by omega) (sorts_at _) (enters_of Try.func67 (by kernel_rfl) rfl) 68 #[.pointer (some ⟨w.heap.size, 0, none⟩)] trivial (enters_of Try.func68 (by kernel_rfl) rfl) _ _ (by unfold maxLen; omega) (by omega) _ hseq
  change CallsIn _ _ Try.prog 50 _ _ _ at cS
  have hfK : Fence.wide.fn 51 := trivial
  have hfS : Fence.wide.fn 50 := trivial
  refine callsIn_of_wp Try.func29 rfl trivial ?_ rfl
  simp only [Try.ntmps29, List.size_toArray, List.length_cons, List.length_nil, Nat.reduceAdd, Nat.reduceSub, Array.replicate_succ, Array.replicate_zero, List.push_toArray, List.append_toArray, List.nil_append, List.cons_append]
  gi_wp2_with (first
    | (gi_at_call 51; refine (cK _ _).mono ?_; rintro e w' ⟨rfl, rfl⟩)
    | (gi_at_call 50; refine cS.mono ?_; rintro e w' ⟨v, ss, rfl, hS, hrow, hnil, hb⟩))
  go_ret
  refine ⟨v, rfl, ?_, ((Below.refl _ w).alloc (Nat.le_refl _) _).trans (hb.mono (by simp))⟩
  subst hS
  unfold Go.Proofs.Ytfmgbalfabpogaa.ints.Own
  have := ownsRow_base_a hrow (by simp : w.heap.size ≤ _)
  rw [List.mergeSort_nil] at this
  exact this
theorem impl_rise_or (m : Option Nat) (x : Nat → Bool) (w : World) (hs : SetOr w m x) (hx : ∀ i, 8 ≤ i → x i = false) :
    Calls Try.prog 29 #[.map m] w fun e w' => RiseAns (risingTo x 8) w e w' := by
  rcases hs with ⟨rfl, hz⟩ | ⟨b, rfl, hs⟩
  · have q : x = fun _ => false := funext fun i => by
      by_cases hi : i < 64
      · exact hz i hi
      · exact hx i (by omega)
    rw [q]
    exact impl_rise_nil w
  · have := impl_rise b x w hs
    rw [listS_names hx] at this
    exact this
end Go.Proofs.Ytfmgbalfabpogaa.walks

namespace Go.Proofs.Ytfmgbalfabpogaa.ints
open Go.RowKit
set_option linter.unusedVariables false

/-- A list of lists. -/
def Lists (w : World) (a : Option Addr) (n : Nat) (Z : Nat → List Int) : Prop :=
  n = 0 ∨ ∃ b, a = some ⟨b, 0, none⟩ ∧ b < w.heap.size ∧ ∀ k, k < n → ∃ c d, w.cell? ⟨b, k, none⟩ = some (.slice c (Z k).length d) ∧ Ints w c (Z k)
theorem Lists.kept {w w' : World} {a : Option Addr} {n : Nat} {Z : Nat → List Int} (h : Lists w a n Z) (hb : Below w.heap.size w w') : Lists w' a n Z := by
  rcases h with h | ⟨b, e, hl, hc⟩
  · exact Or.inl h
  · refine Or.inr ⟨b, e, Nat.lt_of_lt_of_le hl hb.size, fun k hk => ?_⟩
    obtain ⟨c, d, q, hi⟩ := hc k hk
    exact ⟨c, d, (hb.cell (p := ⟨b, k, none⟩) hl).trans q, hi.kept hb⟩
theorem Lists.at {W wr : World} {a : Option Addr} {n k : Nat} {Z : Nat → List Int} (h : Lists W a n Z) (hb : Below W.heap.size W wr) (hk : k < n) : ∃ b c d, a = some ⟨b, 0, none⟩ ∧ wr.cell? ⟨b, k, none⟩ = some (.slice c (Z k).length d) ∧ Ints wr c (Z k) := by
  rcases h.kept hb with h | ⟨b, e, hl, hc⟩
  · omega
  · obtain ⟨c, d, q, hi⟩ := hc k hk
    exact ⟨b, c, d, e, q, hi⟩
/-- .. all of it in memory from B on, each list in a block of its own, no cell barred. -/
structure MineL (w : World) (B : Nat) (a : Option Addr) (n : Nat) (Z : Nat → List Int) (C : Nat → Option Addr × Nat) : Prop where
  top : n = 0 ∨ ∃ b, a = some ⟨b, 0, none⟩ ∧ B ≤ b ∧ b < w.heap.size ∧ (∀ k, k < n → w.cell? ⟨b, k, none⟩ = some (.slice (C k).1 (Z k).length (C k).2)) ∧ ∀ k, k < n → 0 < (Z k).length → ∀ b' o, (C k).1 = some ⟨b', o, none⟩ → b' ≠ b
  row : ∀ k, k < n → Mine w B (C k).1 (Z k)
  ap : ∀ j k, j < n → k < n → j ≠ k → 0 < (Z j).length → 0 < (Z k).length → Apart (C j).1 (C k).1
theorem MineL.lists {w : World} {B : Nat} {a : Option Addr} {n : Nat} {Z : Nat → List Int} {C : Nat → Option Addr × Nat} (h : MineL w B a n Z C) : Lists w a n Z := by
  rcases h.top with q | ⟨b, e, _, hl, hc, _⟩
  · exact Or.inl q
  · exact Or.inr ⟨b, e, hl, fun k hk => ⟨_, _, hc k hk, (h.row k hk).ints⟩⟩
theorem MineL.kept {w w' : World} {B : Nat} {a : Option Addr} {n : Nat} {Z : Nat → List Int} {C : Nat → Option Addr × Nat} (h : MineL w B a n Z C) (hb : Below w.heap.size w w') : MineL w' B a n Z C := by
  refine ⟨?_, fun k hk => (h.row k hk).kept hb, h.ap⟩
  rcases h.top with q | ⟨b, e, h0, hl, hc, hn⟩
  · exact Or.inl q
  · exact Or.inr ⟨b, e, h0, Nat.lt_of_lt_of_le hl hb.size, fun k hk => (hb.cell (p := ⟨b, k, none⟩) hl).trans (hc k hk), hn⟩
theorem MineL.congr {w : World} {B : Nat} {a : Option Addr} {n : Nat} {Z Z' : Nat → List Int} {C : Nat → Option Addr × Nat} (h : MineL w B a n Z C) (e : ∀ k, k < n → Z k = Z' k) : MineL w B a n Z' C := by
  refine ⟨?_, fun k hk => by rw [← e k hk]; exact h.row k hk, fun j k hj hk hne h1 h2 => h.ap j k hj hk hne (by rw [e j hj]; exact h1) (by rw [e k hk]; exact h2)⟩
  rcases h.top with q | ⟨b, e', h0, hl, hc, hn⟩
  · exact Or.inl q
  · exact Or.inr ⟨b, e', h0, hl, fun k hk => by rw [← e k hk]; exact hc k hk, fun k hk h1 => hn k hk (by rw [e k hk]; exact h1)⟩
/-- One of its lists has been marked. -/
theorem MineL.put {w w' : World} {B : Nat} {a : Option Addr} {n k : Nat} {Z : Nat → List Int} {C : Nat → Option Addr × Nat} {zs : List Int} (h : MineL w B a n Z C) (hk : k < n) (hz : zs.length = (Z k).length) (hm : Mine w' B (C k).1 zs) (ho : Only w w' B (C k).1 (Z k).length) : MineL w' B a n (fun j => if j = k then zs else Z j) C := by
  have hlen : ∀ j, (if j = k then zs else Z j).length = (Z j).length := fun j => by
    by_cases e : j = k
    · subst e; rw [if_pos rfl]; exact hz
    · rw [if_neg e]
  refine ⟨?_, fun j hj => ?_, fun i j hi hj hne h1 h2 => h.ap i j hi hj hne (by rw [← hlen i]; exact h1) (by rw [← hlen j]; exact h2)⟩
  · rcases h.top with q | ⟨b, e, h0, hl, hc, hn⟩
    · exact Or.inl q
    · refine Or.inr ⟨b, e, h0, by rw [ho.1]; exact hl, fun j hj => ?_, fun j hj h1 => hn j hj (by rw [← hlen j]; exact h1)⟩
      rw [hlen j, ← hc j hj]
      rcases ho.2 with q | ⟨l0, b', off, e', _, hg⟩
      · rw [q]
      · exact World.cell?_of_block (hg.block b hl (by simpa using fun q => hn k hk l0 b' off e' q.symm))
  · by_cases e : j = k
    · subst e; simp only [if_true]; exact hm
    · simp only [if_neg e]
      by_cases l0 : 0 < (Z j).length
      · rcases ho.2 with q | ⟨l1, _⟩
        · rw [q]; exact h.row j hj
        · exact ho.mine (h.row j hj) (h.ap k j hk hj (fun q => e q.symm) l1 l0)
      · exact Or.inl (List.length_eq_zero_iff.1 (by omega))
/-- How many numbers stand ahead of the k-th list. -/
def offs (l : Nat → Nat) : Nat → Nat
  | 0 => 0
  | k + 1 => offs l k + l k
theorem offs_le (l : Nat → Nat) (m : Nat) : ∀ n, (∀ k, k < n → l k ≤ m) → offs l n ≤ n * m
  | 0, _ => by simp [offs]
  | n + 1, h => by
    have h1 := offs_le l m n (fun k hk => h k (by omega))
    have h2 := h n (by omega)
    simp only [offs, Nat.add_mul, Nat.one_mul]
    omega
/-- The marks of the k-th list. -/
def marksL (l : Nat → Nat) (k : Nat) : List Int := upFrom (1 + (offs l k : Int)) (l k)
set_option maxHeartbeats 2000000 in
set_option maxRecDepth 100000 in
theorem eq_lists (a a' : Option Addr) (n cap cap' : Nat) (Z : Nat → List Int) (W : World) (hn : n ≤ 1048576) (hlen : Hid (∀ k, k < n → (Z k).length ≤ 1048576)) (h : Hid (Lists W a n Z)) (h' : Hid (Lists W a' n Z)) :
    Calls Try.prog 14 #[.slice a n cap, .slice a' n cap'] W fun e W' => e = .returned (.bool true) ∧ Below W.heap.size W W' := by
  go_enter Try.func14, Try.ntmps14
  go_wp2
  go_loopw [5] (fun vi wr => ∃ k : Nat, k ≤ n ∧ vi = .int .i64 k ∧ Hid (Below W.heap.size W wr)) (fun vi _ => n - (intOf vi).toNat)
  case atStart => exact ⟨0, Nat.zero_le _, rfl, Below.refl _ _⟩
  case round =>
    obtain ⟨k, hk, rfl, HB⟩ := hrel
    by_cases hlt : k < n
    · obtain ⟨b, c, d, ha, q, hI⟩ := h.out.at HB.out hlt
      obtain ⟨b', c', d', ha', q', hI'⟩ := h'.out.at HB.out hlt
      subst ha ha'
      have HI : Hid (Ints wr c (Z k)) := hI
      have HI' : Hid (Ints wr c' (Z k)) := hI'
      have HL := hlen.out k hlt
      have HD : Hid (Below wr.heap.size wr wr.drew) := (Below.refl _ _).drew
      clear hI hI'
      go_wp2_with fail
      go_region_with (go_at_call 30; refine (eq_ints _ _ _ _ _ (Z k) _ (show Hid _ from rfl) HL (HI.out.kept HD.out) (HI'.out.kept HD.out)).mono ?_; rintro e w' ⟨rfl, hb⟩; have HX : Hid (Below W.heap.size W w') := HB.out.drew.trans (hb.mono HB.out.drew.size); clear hb)
      all_goals
        go_wp2
        go_roundw
        case rel => exact ⟨k + 1, by omega, by go_num, HX.out⟩
        case measure => simp [intOf]; omega
    · go_wp2
      go_ret
      exact ⟨rfl, HB.out⟩
set_option maxHeartbeats 2000000 in
set_option maxRecDepth 100000 in
theorem held_lists (a : Option Addr) (n cap : Nat) (l : Nat → Nat) (W : World) (hn : n ≤ 10) (hlen : Hid (∀ k, k < n → l k ≤ 1048576)) (h : Hid (Lists W a n (marksL l))) :
    Calls Try.prog 16 #[.slice a n cap, .int .i64 1] W fun e W' => e = .returned (.int .i64 (1 + (offs l n : Int))) ∧ W' = W := by
  go_enter Try.func16, Try.ntmps16
  go_wp2
  go_loop [1, 5] (fun vk vi => ∃ k : Nat, k ≤ n ∧ vi = .int .i64 k ∧ vk = .int .i64 (1 + (offs l k : Int))) (fun _ vi => n - (intOf vi).toNat)
  case atStart => exact ⟨0, Nat.zero_le _, rfl, rfl⟩
  case round =>
    obtain ⟨k, hk, rfl, rfl⟩ := hrel
    by_cases hlt : k < n
    · obtain ⟨b, c, d, ha, q, hI⟩ := h.out.at (Below.refl _ _) hlt
      subst ha
      have ho := offs_le l 1048576 k (fun j hj => hlen.out j (by omega))
      have HL := hlen.out k hlt
      have HO : Hid ((offs l (k + 1) : Int) = (offs l k : Int) + (l k : Int)) := by show ((offs l (k + 1) : Nat) : Int) = _; simp [offs]
      rw [show (marksL l k).length = l k from upFrom_len _ _] at q
      have HI : Hid (Ints W c (upFrom (1 + (offs l k : Int)) (l k))) := hI
      clear hI
      obtain ⟨s, hs⟩ : ∃ s : Int, Hid (1 + (offs l k : Int) = s) := ⟨_, rfl⟩
      have hs0 : 0 ≤ s := by have := hs.out; omega
      have hs1 : s ≤ 10485761 := by have := hs.out; omega
      rw [hs.out] at HI ⊢
      have hl0 : (0 : Int) ≤ (l k : Int) := Int.natCast_nonneg _
      have hl1 : (l k : Int) ≤ 1048576 := by omega
      clear ho
      go_wp2_with (go_at_call 32; refine (held_from s hs0 (by omega) _ _ _ _ HL HI).mono ?_; rintro e w' ⟨rfl, hw⟩; rw [hw]; clear hw w')
      go_round
      case rel => exact ⟨k + 1, by omega, by go_num, by rw [HO.out, ← hs.out]; congr 1; omega⟩
      case measure => simp [intOf]; omega
    · have HE : Hid (k = n) := by show k = n; omega
      go_wp2
      go_ret
      exact ⟨by rw [HE.out]; rfl, rfl⟩
set_option maxHeartbeats 2000000 in
set_option maxRecDepth 100000 in
theorem mark_lists (a : Option Addr) (n cap : Nat) (l : Nat → Nat) (Z : Nat → List Int) (C : Nat → Option Addr × Nat) (W : World) (B : Nat) (hn : n ≤ 10) (hz : Hid (∀ k, k < n → (Z k).length = l k)) (hlen : Hid (∀ k, k < n → l k ≤ 1048576)) (h : Hid (MineL W B a n Z C)) :
    Calls Try.prog 15 #[.slice a n cap, .int .i64 1] W fun e W' => e = .returned (.int .i64 (1 + (offs l n : Int))) ∧ MineL W' B a n (marksL l) C ∧ Below B W W' := by
  go_enter Try.func15, Try.ntmps15
  go_wp2
  go_loopw [1, 5] (fun vk vi wr => ∃ k : Nat, k ≤ n ∧ vi = .int .i64 k ∧ vk = .int .i64 (1 + (offs l k : Int)) ∧ Hid (MineL wr B a n (fun j => if j < k then marksL l j else Z j) C) ∧ Hid (Below B W wr)) (fun _ vi _ => n - (intOf vi).toNat)
  case atStart => exact ⟨0, Nat.zero_le _, rfl, rfl, h.out.congr (fun k _ => by rw [if_neg (by omega)]), Below.refl _ _⟩
  case round =>
    obtain ⟨k, hk, rfl, rfl, HM, HB⟩ := hrel
    by_cases hlt : k < n
    · obtain ⟨b, ha, q⟩ : ∃ b, a = some ⟨b, 0, none⟩ ∧ wr.cell? ⟨b, k, none⟩ = some (.slice (C k).1 (l k) (C k).2) := by
        rcases HM.out.top with q | ⟨b, e, _, _, hc, _⟩
        · omega
        · have := hc k hlt
          rw [if_neg (by omega), hz.out k hlt] at this
          exact ⟨b, e, this⟩
      subst ha
      have ho := offs_le l 1048576 k (fun j hj => hlen.out j (by omega))
      have HL := hlen.out k hlt
      have HO : Hid ((offs l (k + 1) : Int) = (offs l k : Int) + (l k : Int)) := by show ((offs l (k + 1) : Nat) : Int) = _; simp [offs]
      have HR : Hid (Mine wr B (C k).1 (Z k)) := by
        have := HM.out.row k hlt
        simp only [if_neg (show ¬ k < k by omega)] at this
        exact this
      have HZ : Hid ((Z k).length = l k) := hz.out k hlt
      obtain ⟨s, hs⟩ : ∃ s : Int, Hid (1 + (offs l k : Int) = s) := ⟨_, rfl⟩
      have hs0 : 0 ≤ s := by have := hs.out; omega
      have hs1 : s ≤ 10485761 := by have := hs.out; omega
      rw [hs.out] at ⊢
      have hl0 : (0 : Int) ≤ (l k : Int) := Int.natCast_nonneg _
      have hl1 : (l k : Int) ≤ 1048576 := by omega
      clear ho
      go_wp2_with fail
      refine (mark_from s hs0 (by omega) _ _ _ (Z k) _ B HZ HL HR).mono ?_
      rintro e w1 ⟨rfl, hm, hO⟩
      have HM1 : Hid (MineL w1 B (some ⟨b, 0, none⟩) n (fun j => if j < k + 1 then marksL l j else Z j) C) := by
        have e1 : (if k < k then marksL l k else Z k) = Z k := if_neg (by omega)
        refine (HM.out.put hlt (zs := upFrom s (l k)) (by rw [upFrom_len, e1, HZ.out]) hm (by rw [e1, HZ.out]; exact hO)).congr (fun j hj => ?_)
        by_cases e : j = k
        · subst e
          rw [if_pos rfl, if_pos (by omega)]
          unfold marksL
          rw [hs.out]
        · rw [if_neg e]
          by_cases e2 : j < k
          · rw [if_pos e2, if_pos (by omega)]
          · rw [if_neg e2, if_neg (by omega)]
      have HB1 : Hid (Below B W w1) := HB.out.trans hO.below
      clear hm hO HM HB
      go_wp2
      go_roundw
      case rel => exact ⟨k + 1, by omega, by go_num, by rw [HO.out, ← hs.out]; congr 1; omega, HM1, HB1⟩
      case measure => simp [intOf]; omega
    · have HE : Hid (k = n) := by show k = n; omega
      go_wp2
      go_ret
      exact ⟨by rw [HE.out]; rfl, HM.out.congr (fun j hj => by rw [if_pos (by have := HE.out; omega)]), HB.out⟩
end Go.Proofs.Ytfmgbalfabpogaa.ints

namespace Go.Proofs.Ytfmgbalfabpogaa.walks
open Go.RowKit Go.Proofs.Ytfmgbalfabpogaa.math Go.Proofs.Ytfmgbalfabpogaa.ints
set_option linter.unusedVariables false
set_option maxRecDepth 100000

theorem lists_info7 : (Try.prog.info? 48).map (fun i => (i.zero, i.size, i.bytes)) = some (some (.slice none 0 0), 1, 24) := by kernel_rfl
theorem info_parts7 {e : TypeId} {z : Value} {a b : Nat} (h : (Try.prog.info? e).map (fun i => (i.zero, i.size, i.bytes)) = some (some z, a, b)) : ∃ i, Try.prog.info? e = some i ∧ i.zero = some z ∧ i.size = a ∧ i.bytes = b := by
  cases hi : Try.prog.info? e with
  | none => rw [hi] at h; cases h
  | some i =>
    rw [hi] at h
    simp at h
    exact ⟨i, rfl, h.1, h.2.1, h.2.2⟩
/-- The value v owns k lists, each in a block of its own, from B on. -/
structure OwnL (w : World) (B : Nat) (v : Value) (k : Nat) (Z : Nat → List Int) (X : Nat → Value) : Prop where
  row : w.ownsRow B 48 1 v k ((List.range k).map X)
  own : ∀ j, j < k → Go.Proofs.Ytfmgbalfabpogaa.ints.Own w B (X j) (Z j)
  ap : ∀ i j, i < k → j < k → i ≠ j → (X i).ownBlock = none ∨ (X i).ownBlock ≠ (X j).ownBlock
theorem ownL_nil (w : World) (B : Nat) (Z : Nat → List Int) (X : Nat → Value) : OwnL w B (.slice none 0 0) 0 Z X := ⟨World.ownsRow_nil _ _ _ _, fun j hj => by omega, fun i j hi => by omega⟩
/-- A row of lists and a list of ints don't lie in one block. -/
theorem rows_apart {w : World} {B B' : Nat} {v u : Value} {k : Nat} {xs : List Value} {zs : List Int} (h : w.ownsRow B 48 1 v k xs) (g : Go.Proofs.Ytfmgbalfabpogaa.ints.Own w B' u zs) : u.ownBlock = none ∨ u.ownBlock ≠ v.ownBlock := by
  rcases g.2 with ⟨rfl, _⟩ | ⟨b, c, cur, rfl, _, hb, _⟩
  · exact Or.inl rfl
  · refine Or.inr fun e => ?_
    rcases h.2 with ⟨rfl, _⟩ | ⟨b', c', cur', rfl, _, hb', _⟩
    · cases e
    · simp [Value.ownBlock] at e
      subst e
      rw [hb] at hb'
      simp at hb'
theorem OwnL.grow {w w' : World} {B : Nat} {v : Value} {k : Nat} {Z : Nat → List Int} {X : Nat → Value} (h : OwnL w B v k Z X) (hb : Below w.heap.size w w') : OwnL w' B v k Z X :=
  ⟨h.row.kept (row := none) ⟨hb.os, hb.tape, hb.output, hb.size, fun i hi _ => hb.block i hi⟩ (by
    cases q : v.ownBlock with
    | none => exact Or.inl rfl
    | some g => exact Or.inr (by simp)), fun j hj => World.ownsRow.kept (h.own j hj) (row := none) ⟨hb.os, hb.tape, hb.output, hb.size, fun i hi _ => hb.block i hi⟩ (by
    cases q : (X j).ownBlock with
    | none => exact Or.inl rfl
    | some g => exact Or.inr (by simp)), h.ap⟩
def addrOf : Value → Option Addr × Nat
  | .slice a _ c => (a, c)
  | _ => (none, 0)
theorem OwnL.mine {w : World} {B : Nat} {v : Value} {k : Nat} {Z : Nat → List Int} {X : Nat → Value} (h : OwnL w B v k Z X) : ∃ a c, v = .slice a k c ∧ MineL w B a k Z (fun j => addrOf (X j)) := by
  have hx : ∀ j, j < k → ∃ a c, X j = .slice a (Z j).length c ∧ Mine w B a (Z j) := fun j hj => (h.own j hj).mine
  have hm : ∀ j, j < k → Mine w B (addrOf (X j)).1 (Z j) := fun j hj => by
    obtain ⟨a, c, e, hm⟩ := hx j hj
    rw [e]; exact hm
  have hap : ∀ i j, i < k → j < k → i ≠ j → 0 < (Z i).length → 0 < (Z j).length → Apart (addrOf (X i)).1 (addrOf (X j)).1 := by
    intro i j hi hj hne _ _ b o b' o' e e' q
    obtain ⟨a, c, e1, _⟩ := hx i hi
    obtain ⟨a', c', e2, _⟩ := hx j hj
    rw [e1] at e
    rw [e2] at e'
    simp only [addrOf] at e e'
    subst e e' q
    have := h.ap i j hi hj hne
    rw [e1, e2] at this
    simp [Value.ownBlock] at this
  rcases h.row.2 with ⟨rfl, hk⟩ | ⟨g, cap, cur, rfl, hg, hw, _, _, _, _⟩
  · subst hk
    exact ⟨none, 0, rfl, Or.inl rfl, hm, hap⟩
  · refine ⟨some ⟨g, 0, none⟩, cap, rfl, Or.inr ⟨g, rfl, hg, (h.row.lt g rfl).2, fun j hj => ?_, fun j hj _ b' o e q => ?_⟩, hm, hap⟩
    · obtain ⟨a, c, e, _⟩ := hx j hj
      rw [h.row.cellAt j (by omega)]
      simp [hj, e, addrOf]
    · subst q
      obtain ⟨a, c, e1, _⟩ := hx j hj
      rw [e1] at e
      simp only [addrOf] at e
      subst e
      have := rows_apart h.row (h.own j hj)
      rw [e1] at this
      simp [Value.ownBlock] at this
def updX (X : Nat → Value) (k : Nat) (v : Value) : Nat → Value := fun j => if j = k then v else X j
theorem range_upd (X : Nat → Value) (k : Nat) (v : Value) : (List.range (k + 1)).map (updX X k v) = (List.range k).map X ++ [v] := by
  rw [List.range_succ, List.map_append]
  congr 1
  · refine List.map_congr_left fun j hj => ?_
    have : j < k := by simpa using hj
    simp [updX, Nat.ne_of_lt this]
  · simp [updX]
theorem new_cell (w : World) (v : Value) (t : TypeId) : ∀ (j : Nat) (u : Value), [v][j]? = some u → (w.alloc (.cells #[v] t)).cell? ((⟨w.heap.size, 0, none⟩ : Addr).add j) = some u := by
  intro j u hj
  match j, hj with
  | 0, hj => simp at hj; subst hj; simp [Addr.add]
/-- One list more. -/
theorem OwnL.snoc {w0 w1 w2 : World} {B B1 : Nat} {v v' u : Value} {k : Nat} {Z : Nat → List Int} {X : Nat → Value} (h : OwnL w0 B v k Z X) (hB : B ≤ w0.heap.size) (hb : Below w0.heap.size w0 w1) (hu : Go.Proofs.Ytfmgbalfabpogaa.ints.Own w1 w0.heap.size u (Z k)) {t : TypeId}
    (h2 : w2.ownsRow B 48 1 v' (k + 1) ((List.range k).map X ++ [u])) (hg : (w1.alloc (.cells #[u] t)).grownBy w2 v.ownBlock) : OwnL w2 B v' (k + 1) Z (updX X k u) := by
  have hw1 := h.grow hb
  refine ⟨by rw [range_upd]; exact h2, fun j hj => ?_, fun i j hi hj hne => ?_⟩
  · by_cases e : j = k
    · subst e
      simp only [updX, if_true]
      have q := rows_apart hw1.row hu
      exact World.ownsRow.kept (World.ownsRow.alloc (ownsRow_base_a hu hB) _) hg q
    · simp only [updX, if_neg e]
      have q := rows_apart hw1.row (hw1.own j (by omega))
      exact World.ownsRow.kept (World.ownsRow.alloc (hw1.own j (by omega)) _) hg q
  · have far : ∀ i, i < k → (X i).ownBlock = none ∨ (X i).ownBlock ≠ u.ownBlock := fun i hi => by
      cases q : (X i).ownBlock with
      | none => exact Or.inl rfl
      | some g =>
        refine Or.inr fun e => ?_
        have h1 := (World.ownsRow.lt (h.own i hi) g q).2
        have h3 := (World.ownsRow.lt hu g e.symm).1
        omega
    by_cases e : i = k
    · subst e
      simp only [updX, if_true, if_neg (Ne.symm hne)]
      rcases far j (by omega) with q | q
      · rw [q]
        cases u.ownBlock with
        | none => exact Or.inl rfl
        | some g => exact Or.inr (by simp)
      · exact Or.inr (Ne.symm q)
    · simp only [updX, if_neg e]
      by_cases e' : j = k
      · subst e'; simp only [if_true]; exact far i (by omega)
      · simp only [if_neg e']; exact h.ap i j (by omega) (by omega) hne
theorem lists_low {w : World} {B B' : Nat} {a : Option Addr} {n : Nat} {Z : Nat → List Int} {C : Nat → Option Addr × Nat} (h : MineL w B a n Z C) (hB : B' ≤ B) : MineL w B' a n Z C := by
  refine ⟨?_, fun k hk => ?_, h.ap⟩
  · rcases h.top with q | ⟨b, e, h0, hl, hc, hn⟩
    · exact Or.inl q
    · exact Or.inr ⟨b, e, Nat.le_trans hB h0, hl, hc, hn⟩
  · rcases h.row k hk with q | ⟨b, o, e, h0, hl, hc⟩
    · exact Or.inl q
    · exact Or.inr ⟨b, o, e, Nat.le_trans hB h0, hl, hc⟩
/-- What the program's StrongLive and PlainLive answer. -/
def LiveAns (p : Bool) (f : Nat → Bv) (n : Nat) (W : World) (e : Ending) (W' : World) : Prop :=
  ((flowB f n = true ∧ ∃ a c C s, e = .returned (.tuple #[.slice a n c, .bool true]) ∧ MineL W' W.heap.size a n (fun k => risingTo (s k) 8) C ∧ FixL p f n s) ∨ (flowB f n = false ∧ e = .returned (.tuple #[.slice none 0 0, .bool false]))) ∧ Below W.heap.size W W'

end Go.Proofs.Ytfmgbalfabpogaa.walks

namespace Go.Proofs.Ytfmgbalfabpogaa.walks
open Go.RowKit Go.Proofs.Ytfmgbalfabpogaa.math Go.Proofs.Ytfmgbalfabpogaa.ints
set_option linter.unusedVariables false
set_option maxRecDepth 100000

/-- The numbers of the dead steps of a block, rising. -/
def deadL (f : Nat → Bv) (s : Ls) (k : Nat) : List Int := risingTo (deadK (f k).zs (f k).len (behindL (f k) s) (f k).len) 64
def DeadAtAns (f : Nat → Bv) (n : Nat) (W : World) (e : Ending) (W' : World) : Prop :=
  ((flowB f n = true ∧ ∃ a c C s, e = .returned (.tuple #[.slice a n c, .bool true]) ∧ MineL W' W.heap.size a n (deadL f s) C ∧ FixL false f n s) ∨ (flowB f n = false ∧ e = .returned (.tuple #[.slice none 0 0, .bool false]))) ∧ Below W.heap.size W W'
set_option maxHeartbeats 4000000 in
theorem impl_deadat (a : Option Addr) (n cap : Nat) (f : Nat → Bv) (W : World) (hn : n ≤ 1048576) (hlen : Hid (∀ k, k < n → (f k).len ≤ 1048576)) (h : Hid (Flow W a n f)) :
    Calls Try.prog 13 #[.slice a n cap] W fun e W' => DeadAtAns f n W e W' := by
  obtain ⟨i0, hi, hz0, hz1, hz2⟩ := info_parts7 lists_info7
  have hnI : (n : Int) ≤ 1048576 := by omega
  go_enter Try.func13, Try.ntmps13
  go_wp2_with fail
  refine (impl_needs_s a n cap f W hn hlen h).mono ?_
  rintro e w1 ⟨(⟨hf, nb, bb, bc, M, s, rfl, hN, hF, A, S, hBk⟩ | ⟨hf, rfl⟩), hB1⟩
  rotate_left
  · have HA : Hid (DeadAtAns f n W (.returned (.tuple #[.slice none 0 0, .bool false])) w1) := ⟨Or.inr ⟨hf, rfl⟩, hB1⟩
    clear hf hB1
    go_wp2
    go_ret2
    exact HA.out
  have HF : Hid (flowB f n = true) := hf
  have HN : Hid (NeedsAt w1 nb bb n bc M s) := hN
  have HX : Hid (FixL false f n s) := hF
  have HBk : Hid (BlocksAt w1 bb n A S f) := hBk
  have HB1 : Hid (Below W.heap.size W w1) := hB1
  have hn8 : n ≤ 8 := (flow_out hf).1.2
  have hn8I : (n : Int) ≤ 8 := by omega
  clear hf hN hF hB1 hBk
  go_wp2
  go_loopw [6, 17] (fun vl vi wr => ∃ (k : Nat) (X : Nat → Value) (v : Value), k ≤ n ∧ vi = .int .i64 k ∧ v = vl ∧ Hid (OwnL wr w1.heap.size v k (deadL f s) X) ∧ Hid (Below w1.heap.size w1 wr)) (fun _ vi _ => n - (intOf vi).toNat)
  case atStart => exact ⟨0, fun _ => .slice none 0 0, _, Nat.zero_le _, rfl, rfl, ownL_nil _ _ _ _, Below.refl _ _⟩
  case round =>
    obtain ⟨k, X, v, hk, rfl, rfl, HO, HB⟩ := hrel
    by_cases hlt : k < n
    · have hWs := HB.out.size
      have HNr : Hid (NeedsAt wr nb bb n bc M s) := HN.out.kept HB.out
      have HBr : Hid (BlocksAt wr bb n A S f) := HBk.out.kept HB.out
      go_wp2_with fail
      refine (impl_deadin nb bb n bc k A S f M s _ HF hlt HBr HNr).mono ?_
      rintro e w2 ⟨db, rfl, hdb, hS2, hB2⟩
      have HO2 : Hid (OwnL w2 w1.heap.size v k (deadL f s) X) := HO.out.grow hB2
      have HB2 : Hid (Below w1.heap.size w1 w2) := HB.out.trans (hB2.mono hWs)
      have HR := impl_rise db _ w2 hS2
      rw [listS_rising] at HR
      change Calls _ _ _ _ fun e w' => RiseAns (deadL f s k) w2 e w' at HR
      have h2s := HB2.out.size
      clear hS2 hB2 hdb HO HB
      go_wp2_with fail
      refine HR.mono ?_
      rintro e w3 ⟨u, rfl, hu, hB3⟩
      clear HR
      obtain ⟨ua, uc, hue, _⟩ := hu.mine
      obtain ⟨ul, hul⟩ : ∃ ul, Hid ((deadL f s k).length = ul) := ⟨_, rfl⟩
      rw [hul.out] at hue
      subst hue
      have HU : Hid (Go.Proofs.Ytfmgbalfabpogaa.ints.Own w3 w2.heap.size (.slice ua ul uc) (deadL f s k)) := hu
      have HB3 : Hid (Below w2.heap.size w2 w3) := hB3
      have HO3 : Hid (OwnL w3 w1.heap.size v k (deadL f s) X) := HO2.out.grow hB3
      have HW3 : Hid (Below w1.heap.size w1 w3) := HB2.out.trans (hB3.mono h2s)
      have hW3s := HW3.out.size
      clear hu hB3
      go_wp2_with (first
        | (at_builtin; refine wpList_append_own _ rfl _ _ 31 rfl w1.heap.size 48 i0 (.slice none 0 0) 1 24 Try.underlying31 hi hz0 hz1 hz2 rfl (by decide) _ k ((List.range k).map X) rfl (World.ownsRow.alloc HO3.out.row _) ⟨w3.heap.size, 0, none⟩ 1 1 [.slice ua ul uc] rfl rfl (new_cell w3 _ _) (by intro q hq; simp at hq; subst hq; rfl) (by unfold maxLen; omega) (by omega) (by simp; omega) ?_)
        | fail)
      intro v4 w4 hown hgrow _
      have HO4 : Hid (OwnL w4 w1.heap.size v4 (k + 1) (deadL f s) (updX X k (.slice ua ul uc))) := HO2.out.snoc (B1 := 0) h2s HB3.out HU.out hown hgrow
      have HB4 : Hid (Below w1.heap.size w1 w4) := (HW3.out.alloc hW3s _).grown hgrow (by simp; omega) (fun j hj => (World.ownsRow.lt HO3.out.row j hj).1)
      clear hown hgrow
      go_wp2
      go_roundw
      case rel => exact ⟨k + 1, _, _, by omega, by go_num, rfl, HO4, HB4⟩
      case measure => simp [intOf]; omega
    · have HE : Hid (k = n) := by show k = n; omega
      obtain ⟨ra, rc, rfl, hM⟩ := HO.out.mine
      have HA : Hid (DeadAtAns f n W (.returned (.tuple #[.slice ra k rc, .bool true])) wr) := ⟨Or.inl ⟨HF.out, ra, rc, _, s, by rw [HE.out], by rw [← HE.out]; exact lists_low hM HB1.out.size, HX.out⟩, HB1.out.trans (HB.out.mono HB1.out.size)⟩
      clear hM
      go_wp2
      go_ret2
      exact HA.out

end Go.Proofs.Ytfmgbalfabpogaa.walks

namespace Go.Proofs.Ytfmgbalfabpogaa.walks
open Go.RowKit Go.Proofs.Ytfmgbalfabpogaa.math Go.Proofs.Ytfmgbalfabpogaa.ints
set_option linter.unusedVariables false
set_option maxRecDepth 100000

theorem step_append_own7 {P : Program} (w : World) {ops : Array Oper} {o : Oper} {a : Act} {K : Act → World → Prop} {Q : Exit → Act → World → Prop} {E : Prop} (hgd : o.guard = none) (s x : Operand) (t : TypeId)
    (ho : o.op = .call { callee := .builtin .append, args := #[s, x], argTypes := #[t, t] })
    (base : Nat) (e : TypeId) (i : TypeInfo) (z : Value) (size bytes : Nat) (ht : P.underlying t = some (.slice e)) (hi : P.info? e = some i) (hz : i.zero = some z)
    (hsize : i.size = size) (hby : i.bytes = bytes) (hzs : z.cells.size = size) (hsz : 0 < size)
    (v : Value) (n : Nat) (xs : List Value) (hs : a.eval s = v) (hown : w.ownsRow base e size v n xs)
    (ad : Addr) (m c : Nat) (news : List Value) (hx : a.eval x = .slice (some ad) m c) (hl : news.length = m * size) (hnews : ∀ j u, news[j]? = some u → w.cell? (ad.add j) = some u) (h1 : ∀ u ∈ news, u.oneCell' = true)
    (h63 : n + m ≤ maxLen) (hbytes : (n + m) * bytes ≤ 140737488355328) (hbase : base ≤ w.heap.size)
    (h : ∀ v' w', w'.ownsRow base e size v' (n + m) (xs ++ news) → w.grownBy w' v.ownBlock → (v' = .slice none 0 0 ↔ v = .slice none 0 0 ∧ m = 0) → K (a.put o.dst v') w') :
    if Region.wanted o (yielded ops a.tmps) = true then Oper.wp P o a w K Q else E := by
  have hw : Region.wanted o (yielded ops a.tmps) = true := by simp [Region.wanted, hgd]
  rw [if_pos hw]
  exact wp_append_own w s x t ho base e i z size bytes ht hi hz hsize hby hzs hsz v n xs hs hown ad m c news hx hl hnews h1 h63 hbytes hbase h
theorem one_slice (a : Option Addr) (l c : Nat) : ∀ u ∈ [Value.slice a l c], u.oneCell' = true := by intro q hq; simp at hq; subst hq; rfl
theorem grown_box {w w' : World} {g : Nat} {row : Option Nat} {v0 v1 v2 v3 : Value} (hg : w.grownBy w' row) (hr : ∀ j, row = some j → j < g) (h : w.cell? ⟨g, 0, none⟩ = some v0 ∧ w.cell? ⟨g, 1, none⟩ = some v1 ∧ w.cell? ⟨g, 2, none⟩ = some v2 ∧ w.cell? ⟨g, 3, none⟩ = some v3) (hl : g < w.heap.size) : w'.cell? ⟨g, 0, none⟩ = some v0 ∧ w'.cell? ⟨g, 1, none⟩ = some v1 ∧ w'.cell? ⟨g, 2, none⟩ = some v2 ∧ w'.cell? ⟨g, 3, none⟩ = some v3 := by
  have hne : some g ≠ row := fun e => by have := hr g e.symm; omega
  exact ⟨hg.cell h.1 (by simpa using hne), hg.cell h.2.1 (by simpa using hne), hg.cell h.2.2.1 (by simpa using hne), hg.cell h.2.2.2 (by simpa using hne)⟩
def DeadsAns (f : Nat → Bv) (n : Nat) (W : World) (e : Ending) (W' : World) : Prop := ∃ a c C s, e = .returned (.slice a n c) ∧ MineL W' W.heap.size a n (deadL f s) C ∧ FixL false f n s ∧ Below W.heap.size W W'
set_option maxHeartbeats 8000000 in
theorem spec_deadat7 (a : Option Addr) (n cap : Nat) (f : Nat → Bv) (W : World) (hf : Hid (flowB f n = true)) (hlen : Hid (∀ k, k < n → (f k).len ≤ 1048576)) (h : Hid (Flow W a n f)) :
    Calls Try.prog 19 #[.slice a n cap] W fun e W' => DeadsAns f n W e W' := by
  obtain ⟨i0, hi, hz0, hz1, hz2⟩ := info_parts7 lists_info7
  have hn8 : n ≤ 8 := (flow_out hf.out).1.2
  have hn8I : (n : Int) ≤ 8 := by omega
  go_enter Try.func19, Try.ntmps19
  go_wp2_with fail
  refine (spec_all7 a n cap f false W hf hlen h).mono ?_
  rintro e w1 ⟨ib, V, s, rfl, hI1, hF1, hB1⟩
  have HI : Hid (InL w1 ib n V s) := hI1
  have HX : Hid (FixL false f n s) := hF1
  have HB1 : Hid (Below W.heap.size W w1) := hB1
  have hw1 := hB1.size
  clear hI1 hF1 hB1
  go_wp2
  go_loopw [4, 11] (fun vl vi wr => ∃ (k : Nat) (X : Nat → Value) (v : Value), k ≤ n ∧ vi = .int .i64 k ∧ v = vl ∧ Hid (OwnL wr w1.heap.size v k (deadL f s) X) ∧ Hid (Below w1.heap.size w1 wr)) (fun _ vi _ => n - (intOf vi).toNat)
  case atStart => exact ⟨0, fun _ => .slice none 0 0, _, Nat.zero_le _, rfl, rfl, ownL_nil _ _ _ _, Below.refl _ _⟩
  case round =>
    obtain ⟨k, X, v, hk, rfl, rfl, HO, HBr⟩ := hrel
    have HB : Hid (Below W.heap.size W wr) := HB1.out.trans (HBr.out.mono hw1)
    by_cases hlt : k < n
    · obtain ⟨b, off, ca, cc, ha, hb, c0, c1, c2, c3, hI, hZ⟩ := flow_at h.out HB.out hlt
      subst ha
      have hblk := (flow_out hf.out).2 k hlt
      simp only [blockB, Bool.and_eq_true] at hblk
      have HC : Hid (∀ j, j < (f k).len → stepB (f k).zs j = true) := (code_out hblk.1.1.1).2
      have hl30 : (f k).len ≤ 30 := (code_out hblk.1.1.1).1
      have ht := inR_out hblk.1.1.2
      have hth := inR_out hblk.1.2
      have hel := inR_out hblk.2
      have HZ : Hid ((f k).zs.length = (f k).len * 5) := hZ
      have HCI : Hid (Ints wr ca (f k).zs) := hI
      have HBD : Hid (∀ i, behindL (f k) s i = ((nextL s (f k).th i || nextL s (f k).el i) || (!((f k).th == (f k).el) && i == (f k).t.toNat))) := fun i => rfl
      have hbs := HBr.out.size
      obtain ⟨bz, hbz⟩ : ∃ bz, Hid (behindL (f k) s = bz) := ⟨_, rfl⟩
      have HDL : Hid (deadL f s k = risingTo (deadK (f k).zs (f k).len bz (f k).len) 64) := by show _ = _; rw [← hbz.out]; rfl
      generalize (f k).zs = zs at HZ HCI HC HDL
      generalize (f k).len = len at c0 HZ HC hl30 HDL
      generalize (f k).t = t at c1 ht HBD
      generalize (f k).th = th at c2 hth HBD
      generalize (f k).el = el at c3 hel HBD
      have HBR : Hid (risingTo (fun i => (nextL s th i || nextL s el i) || (!(th == el) && i == t.toNat)) 8 = risingTo bz 8) := by
        show _ = _
        rw [← hbz.out]
        exact rising_congr 8 (fun i _ => (HBD.out i).symm)
      have Ht : Hid (0 ≤ t ∧ t ≤ 7) := ht
      have Hth : Hid (th < (n : Int)) := by show th < _; omega
      have Hel : Hid (el < (n : Int)) := by show el < _; omega
      clear hI hZ hblk ht hth hel HBD
      go_upto_region 6 with fail
      have HBA : Hid (Below wr.heap.size wr (wr.alloc (.cells #[.slice ca len cc, .int .i64 t, .int .i64 th, .int .i64 el] 44))) := (Below.refl _ _).alloc (Nat.le_refl _) _
      have S0 : (wr.alloc (.cells #[.slice ca len cc, .int .i64 t, .int .i64 th, .int .i64 el] 44)).cell? ⟨wr.heap.size, 0, none⟩ = some (.slice ca len cc) ∧ (wr.alloc (.cells #[.slice ca len cc, .int .i64 t, .int .i64 th, .int .i64 el] 44)).cell? ⟨wr.heap.size, 1, none⟩ = some (.int .i64 t) ∧ (wr.alloc (.cells #[.slice ca len cc, .int .i64 t, .int .i64 th, .int .i64 el] 44)).cell? ⟨wr.heap.size, 2, none⟩ = some (.int .i64 th) ∧ (wr.alloc (.cells #[.slice ca len cc, .int .i64 t, .int .i64 th, .int .i64 el] 44)).cell? ⟨wr.heap.size, 3, none⟩ = some (.int .i64 el) := by simp
      have hgl : wr.heap.size < (wr.alloc (.cells #[.slice ca len cc, .int .i64 t, .int .i64 th, .int .i64 el] 44)).heap.size := by simp
      obtain ⟨W1, hW1⟩ : ∃ W1, Hid (wr.alloc (.cells #[.slice ca len cc, .int .i64 t, .int .i64 th, .int .i64 el] 44) = W1) := ⟨_, rfl⟩
      rw [hW1.out] at HBA S0 hgl ⊢
      have HI1 : Hid (InL W1 ib n V s) := (HI.out.kept HBr.out).kept HBA.out
      have HC1 : Hid (Ints W1 ca zs) := HCI.out.kept HBA.out
      have HO1 : Hid (OwnL W1 w1.heap.size v k (deadL f s) X) := HO.out.grow HBA.out
      have HBW1 : Hid (Below w1.heap.size w1 W1) := HBr.out.trans (HBA.out.mono hbs)
      have hW1s := HBW1.out.size
      have HVB : Hid (∀ j, v.ownBlock = some j → j < wr.heap.size) := fun j hj => (World.ownsRow.lt HO.out.row j hj).2
      obtain ⟨gx, hgx⟩ : ∃ gx, Hid (wr.heap.size = gx) := ⟨_, rfl⟩
      rw [hgx.out] at S0 hgl HVB ⊢
      have SD : W1.drew.cell? ⟨gx, 0, none⟩ = some (.slice ca len cc) ∧ W1.drew.cell? ⟨gx, 1, none⟩ = some (.int .i64 t) ∧ W1.drew.cell? ⟨gx, 2, none⟩ = some (.int .i64 th) ∧ W1.drew.cell? ⟨gx, 3, none⟩ = some (.int .i64 el) := S0
      have hmax : k + 1 ≤ maxLen := by unfold maxLen; omega
      have hby : (k + 1) * 24 ≤ 140737488355328 := by omega
      clear c0 c1 c2 c3
      go_region_held3 (fun w' => w'.cell? ⟨gx, 0, none⟩ = some (.slice ca len cc) ∧ w'.cell? ⟨gx, 1, none⟩ = some (.int .i64 t) ∧ w'.cell? ⟨gx, 2, none⟩ = some (.int .i64 th) ∧ w'.cell? ⟨gx, 3, none⟩ = some (.int .i64 el))
        (first | with_reducible exact SD | with_reducible exact S5 | with_reducible exact S6 | with_reducible exact S6a | with_reducible exact S7 | go_keep)
        (first
          | (go_at_call 39; refine (spec_behind7 ca len cc t th el ib n n V s _ hn8 Ht.out Hth.out Hel.out (HI1.out.kept (Below.refl _ W1).drew)).mono ?_; rw [HBR.out]; rintro e w5 ⟨v5, rfl, hL5, hB5⟩; have S5 := box_kept7 hB5 hgl SD)
          | (go_at_call 38; refine (spec_dead7 ca len cc t th el zs _ bz _ HZ hl30 HC ((HC1.out.kept (Below.refl _ W1).drew).kept hB5) hL5).mono ?_; rw [← HDL.out]; rintro e w6 ⟨v6, rfl, hO6, hB6⟩; have S6 := box_kept7 hB6 (Nat.lt_of_lt_of_le hgl hB5.size) S5; obtain ⟨ua, uc, hue, hMu⟩ := hO6.mine; obtain ⟨ul, hul⟩ : ∃ ul, Hid ((deadL f s k).length = ul) := ⟨_, rfl⟩; rw [hul.out] at hue; subst hue; have BD6 : Below W1.heap.size W1 w6 := (Below.refl _ W1).drew.trans (hB5.trans (hB6.mono hB5.size)); have HU6 : Hid (ints.Own w6 w5.heap.size (.slice ua ul uc) (deadL f s k)) := hO6; have HB56 : Hid (Below w5.heap.size w5 w6) := hB6; have HBD6 : Hid (Below W1.heap.size W1 w6) := BD6; have HOS : Hid ((w6.alloc (.cells #[.slice ua ul uc] 48)).ownsRow w1.heap.size 48 1 v k ((List.range k).map X)) := World.ownsRow.alloc (HO1.out.grow BD6).row _; have hs15 := hB5.size; have hs16 := BD6.size; have hb6 := Nat.le_trans (Nat.le_trans hW1s hs16) ((Below.refl w6.heap.size w6).alloc (Nat.le_refl _) (.cells #[.slice ua ul uc] 48)).size; have hg6 := Nat.lt_of_lt_of_le (Nat.lt_of_lt_of_le hgl hs16) ((Below.refl w6.heap.size w6).alloc (Nat.le_refl _) (.cells #[.slice ua ul uc] 48)).size; have S6a := box_kept7 ((Below.refl _ w6).alloc (Nat.le_refl _) (.cells #[.slice ua ul uc] 48)) (Nat.lt_of_lt_of_le hgl hs16) S6; clear hO6 hMu hL5)
          | (refine step_append_own7 _ (by rfl) _ _ 31 (by rfl) w1.heap.size 48 i0 (.slice none 0 0) 1 24 Try.underlying31 hi hz0 hz1 hz2 rfl (by decide) v k ((List.range k).map X) (by rfl) HOS.out ⟨w6.heap.size, 0, none⟩ 1 1 [.slice ua ul uc] (by rfl) rfl (new_cell w6 _ _) (one_slice _ _ _) hmax hby hb6 ?_; intro v7 w7 hown7 hgrow7 hnil7; have S7 := grown_box hgrow7 (HVB.out) S6a hg6; have HG7 : Hid ((w6.alloc (.cells #[.slice ua ul uc] 48)).grownBy w7 v.ownBlock) := hgrow7; have HW7 : Hid (w7.ownsRow w1.heap.size 48 1 v7 (k + 1) ((List.range k).map X ++ [.slice ua ul uc])) := hown7; clear hown7 hgrow7 hnil7))
      have HO7 : Hid (OwnL w7 w1.heap.size v7 (k + 1) (deadL f s) (updX X k (.slice ua ul uc))) := HO1.out.snoc (B1 := 0) hW1s HBD6.out (ownsRow_base_a HU6.out hs15) HW7.out HG7.out
      have HB7 : Hid (Below w1.heap.size w1 w7) := ((HBW1.out.trans (HBD6.out.mono hW1s)).alloc (Nat.le_trans hW1s hs16) _).grown HG7.out (by simp; omega) (fun j hj => (World.ownsRow.lt HO.out.row j hj).1)
      clear HW7 HG7 HOS HU6 HB56 HBD6 S5 S6 S6a S7 SD S0 hs15 hs16 hb6 hg6 hmax hby
      go_wp2
      go_roundw
      case rel => exact ⟨k + 1, _, v7, by omega, by go_num, rfl, HO7, HB7⟩
      case measure => simp [intOf]; omega
    · have HE : Hid (k = n) := by show k = n; omega
      obtain ⟨ra, rc, rfl, hM⟩ := HO.out.mine
      have HA : Hid (DeadsAns f n W (.returned (.slice ra k rc)) wr) := ⟨ra, rc, _, s, by rw [HE.out], by rw [← HE.out]; exact lists_low hM hw1, HX.out, HB.out⟩
      clear hM
      go_wp2
      go_ret
      exact HA.out

set_option maxHeartbeats 2000000 in
theorem spec_deadat (a : Option Addr) (n cap : Nat) (f : Nat → Bv) (W : World) (hn : n ≤ 1048576) (hlen : Hid (∀ k, k < n → (f k).len ≤ 1048576)) (h : Hid (Flow W a n f)) :
    Calls Try.prog 12 #[.slice a n cap] W fun e W' => DeadAtAns f n W e W' := by
  cases hf : flowB f n
  · have HF : Hid (flowB f n = false) := hf
    go_enter Try.func12, Try.ntmps12
    go_wp2_with fail
    refine (spec_flow _ _ _ f _ hn hlen h).mono ?_
    rw [hf]
    rintro e w1 ⟨rfl, hB⟩
    have HR : Hid (DeadAtAns f n W (.returned (.tuple #[.slice none 0 0, .bool false])) w1) := ⟨Or.inr ⟨hf, rfl⟩, hB⟩
    clear hB hf
    go_wp2
    go_ret2
    exact HR.out
  · have HF : Hid (flowB f n = true) := hf
    go_enter Try.func12, Try.ntmps12
    go_wp2_with fail
    refine (spec_flow _ _ _ f _ hn hlen h).mono ?_
    rw [hf]
    rintro e w1 ⟨rfl, hB⟩
    have HB : Hid (Below W.heap.size W w1) := hB
    have h1 : Hid (Flow w1 a n f) := h.out.kept hB
    clear hB hf
    go_wp2_with fail
    refine (spec_deadat7 _ _ _ f _ HF hlen h1).mono ?_
    rintro e w2 ⟨ra, rc, C, s, rfl, hM, hX, hB2⟩
    have HR : Hid (DeadAtAns f n W (.returned (.tuple #[.slice ra n rc, .bool true])) w2) := ⟨Or.inl ⟨HF.out, ra, rc, C, s, rfl, lists_low hM HB.out.size, hX⟩, HB.out.trans (hB2.mono HB.out.size)⟩
    clear hM hX hB2
    go_wp2
    go_ret2
    exact HR.out
end Go.Proofs.Ytfmgbalfabpogaa.walks

namespace Go.Proofs.Ytfmgbalfabpogaa.walks
open Go.RowKit Go.Proofs.Ytfmgbalfabpogaa.math Go.Proofs.Ytfmgbalfabpogaa.ints Go.Proofs.Ytfmgbalfabpogaa.deep
set_option linter.unusedVariables false
set_option maxRecDepth 100000

theorem lists_lt {w : World} {b n : Nat} {Z : Nat → List Int} (h : Lists w (some ⟨b, 0, none⟩) n Z) (hn : 0 < n) : b < w.heap.size := by
  rcases h with h | ⟨b', e, hl, _⟩
  · omega
  · simp only [Option.some.injEq, Addr.mk.injEq] at e
    rw [e.1]; exact hl
theorem has_of {dz : List Int} {dk : Nat → Bool} (h : dz = risingTo dk 64) : ∀ i : Nat, i < 64 → hasB dz (i : Int) = dk i := by
  intro i hi
  unfold hasB
  rw [h]
  exact has_dead dk hi
theorem dead_list (f : Nat → Bv) (s : Ls) (k : Nat) : deadL f s k = risingTo (deadF7 f s k) 64 := by unfold deadL deadF7; rfl
theorem row5_new (w : World) (T : TypeId) (x0 x1 x2 x3 x4 : Value) : (w.alloc (.cells #[x0, x1, x2, x3, x4] T)).cell? ⟨w.heap.size, 0, none⟩ = some x0 ∧ (w.alloc (.cells #[x0, x1, x2, x3, x4] T)).cell? ⟨w.heap.size, 1, none⟩ = some x1 ∧ (w.alloc (.cells #[x0, x1, x2, x3, x4] T)).cell? ⟨w.heap.size, 2, none⟩ = some x2 ∧ (w.alloc (.cells #[x0, x1, x2, x3, x4] T)).cell? ⟨w.heap.size, 3, none⟩ = some x3 ∧ (w.alloc (.cells #[x0, x1, x2, x3, x4] T)).cell? ⟨w.heap.size, 4, none⟩ = some x4 := by
  refine ⟨?_, ?_, ?_, ?_, ?_⟩ <;> go_simp
set_option maxHeartbeats 16000000 in
theorem spec_dropdead (a : Option Addr) (n cap : Nat) (f : Nat → Bv) (W : World) (hn : n ≤ 1048576) (hlen : Hid (∀ k, k < n → (f k).len ≤ 1048576)) (h : Hid (Flow W a n f)) :
    Calls Try.prog 6 #[.slice a n cap] W fun e W' => DropAns f n W e W' := by
  obtain ⟨i4, hi4, hz4, hz5, hz6⟩ := parts_of block_row
  obtain ⟨i5, hi5, hz7, hz8, hz9⟩ := parts_of Instr_info
  cases hf : flowB f n
  · go_enter Try.func6, Try.ntmps6
    go_wp2_with fail
    refine (spec_flow _ _ _ f _ hn hlen h).mono ?_
    rw [hf]
    rintro e w1 ⟨rfl, hB⟩
    have HA : Hid (DropAns f n W (.returned (.tuple #[.slice none 0 0, .bool false])) w1) := ⟨Or.inr ⟨hf, rfl⟩, hB⟩
    clear hB hf
    go_wp2
    go_ret2
    exact HA.out
  have HF : Hid (flowB f n = true) := hf
  have hn8 : n ≤ 8 := (flow_out hf).1.2
  have hn8I : (n : Int) ≤ 8 := by omega
  go_enter Try.func6, Try.ntmps6
  go_wp2_with fail
  refine (spec_flow _ _ _ f _ hn hlen h).mono ?_
  rw [hf]
  rintro e w0 ⟨rfl, hB⟩
  have HB0 : Hid (Below W.heap.size W w0) := hB
  have hw0 := hB.size
  clear hB hf
  go_wp2_with fail
  refine (spec_deadat7 a n cap f _ HF hlen (h.out.kept HB0.out)).mono ?_
  rintro e w1 ⟨da, dc, C, s, rfl, hM, hX, hB⟩
  have HL : Hid (Lists w1 da n (deadL f s)) := hM.lists
  have HX : Hid (FixL false f n s) := hX
  have HB1 : Hid (Below W.heap.size W w1) := HB0.out.trans (hB.mono hw0)
  have hw1 := HB1.out.size
  clear hM hX hB
  go_wp2
  go_loopw [5, 18] (fun vl vi wr => ∃ (k : Nat) (v : Value), k ≤ n ∧ vi = .int .i64 k ∧ v = vl ∧ Hid (OwnBl wr w1.heap.size v k (dropB f s)) ∧ Hid (Below w1.heap.size w1 wr)) (fun _ vi _ => n - (intOf vi).toNat)
  case atStart => exact ⟨0, _, Nat.zero_le _, rfl, rfl, OwnBl.nil _ _ _, Below.refl _ _⟩
  case round =>
    obtain ⟨k, v, hk, rfl, rfl, HO, HB⟩ := hrel
    obtain ⟨wo, hwo⟩ : ∃ wo, wo = wr := ⟨_, rfl⟩
    subst hwo
    have HBW : Hid (Below W.heap.size W wo) := HB1.out.trans (HB.out.mono hw1)
    by_cases hlt : k < n
    rotate_left
    · have HE : Hid (k = n) := by show k = n; omega
      have HA : Hid (DropAns f n W (.returned (.tuple #[v, .bool true])) wo) := ⟨Or.inl ⟨HF.out, v, s, rfl, by rw [HE.out] at HO; exact ownBl_low HO.out hw1, HX.out⟩, HBW.out⟩
      go_wp2
      go_ret2
      exact HA.out
    have hltI : (k : Int) < (n : Int) := by omega
    obtain ⟨b, off, ca, cc, ha, hb, c0, c1, c2, c3, hI, hZ⟩ := flow_at h.out HBW.out hlt
    subst ha
    have hl30 : (f k).len ≤ 30 := by
      have hblk := (flow_out HF.out).2 k hlt
      simp only [blockB, Bool.and_eq_true] at hblk
      exact (code_out hblk.1.1.1).1
    have HDD : Hid (deadL f s k = risingTo (deadF7 f s k) 64) := dead_list f s k
    have hdl : (deadL f s k).length ≤ 64 := by rw [HDD.out]; exact rising_len _ 64
    have EZ : Hid ((dropB f s k).zs = keepZ (f k).zs (deadF7 f s k) (f k).len ∧ (dropB f s k).len = keepN (deadF7 f s k) (f k).len ∧ (dropB f s k).t = (f k).t ∧ (dropB f s k).th = (f k).th ∧ (dropB f s k).el = (f k).el) := ⟨rfl, rfl, rfl, rfl, rfl⟩
    have hle := keepN_le (deadF7 f s k) (f k).len
    have HZ : Hid ((f k).zs.length = (f k).len * 5) := hZ
    have HI : Hid (Ints wo ca (f k).zs) := hI
    obtain ⟨dl, hdl2⟩ : ∃ dl, Hid ((deadL f s k).length = dl) := ⟨_, rfl⟩
    rw [hdl2.out] at hdl
    obtain ⟨dz, hdz⟩ : ∃ dz, Hid (deadL f s k = dz) := ⟨_, rfl⟩
    rw [hdz.out] at HDD hdl2
    obtain ⟨dk, hdk⟩ : ∃ dk, Hid (deadF7 f s k = dk) := ⟨_, rfl⟩
    rw [hdk.out] at EZ HDD hle
    have HHAS : Hid (∀ i : Nat, i < 64 → hasB dz (i : Int) = dk i) := has_of HDD.out
    generalize (f k).zs = zs at HZ HI EZ
    generalize (f k).len = len at c0 HZ hl30 EZ hle
    generalize (f k).t = t at c1 EZ
    generalize (f k).th = th at c2 EZ
    generalize (f k).el = el at c3 EZ
    clear hI hZ
    have hlenI : (len : Int) ≤ 30 := by omega
    have hbo : b < wo.heap.size := by have := HBW.out.size; omega
    have hwr := HB.out.size
    obtain ⟨W5, hW5⟩ : ∃ W5, Hid ((wo.alloc (.cells #[.slice ca len cc, .int .i64 t, .int .i64 th, .int .i64 el] 44)).alloc (.cells #[.slice none 0 0, .int .i64 t, .int .i64 th, .int .i64 el] 44) = W5) := ⟨_, rfl⟩
    have B5 : Hid (Below wo.heap.size wo W5) := by show Below _ _ _; rw [← hW5.out]; go_grown
    have R5 : Hid (W5.rowIs (wo.heap.size + 1) 44 4 (rowF [.slice none 0 0, .int .i64 t, .int .i64 th, .int .i64 el])) := by
      have q := row_of (wo.alloc (.cells #[.slice ca len cc, .int .i64 t, .int .i64 th, .int .i64 el] 44)) #[.slice none 0 0, .int .i64 t, .int .i64 th, .int .i64 el] 44
      rw [show (wo.alloc (.cells #[.slice ca len cc, .int .i64 t, .int .i64 th, .int .i64 el] 44)).heap.size = wo.heap.size + 1 by simp] at q
      show World.rowIs _ _ _ _ _
      rw [← hW5.out]; exact q
    have hs5 : W5.heap.size = wo.heap.size + 2 := by rw [← hW5.out]; simp
    go_wp2
    rw [hW5.out]
    obtain ⟨gx, hgx⟩ : ∃ gx, Hid (wo.heap.size + 1 = gx) := ⟨_, rfl⟩
    rw [hgx.out] at R5 ⊢
    obtain ⟨lo, hlo⟩ : ∃ lo, Hid (W5.heap.size = lo) := ⟨_, rfl⟩
    have hlg : lo = gx + 1 := by rw [← hlo.out, ← hgx.out, hs5]
    have hwg : wo.heap.size < gx := by rw [← hgx.out]; omega
    clear hs5 c0 c1 c2 c3 hW5
    go_loopw [33] (fun vj wi => ∃ (j : Nat) (vu : Value), j ≤ len ∧ vj = .int .i64 j ∧ Hid (wi.rowIs gx 44 4 (rowF [vu, .int .i64 t, .int .i64 th, .int .i64 el])) ∧ Hid (OwnF wi lo 46 5 vu (keepN dk j) (keepZ zs dk j)) ∧ Hid (Below gx W5 wi)) (fun vj _ => len - (intOf vj).toNat)
    case atStart => exact ⟨0, _, Nat.zero_le _, rfl, R5, ownF_nil _ _ _ _, Below.refl _ _⟩
    case round =>
      obtain ⟨j, vu, hj, rfl, HR, HV, HBi⟩ := hrel
      have HB6 : Hid (Below wo.heap.size wo wr) := B5.out.trans (HBi.out.mono (by omega))
      have hsr := HBi.out.size
      have hlr : lo ≤ wr.heap.size := by rw [← hlo.out]; exact hsr
      obtain ⟨r0, r1, r2, r3, fz⟩ := row4 HR.out
      have hgl : gx < wr.heap.size := HR.out.lt
      have hkn := keepN_le dk j
      obtain ⟨kn, hkn2⟩ : ∃ kn, Hid (keepN dk j = kn) := ⟨_, rfl⟩
      rw [hkn2.out] at HV hkn
      by_cases hjl : j < len
      rotate_left
      · have HE : Hid (j = len) := by show j = len; omega
        obtain ⟨ua, uc, hue, hMu⟩ := HV.out.mine
        subst hue
        have HMu : Hid (Mine wr lo ua (keepZ zs dk j)) := hMu
        clear hMu
        rw [HE.out] at HMu hkn2
        have M4 : Hid (Mine wr wo.heap.size ua (dropB f s k).zs) := by
          show Mine _ _ _ _
          rw [EZ.out.1]
          exact mineF_low HMu.out (by omega)
        obtain ⟨xs, hrow, hgo⟩ := OwnBl.snoc (cc := uc) HO.out HB6.out hwr M4.out (drop_len f s k)
        rw [EZ.out.2.1, EZ.out.2.2.1, EZ.out.2.2.2.1, EZ.out.2.2.2.2, hkn2.out] at hgo
        have HGO : Hid (∀ (o : Obj) (w2 : World) (v' : Value), w2.ownsRow w1.heap.size 44 4 v' (k + 1) (xs ++ [.slice ua kn uc, .int .i64 t, .int .i64 th, .int .i64 el]) → (wr.alloc o).grownBy w2 v.ownBlock → (v'.ownBlock = v.ownBlock ∨ v'.ownBlock = some (wr.alloc o).heap.size) → OwnBl w2 w1.heap.size v' (k + 1) (dropB f s) ∧ ∀ W, Below w1.heap.size W wr → Below w1.heap.size W w2) := hgo
        have HROW : Hid (wr.ownsRow w1.heap.size 44 4 v k xs) := hrow
        have BW4 : Hid (Below w1.heap.size w1 wr) := HB.out.trans (HB6.out.mono hwr)
        have h4s := BW4.out.size
        have hjI : (len : Int) ≤ (j : Int) := by omega
        clear hgo hrow hjl hlg hwg hlr hsr hwr hkn hle hl30 hb hbo hdl hw1 hw0 hlenI fz hj HV HMu HR HBi EZ HX HHAS HDD hdk hdz hdl2 HZ HI HL HF
        go_wp2_with (first
          | (at_builtin; refine wpList_append_own_at _ rfl _ _ 24 rfl w1.heap.size 44 i4 _ 4 48 Try.underlying24 hi4 hz4 hz5 hz6 rfl (by decide) _ _ xs rfl (World.ownsRow.alloc HROW.out _) ⟨wr.heap.size, 0, none⟩ 1 1 [.slice ua kn uc, .int .i64 t, .int .i64 th, .int .i64 el] rfl rfl (news_vals wr [.slice ua kn uc, .int .i64 t, .int .i64 th, .int .i64 el] _) (news_four _ _ _ _ _ _) (by unfold maxLen; omega) (by omega) (by simp; omega) ?_))
        intro v5 w5 hown hgrow _ hob
        obtain ⟨q1, q2⟩ := HGO.out _ w5 v5 hown hgrow (by simpa using hob)
        have H1 : Hid (OwnBl w5 w1.heap.size v5 (k + 1) (dropB f s)) := q1
        have H2 : Hid (Below w1.heap.size w1 w5) := q2 _ BW4.out
        clear q1 q2 hown hgrow hob HGO HROW
        go_wp2
        go_roundw
        case rel => exact ⟨k + 1, v5, by omega, by go_num, rfl, H1, H2⟩
        case measure => simp [intOf]; omega
      have hjI : (j : Int) < (len : Int) := by omega
      obtain ⟨bi, oi, hai, hbi, c0, c1, c2, c3, c4⟩ := Instr_at HI.out HZ.out HB6.out hjl
      subst hai
      obtain ⟨db, dca, dcc, hda, hdc6, hdi⟩ := HL.out.at (HB.out.trans (HB6.out.mono hwr)) hlt
      subst hda
      have hdbl : db < wr.heap.size := by
        have q1 := lists_lt HL.out (by omega)
        have q2 := (HB.out.trans (HB6.out.mono hwr)).size
        omega
      rw [hdz.out, hdl2.out] at hdc6
      rw [hdz.out] at hdi
      have HDI : Hid (Ints wr dca dz) := hdi
      clear hdi
      have HS0 : Hid ((dk j = false → keepZ zs dk (j + 1) = keepZ zs dk j ++ [zs.getD (j * 5) 0, zs.getD (j * 5 + 1) 0, zs.getD (j * 5 + 2) 0, zs.getD (j * 5 + 3) 0, zs.getD (j * 5 + 4) 0] ∧ keepN dk (j + 1) = keepN dk j + 1)) := fun q => keep_no q
      obtain ⟨x0, e0⟩ : ∃ x, Hid (zs.getD (j * 5) 0 = x) := ⟨_, rfl⟩
      obtain ⟨x1, e1⟩ : ∃ x, Hid (zs.getD (j * 5 + 1) 0 = x) := ⟨_, rfl⟩
      obtain ⟨x2, e2⟩ : ∃ x, Hid (zs.getD (j * 5 + 2) 0 = x) := ⟨_, rfl⟩
      obtain ⟨x3, e3⟩ : ∃ x, Hid (zs.getD (j * 5 + 3) 0 = x) := ⟨_, rfl⟩
      obtain ⟨x4, e4⟩ : ∃ x, Hid (zs.getD (j * 5 + 4) 0 = x) := ⟨_, rfl⟩
      rw [e0.out] at c0 HS0
      rw [e1.out] at c1 HS0
      rw [e2.out] at c2 HS0
      rw [e3.out] at c3 HS0
      rw [e4.out] at c4 HS0
      have BA : Hid (Below wr.heap.size wr (wr.alloc (.cells #[.int .i64 x0, .int .i64 x1, .int .i64 x2, .int .i64 x3, .int .i64 x4] 46))) := (Below.refl _ _).alloc (Nat.le_refl _) _
      have HDI6 : Hid (Ints (wr.alloc (.cells #[.int .i64 x0, .int .i64 x1, .int .i64 x2, .int .i64 x3, .int .i64 x4] 46)) dca dz) := HDI.out.kept BA.out
      have hdl3 : dl ≤ 1048576 := by omega
      have HHJ : Hid (hasB dz (j : Int) = dk j) := HHAS.out j (by omega)
      have hB6s := HB6.out.size
      have HVK : Hid (∀ (w : World), Below wr.heap.size wr w → OwnF w lo 46 5 vu kn (keepZ zs dk j)) := fun w q => HV.out.kept q
      have HRK : Hid (∀ (w : World), Below wr.heap.size wr w → w.rowIs gx 44 4 (rowF [vu, .int .i64 t, .int .i64 th, .int .i64 el])) := fun w q => HR.out.of_block (q.block _ hgl)
      have HBK : Hid (∀ (w : World), Below wr.heap.size wr w → Below gx W5 w) := fun w q => HBi.out.trans (q.mono (by omega))
      clear HHAS EZ HX HDI HDD hdk hdz HL HF HO HZ HI HV HR HBi HB HBW HB1 HB0 h hw1 hw0 hwr hb hbo hbi hwg hle hl30 hlen
      cases hdj : dk j
      · have HS : Hid (keepZ zs dk (j + 1) = keepZ zs dk j ++ [x0, x1, x2, x3, x4] ∧ keepN dk (j + 1) = kn + 1) := by rw [← hkn2.out]; exact HS0.out hdj
        clear HS0 e0 e1 e2 e3 e4
        rw [hdj] at HHJ
        go_wp2_with (first
          | (go_at_call 20; refine (spec_has dca dl dcc dz (j : Int) _ hdl2 hdl3 HDI6).mono ?_; rw [HHJ.out]; rintro e w2 ⟨rfl, hw2⟩; have BX : Hid (Below wr.heap.size wr w2) := (by show Below _ _ _; rw [hw2]; exact BA.out); have d0 : w2.cell? ⟨wr.heap.size, 0, none⟩ = some (.int .i64 x0) := (by rw [hw2]; exact (row5_new _ _ _ _ _ _ _).1); have d1 : w2.cell? ⟨wr.heap.size, 1, none⟩ = some (.int .i64 x1) := (by rw [hw2]; exact (row5_new _ _ _ _ _ _ _).2.1); have d2 : w2.cell? ⟨wr.heap.size, 2, none⟩ = some (.int .i64 x2) := (by rw [hw2]; exact (row5_new _ _ _ _ _ _ _).2.2.1); have d3 : w2.cell? ⟨wr.heap.size, 3, none⟩ = some (.int .i64 x3) := (by rw [hw2]; exact (row5_new _ _ _ _ _ _ _).2.2.2.1); have d4 : w2.cell? ⟨wr.heap.size, 4, none⟩ = some (.int .i64 x4) := (by rw [hw2]; exact (row5_new _ _ _ _ _ _ _).2.2.2.2); clear hw2; have HV2 : Hid (OwnF w2 lo 46 5 vu kn (keepZ zs dk j)) := HVK.out w2 BX.out; have HR2 : Hid (w2.rowIs gx 44 4 (rowF [vu, .int .i64 t, .int .i64 th, .int .i64 el])) := HRK.out w2 BX.out; have HB2 : Hid (Below gx W5 w2) := HBK.out w2 BX.out; have r02 := (row4 HR2.out).1; have hs2 := BX.out.size)
          | (at_builtin; refine wpList_append_own _ rfl _ _ 42 rfl lo 46 i5 _ 5 40 Try.underlying42 hi5 hz7 hz8 hz9 rfl (by decide) _ _ _ rfl (World.ownsRow.alloc HV2.out _) ⟨w2.heap.size, 0, none⟩ 1 1 ([x0, x1, x2, x3, x4].map (Value.int .i64)) rfl ?c1 ?c2 ?c3 ?c4 ?c5 ?c6 ?_))
        case c1 => rfl
        case c2 => exact news_cells w2 [x0, x1, x2, x3, x4] _
        case c3 => exact news_one _
        case c4 => unfold maxLen; omega
        case c5 => omega
        case c6 => simp; omega
        intro v' w4 hown' hgrow _
        obtain ⟨q1, q2, _⟩ := OwnF.snoc (W := w2) (zs := [x0, x1, x2, x3, x4]) HV2.out (by omega) ((Below.refl _ _).mono (by omega)) (by rw [hlg]; exact hown') hgrow
        have H1 : Hid (OwnF w4 lo 46 5 v' (keepN dk (j + 1)) (keepZ zs dk (j + 1))) := by
          show OwnF _ _ _ _ _ _ _
          rw [HS.out.1, HS.out.2]; exact q1
        have H2 : Hid (Below lo w2 w4) := q2
        have R4 : Hid (w4.rowIs gx 44 4 (rowF [vu, .int .i64 t, .int .i64 th, .int .i64 el])) := HR2.out.of_block (q2.block _ (by omega))
        have B4 : Hid (Below gx W5 w4) := HB2.out.trans (q2.mono (by omega))
        obtain ⟨ua, uc, hue, -⟩ := q1.mine
        subst hue
        have hg4 : gx < w4.heap.size := R4.out.lt
        have fz4 : w4.frozen? ⟨gx, 0, none⟩ = false := R4.out.frozen 0
        have rz4 := (row4 R4.out).1
        clear q1 q2 hown' hgrow
        go_wp2
        go_roundw
        case rel =>
          refine ⟨j + 1, _, by omega, by go_num, ?_, H1.out.put _ (by show gx < lo; omega), B4.out.setCell (Nat.le_refl _) _⟩
          exact row4_put R4.out _
        case measure => simp [intOf]; omega
      · have HS : Hid (keepZ zs dk (j + 1) = keepZ zs dk j ∧ keepN dk (j + 1) = kn) := by rw [← hkn2.out]; exact keep_yes hdj
        clear HS0 e0 e1 e2 e3 e4
        rw [hdj] at HHJ
        go_wp2_with (first
          | (go_at_call 20; refine (spec_has dca dl dcc dz (j : Int) _ hdl2 hdl3 HDI6).mono ?_; rw [HHJ.out]; rintro e w2 ⟨rfl, hw2⟩; have BX : Hid (Below wr.heap.size wr w2) := (by show Below _ _ _; rw [hw2]; exact BA.out); clear hw2))
        have H1 : Hid (OwnF w2 lo 46 5 vu (keepN dk (j + 1)) (keepZ zs dk (j + 1))) := by
          show OwnF _ _ _ _ _ _ _
          rw [HS.out.1, HS.out.2]; exact HVK.out w2 BX.out
        go_roundw
        case rel => exact ⟨j + 1, vu, by omega, by go_num, HRK.out w2 BX.out, H1, HBK.out w2 BX.out⟩
        case measure => simp [intOf]; omega
end Go.Proofs.Ytfmgbalfabpogaa.walks

namespace Go.Proofs.Ytfmgbalfabpogaa.fnExactDropDead
open Go.ChangeShapes Go.WideShapes Go.ChangeAt Go.RowKit
open Go.ChangeMaps (open_string shut_string)
open Go.Proofs.Ytfmgbalfabpogaa.math
open Go.Proofs.Ytfmgbalfabpogaa.ints
open Go.Proofs.Ytfmgbalfabpogaa.deep
open Go.Proofs.Ytfmgbalfabpogaa.walks
open Go.Proofs.Ytfmgbalfabpogaa.deep
set_option linter.unusedVariables false

theorem own : ownKnob Try.prog.godebug = none := by kernel_rfl
theorem laidOut : laidOutB Try.prog = true := by kernel_rfl

theorem fix_from {p : Bool} {f : Nat → Bv} {n : Nat} (hf : flowB f n = true) : ∀ (m : Nat) (s : Ls), UpL p f n s → 65 ≤ sumL s n + m → ∃ t, FixL p f n t
  | 0, s, _, h => by have := sum_64 hf s; omega
  | m + 1, s, hu, h => by
    by_cases q : ∃ k, k < n ∧ cntL (s k) < cntL (aheadL p f s k)
    · obtain ⟨k, hk, q⟩ := q
      have h2 := sumL_less (upd_le hu hk) hk (by rw [updL_same]; exact q)
      exact fix_from hf m _ (up_step hf hu hk) (by omega)
    · exact ⟨s, hu, fun k hk i => (step_still hf hu hk (Nat.le_of_not_lt fun r => q ⟨k, hk, r⟩)).1 i⟩
theorem drop_same {n k : Nat} {f : Nat → Bv} {s s' : Ls} (hf : flowB f n = true) (hk : k < n) (h : SameL n s s') : dropB f s k = dropB f s' k := by
  have hb := (flow_out hf).2 k hk
  simp only [blockB, Bool.and_eq_true] at hb
  have h1 := inR_out hb.1.2
  have h2 := inR_out hb.2
  have e : behindL (f k) s = behindL (f k) s' := by
    funext i
    cases q : behindL (f k) s i
    · cases q' : behindL (f k) s' i
      · rfl
      · rw [behind_mono h.symm.le (by omega) (by omega) q'] at q; cases q
    · exact (behind_mono h.le (by omega) (by omega) q).symm
  unfold dropB deadF7
  rw [e]
theorem dB_congr {f g : Nat → Bv} {n : Nat} (h : ∀ k, k < n → f k = g k) (i : Nat) (hi : i < n * 4) : dB f i = dB g i := by
  unfold dB
  rw [h (i / 4) (by omega)]
def SpecTells (l0 : Nat) (cs0 : Nat → Dv) (lr0 : Nat) (csr0 : Nat → Dv) (xr1 : Bool) : Prop := ∀ (W : World) (a0 : Option Addr) (cap0 : Nat), Holds W true (.l l0 4 cs0) (.slice a0 l0 cap0) → Calls Try.prog 6 #[.slice a0 l0 cap0] W fun e W' => ∃ g0 d0, e = .returned (.tuple #[.slice g0 lr0 d0, .bool xr1]) ∧ Holds W' false (.l lr0 4 csr0) (.slice g0 lr0 d0) ∧ Below W.heap.size W W'
def ImplTells (l0 : Nat) (cs0 : Nat → Dv) (lr0 : Nat) (csr0 : Nat → Dv) (xr1 : Bool) : Prop := ∀ (W : World) (a0 : Option Addr) (cap0 : Nat), Holds W true (.l l0 4 cs0) (.slice a0 l0 cap0) → Calls Try.prog 8 #[.slice a0 l0 cap0] W fun e W' => ∃ (g0 : Option Addr) (d0 : Nat) (F0 : Nat → Prop), e = .returned (.tuple #[.slice g0 lr0 d0, .bool xr1]) ∧ Owns W' false W.heap.size (.l lr0 4 csr0) (.slice g0 lr0 d0) F0 ∧ (∀ x, F0 x → W.heap.size ≤ x ∧ x < W'.heap.size) ∧ Below W.heap.size W W'
set_option maxHeartbeats 16000000 in
set_option maxRecDepth 100000 in
theorem walk_of (a0 : Option Addr) (cap0 : Nat) (l0 : Nat) (cs0 : Nat → Dv) (lr0 : Nat) (csr0 : Nat → Dv) (xr1 : Bool) (w : World) (hf0 : Hid (Fits shBlockS (.l l0 4 cs0))) (hn0 : Hid (Lens (.l l0 4 cs0))) (h0 : Hid (Holds w false (.l l0 4 cs0) (.slice a0 l0 cap0))) (hfr0 : Hid (Fits shBlockS (.l lr0 4 csr0))) (hsx0 : Hid (szD (.l lr0 4 csr0) ≤ 100000)) (Hs : Hid (szD (.l l0 4 cs0) ≤ 1048576 → SpecTells l0 cs0 lr0 csr0 xr1)) (Hi : Hid (szD (.l l0 4 cs0) ≤ 1048576 → ImplTells l0 cs0 lr0 csr0 xr1)) :
    Calls Try.prog 3 #[.slice a0 l0 cap0] w fun e w' => e = .returned (.bool true) ∧ Below w.heap.size w w' := by
  have hsr0 : Hid (szD (.l lr0 4 csr0) ≤ 1048576) := Nat.le_trans hsx0.out (by decide)
  have pe1 : (xr1 != xr1) = false := by cases xr1 <;> rfl
  go_enter Try.func3, Try.ntmps3
  obtain ⟨z0, HZ0⟩ : ∃ z, Hid (szD (.l l0 4 cs0) = z) := ⟨_, rfl⟩
  go_wp2_with fail
  refine (BlockS_size _ _ _ cs0 (1048576) false _ hf0 hn0 h0 (by omega) (by omega)).mono ?_
  rw [HZ0.out]
  rintro e w1 ⟨rfl, hB⟩
  have BW1 : Hid (Below w.heap.size w w1) := hB
  have SZ1 : Hid (w.heap.size ≤ w1.heap.size) := hB.size
  clear hB
  by_cases ok0 : (z0 : Int) ≤ 1048576
  rotate_left
  · rw [if_neg ok0]
    go_wp2
    go_ret
    exact ⟨rfl, BW1.out⟩
  rw [if_pos ok0]
  have left0 : 0 ≤ 1048576 - ((z0 : Int)) := by omega
  have hs0 : Hid (szD (.l l0 4 cs0) ≤ 1048576) := by show _ ≤ _; rw [HZ0.out]; omega
  have HS : Hid (SpecTells l0 cs0 lr0 csr0 xr1) := Hs.out hs0.out
  have HI : Hid (ImplTells l0 cs0 lr0 csr0 xr1) := Hi.out hs0.out
  clear Hs Hi
  go_wp2_with fail
  refine (BlockS_to _ _ _ cs0 false _ hf0 hs0 (h0.out.kept BW1.out)).mono ?_
  rintro e w2 ⟨rfl, hO, hB⟩
  have A0_2 : Hid (Owns w2 true w1.heap.size (.l l0 4 cs0) (.slice (some ⟨w1.heap.size, 0, none⟩) l0 l0) (rng w1.heap.size w2.heap.size)) := hO
  have BW2 : Hid (Below w.heap.size w w2) := BW1.out.trans (hB.mono BW1.out.size)
  have SZ2 : Hid (w1.heap.size ≤ w2.heap.size) := hB.size
  clear hO hB
  go_wp2_with fail
  refine (HS.out _ _ _ A0_2.out.holds).mono ?_
  rintro e w3 ⟨sa0, sc0, rfl, hS0, hB⟩
  have S0 : Hid (Holds w3 false (.l lr0 4 csr0) (.slice sa0 lr0 sc0)) := hS0
  have BW3 : Hid (Below w.heap.size w w3) := BW2.out.trans (hB.mono BW2.out.size)
  have SZ3 : Hid (w2.heap.size ≤ w3.heap.size) := hB.size
  clear hB hS0
  go_wp2_with fail
  refine (BlockS_to _ _ _ cs0 false _ hf0 hs0 (h0.out.kept BW3.out)).mono ?_
  rintro e w4 ⟨rfl, hO, hB⟩
  have X0_4 : Hid (Owns w4 true w3.heap.size (.l l0 4 cs0) (.slice (some ⟨w3.heap.size, 0, none⟩) l0 l0) (rng w3.heap.size w4.heap.size)) := hO
  have BW4 : Hid (Below w.heap.size w w4) := BW3.out.trans (hB.mono BW3.out.size)
  have SZ4 : Hid (w3.heap.size ≤ w4.heap.size) := hB.size
  have BS4 : Hid (Below w3.heap.size w3 w4) := hB
  clear hO hB
  go_wp2_with fail
  refine (HI.out _ _ _ X0_4.out.holds).mono ?_
  rintro e w5 ⟨ga0, gc0, gP0, rfl, hO0, hF0, hB⟩
  have G0_5 : Hid (Owns w5 false w4.heap.size (.l lr0 4 csr0) (.slice ga0 lr0 gc0) gP0) := hO0
  have GF0 : Hid (∀ x, gP0 x → w4.heap.size ≤ x ∧ x < w5.heap.size) := hF0
  have BW5 : Hid (Below w.heap.size w w5) := BW4.out.trans (hB.mono BW4.out.size)
  have SZ5 : Hid (w4.heap.size ≤ w5.heap.size) := hB.size
  have BS5 : Hid (Below w3.heap.size w3 w5) := BS4.out.trans (hB.mono BS4.out.size)
  have X0_5 : Hid (Owns w5 true w3.heap.size (.l l0 4 cs0) (.slice (some ⟨w3.heap.size, 0, none⟩) l0 l0) (rng w3.heap.size w4.heap.size)) := X0_4.out.kept hB
  clear hB hO0 hF0
  go_wp2_with fail
  refine (BlockS_eq _ _ _ _ _ csr0 _ _ _ hfr0 hsr0 G0_5.out.holds (S0.out.kept BS5.out)).mono ?_
  rintro e w6 ⟨rfl, hB⟩
  have BW6 : Hid (Below w.heap.size w w6) := BW5.out.trans (hB.mono BW5.out.size)
  have SZ6 : Hid (w5.heap.size ≤ w6.heap.size) := hB.size
  have BS6 : Hid (Below w3.heap.size w3 w6) := BS5.out.trans (hB.mono BS5.out.size)
  have X0_6 : Hid (Owns w6 true w3.heap.size (.l l0 4 cs0) (.slice (some ⟨w3.heap.size, 0, none⟩) l0 l0) (rng w3.heap.size w4.heap.size)) := X0_5.out.kept hB
  have G0_6 : Hid (Owns w6 false w4.heap.size (.l lr0 4 csr0) (.slice ga0 lr0 gc0) gP0) := G0_5.out.kept hB
  clear hB
  go_wp2_with fail
  refine (BlockS_to _ _ _ cs0 false _ hf0 hs0 (h0.out.kept BW6.out)).mono ?_
  rintro e w7 ⟨rfl, hO, hB⟩
  have Z0_7 : Hid (Owns w7 true w6.heap.size (.l l0 4 cs0) (.slice (some ⟨w6.heap.size, 0, none⟩) l0 l0) (rng w6.heap.size w7.heap.size)) := hO
  have BW7 : Hid (Below w.heap.size w w7) := BW6.out.trans (hB.mono BW6.out.size)
  have SZ7 : Hid (w6.heap.size ≤ w7.heap.size) := hB.size
  have BS7 : Hid (Below w3.heap.size w3 w7) := BS6.out.trans (hB.mono BS6.out.size)
  have X0_7 : Hid (Owns w7 true w3.heap.size (.l l0 4 cs0) (.slice (some ⟨w3.heap.size, 0, none⟩) l0 l0) (rng w3.heap.size w4.heap.size)) := X0_6.out.kept hB
  have G0_7 : Hid (Owns w7 false w4.heap.size (.l lr0 4 csr0) (.slice ga0 lr0 gc0) gP0) := G0_6.out.kept hB
  clear hO hB
  go_wp2_with fail
  refine (BlockS_eq _ _ _ _ _ cs0 _ _ _ hf0 hs0 X0_7.out.holds Z0_7.out.holds).mono ?_
  rintro e w8 ⟨rfl, hB⟩
  have BW8 : Hid (Below w.heap.size w w8) := BW7.out.trans (hB.mono BW7.out.size)
  have SZ8 : Hid (w7.heap.size ≤ w8.heap.size) := hB.size
  have BS8 : Hid (Below w3.heap.size w3 w8) := BS7.out.trans (hB.mono BS7.out.size)
  have X0_8 : Hid (Owns w8 true w3.heap.size (.l l0 4 cs0) (.slice (some ⟨w3.heap.size, 0, none⟩) l0 l0) (rng w3.heap.size w4.heap.size)) := X0_7.out.kept hB
  have G0_8 : Hid (Owns w8 false w4.heap.size (.l lr0 4 csr0) (.slice ga0 lr0 gc0) gP0) := G0_7.out.kept hB
  have Z0_8 : Hid (Owns w8 true w6.heap.size (.l l0 4 cs0) (.slice (some ⟨w6.heap.size, 0, none⟩) l0 l0) (rng w6.heap.size w7.heap.size)) := Z0_7.out.kept hB
  clear hB
  have hcn0 := cnt_le thin_BlockS hf0.out
  obtain ⟨N0, HN0⟩ : ∃ N, Hid (cntD (.l l0 4 cs0) = N) := ⟨_, rfl⟩
  have hN0 : N0 ≤ 8388609 := by have q := hs0.out; rw [HN0.out] at hcn0; omega
  clear hcn0
  go_wp2_with fail
  refine (BlockS_mark (1) (by omega) (by omega) _ _ _ cs0 true _ _ _ hf0 hs0 X0_8).mono ?_
  rw [HN0.out]
  rintro e w9 ⟨rfl, _, hF⟩
  have hB : Below w3.heap.size w8 w9 := hF.below (by have q4 := SZ4.out; have q5 := SZ5.out; have q6 := SZ6.out; have q7 := SZ7.out; have q8 := SZ8.out; omega) (fun x hx => hx.1)
  have BW9 : Hid (Below w.heap.size w w9) := BW8.out.trans (hB.mono BW3.out.size)
  have SZ9 : Hid (w8.heap.size ≤ w9.heap.size) := hB.size
  have BS9 : Hid (Below w3.heap.size w3 w9) := BS8.out.trans (hB.mono (Nat.le_refl _))
  have G0_9 : Hid (Owns w9 false w4.heap.size (.l lr0 4 csr0) (.slice ga0 lr0 gc0) gP0) := hF.owns (fun x hx hy => by have r1 := (GF0.out x hx).1; have r2 := hy.2;  omega) G0_8.out
  clear hF hB
  have hk : (0 : Int) ≤ 1 + (N0 : Int) := by omega
  go_wp2_with fail
  refine (BlockS_eq _ _ _ _ _ csr0 _ _ _ hfr0 hsr0 G0_9.out.holds (S0.out.kept BS9.out)).mono ?_
  rintro e w10 ⟨rfl, hB⟩
  have BW10 : Hid (Below w.heap.size w w10) := BW9.out.trans (hB.mono BW9.out.size)
  have SZ10 : Hid (w9.heap.size ≤ w10.heap.size) := hB.size
  have BS10 : Hid (Below w3.heap.size w3 w10) := BS9.out.trans (hB.mono BS9.out.size)
  have G0_10 : Hid (Owns w10 false w4.heap.size (.l lr0 4 csr0) (.slice ga0 lr0 gc0) gP0) := G0_9.out.kept hB
  clear hB
  have hcnr0 := cnt_le thin_BlockS hfr0.out
  obtain ⟨M0, HM0⟩ : ∃ N, Hid (cntD (.l lr0 4 csr0) = N) := ⟨_, rfl⟩
  have hM0 : M0 ≤ 800001 := by have q := hsx0.out; rw [HM0.out] at hcnr0; omega
  clear hcnr0
  go_wp2_with fail
  refine (BlockS_mark (1) (by omega) (by omega) _ _ _ csr0 false _ _ _ hfr0 hsr0 G0_10).mono ?_
  rw [HM0.out]
  rintro e w11 ⟨rfl, hO0, hF⟩
  have hB : Below w4.heap.size w10 w11 := hF.below (by have q5 := SZ5.out; have q6 := SZ6.out; have q7 := SZ7.out; have q8 := SZ8.out; have q9 := SZ9.out; have q10 := SZ10.out; omega) (fun x hx => (GF0.out x hx).1)
  have BW11 : Hid (Below w.heap.size w w11) := BW10.out.trans (hB.mono BW4.out.size)
  have SZ11 : Hid (w10.heap.size ≤ w11.heap.size) := hB.size
  have BS11 : Hid (Below w3.heap.size w3 w11) := BS10.out.trans (hB.mono BS4.out.size)
  have G0_11 : Hid (Owns w11 false w4.heap.size (mkD (1) (.l lr0 4 csr0)) (.slice ga0 lr0 gc0) gP0) := hO0
  clear hF hB hO0
  have hm : (0 : Int) ≤ 1 + (M0 : Int) := by omega
  go_wp2_with fail
  refine (BlockS_held (1) (by omega) _ _ _ csr0 false _ hfr0 hsr0 (by rw [HM0.out]; omega) G0_11.out.holds).mono ?_
  rintro e w' ⟨rfl, hw⟩
  rw [hw, HM0.out]
  clear hw w'
  have hq11_0 : (0 : Int) ≤ 1 + (M0 : Int) := by omega
  go_wp2_with fail
  refine (BlockS_to _ _ _ cs0 false _ hf0 hs0 (h0.out.kept BW11.out)).mono ?_
  rintro e w12 ⟨rfl, hO, hB⟩
  have C0_12 : Hid (Owns w12 true w11.heap.size (.l l0 4 cs0) (.slice (some ⟨w11.heap.size, 0, none⟩) l0 l0) (rng w11.heap.size w12.heap.size)) := hO
  have BW12 : Hid (Below w.heap.size w w12) := BW11.out.trans (hB.mono BW11.out.size)
  have SZ12 : Hid (w11.heap.size ≤ w12.heap.size) := hB.size
  have BS12 : Hid (Below w3.heap.size w3 w12) := BS11.out.trans (hB.mono BS11.out.size)
  have G0_12 : Hid (Owns w12 false w4.heap.size (mkD (1) (.l lr0 4 csr0)) (.slice ga0 lr0 gc0) gP0) := G0_11.out.kept hB
  clear hO hB
  go_wp2_with fail
  refine (HI.out _ _ _ C0_12.out.holds).mono ?_
  rintro e w13 ⟨ha0, hc0, hP0, rfl, hO0, hF0, hB⟩
  have H0_13 : Hid (Owns w13 false w12.heap.size (.l lr0 4 csr0) (.slice ha0 lr0 hc0) hP0) := hO0
  have HF0 : Hid (∀ x, hP0 x → w12.heap.size ≤ x ∧ x < w13.heap.size) := hF0
  have BW13 : Hid (Below w.heap.size w w13) := BW12.out.trans (hB.mono BW12.out.size)
  have SZ13 : Hid (w12.heap.size ≤ w13.heap.size) := hB.size
  have BS13 : Hid (Below w3.heap.size w3 w13) := BS12.out.trans (hB.mono BS12.out.size)
  have G0_13 : Hid (Owns w13 false w4.heap.size (mkD (1) (.l lr0 4 csr0)) (.slice ga0 lr0 gc0) gP0) := G0_12.out.kept hB
  have C0_13 : Hid (Owns w13 true w11.heap.size (.l l0 4 cs0) (.slice (some ⟨w11.heap.size, 0, none⟩) l0 l0) (rng w11.heap.size w12.heap.size)) := C0_12.out.kept hB
  clear hB hO0 hF0
  go_wp2_with fail
  refine (BlockS_eq _ _ _ _ _ csr0 _ _ _ hfr0 hsr0 H0_13.out.holds (S0.out.kept BS13.out)).mono ?_
  rintro e w14 ⟨rfl, hB⟩
  have BW14 : Hid (Below w.heap.size w w14) := BW13.out.trans (hB.mono BW13.out.size)
  have SZ14 : Hid (w13.heap.size ≤ w14.heap.size) := hB.size
  have BS14 : Hid (Below w3.heap.size w3 w14) := BS13.out.trans (hB.mono BS13.out.size)
  have G0_14 : Hid (Owns w14 false w4.heap.size (mkD (1) (.l lr0 4 csr0)) (.slice ga0 lr0 gc0) gP0) := G0_13.out.kept hB
  have H0_14 : Hid (Owns w14 false w12.heap.size (.l lr0 4 csr0) (.slice ha0 lr0 hc0) hP0) := H0_13.out.kept hB
  clear hB
  go_wp2_with fail
  refine (BlockS_held (1) (by omega) _ _ _ csr0 false _ hfr0 hsr0 (by rw [HM0.out]; omega) G0_14.out.holds).mono ?_
  rintro e w' ⟨rfl, hw⟩
  rw [hw, HM0.out]
  clear hw w'
  have hq14_0 : (0 : Int) ≤ 1 + (M0 : Int) := by omega
  go_wp2
  go_ret
  exact ⟨rfl, BW14.out⟩
theorem walk (a0 : Option Addr) (l0 cap0 : Nat) (cs0 : Nat → Dv) (w : World) (h0 : Holds w false (.l l0 4 cs0) (.slice a0 l0 cap0)) (f0 : Fits shBlockS (.l l0 4 cs0)) (n0 : Lens (.l l0 4 cs0)) :
    Calls Try.prog 3 #[.slice a0 l0 cap0] w fun e w' => e = .returned (.bool true) ∧ Below w.heap.size w w' := by
  cases ho : flowB (bvD cs0) l0
  · refine walk_of a0 cap0 l0 cs0 0 (fun _ => .n 0) false w f0 n0 h0 ⟨rfl, fun i hi => by omega⟩ (show 0 + sumTo _ (0 * 4) ≤ 100000 by simp [sumTo]) (fun hs => ?_) (fun hs => ?_)
    · intro W a cap hh
      obtain ⟨s0, s1⟩ := flow_sizes hs f0
      refine (spec_dropdead a l0 cap (bvD cs0) W s0 s1 (hh.flow f0)).mono (fun e W' q => ?_)
      rcases q with ⟨(⟨h, _⟩ | ⟨_, q⟩), hB⟩
      · rw [ho] at h; cases h
      · exact ⟨none, 0, q, ⟨none, 0, rfl, (fun q => by cases q), Or.inl (by decide)⟩, hB⟩
    · intro W a cap hh
      obtain ⟨s0, s1⟩ := flow_sizes hs f0
      refine (impl_dropdead a l0 cap (bvD cs0) W s0 s1 (hh.flow f0)).mono (fun e W' q => ?_)
      rcases q with ⟨(⟨h, _⟩ | ⟨_, q⟩), hB⟩
      · rw [ho] at h; cases h
      · exact ⟨none, 0, fun _ => False, q, ⟨none, 0, rfl, (fun q => by cases q), Or.inl (by decide)⟩, (fun x q => q.elim), hB⟩
  · obtain ⟨s, hs0⟩ := fix_from (p := false) ho 65 _ (up_none _ _ _) (by omega)
    have h30 : ∀ k, k < l0 → (dropB (bvD cs0) s k).len ≤ 1000 := fun k hk => by
      have hb := (flow_out ho).2 k hk
      simp only [blockB, Bool.and_eq_true] at hb
      have h1 := (code_out hb.1.1.1).1
      have h2 := keepN_le (deadF7 (bvD cs0) s k) ((bvD cs0) k).len
      exact Nat.le_trans h2 (Nat.le_trans h1 (by decide))
    refine walk_of a0 cap0 l0 cs0 l0 (dB (dropB (bvD cs0) s)) true w f0 n0 h0 (dB_fits _ _) (dB_size _ _ (flow_out ho).1.2 h30) (fun hs => ?_) (fun hs => ?_)
    · intro W a cap hh
      obtain ⟨s0, s1⟩ := flow_sizes hs f0
      refine (spec_dropdead a l0 cap (bvD cs0) W s0 s1 (hh.flow f0)).mono (fun e W' q => ?_)
      rcases q with ⟨(⟨_, v, s', q, hO, hF⟩ | ⟨h, _⟩), hB⟩
      · obtain ⟨g, d, G, rfl, hw, hl⟩ := hO.owns
        exact ⟨g, d, q, (hw.congr (dB_congr (fun k hk => drop_same ho hk (fix_one hF hs0)))).holds, hB⟩
      · rw [ho] at h; cases h
    · intro W a cap hh
      obtain ⟨s0, s1⟩ := flow_sizes hs f0
      refine (impl_dropdead a l0 cap (bvD cs0) W s0 s1 (hh.flow f0)).mono (fun e W' q => ?_)
      rcases q with ⟨(⟨_, v, s', q, hO, hF⟩ | ⟨h, _⟩), hB⟩
      · obtain ⟨g, d, G, rfl, hw, hl⟩ := hO.owns
        exact ⟨g, d, G, q, hw.congr (dB_congr (fun k hk => drop_same ho hk (fix_one hF hs0))), hl, hB⟩
      · rw [ho] at h; cases h

set_option maxRecDepth 100000 in
set_option maxHeartbeats 4000000 in
theorem lifted (os : Os) (started : os.Started) (H : Type) (enc : TypeId × Value → H) :
    ReturnsInHanded {} Try.checked os 3 .any (Rows.fnExactDropDeadSpec.pre6 enc Try.prog Try.f3 Rows.fnExactDropDeadRow.domain false) (Rows.fnExactDropDeadSpec.post enc Try.prog Try.f3 false true false false) := by
  refine returnsInHanded_of_change_sized (C := Try.checked) own started (by kernel_rfl) Try.func3
    (ChangeSpec.witness6 (enc := enc) (C := Try.checked) false ⟨#[], #[.slice none 0 0], []⟩ 8 (by kernel_rfl) (by kernel_rfl) (by kernel_rfl) (by kernel_rfl)) ?_
  intro W base args ds gs before hval0 hW hcnd hsz0 _
  have hval : ∀ (j : Nat) t v, Try.f3.params[j]? = some t → args[j]? = some v → Value.okWide Try.prog W .any base t v := hval0
  have hW' := hW
  obtain ⟨p, q, hA0, hV, rfl, hfz, hnd⟩ := hW
  have hsz : (DataW.weightsEach Try.prog (Try.f3.params.toList ++ Rows.fnExactDropDeadSpec.plain.varTypes Try.prog) (ds ++ gs)).all (· ≤ reachBytes) = true := hsz0
  have hA : DataW.TrodAll enc Try.prog W 0 (fun _ => true) true Try.f3.params.toList args.toList ds p := hA0
  rw [Try.params3] at hA hval hsz
  obtain ⟨v0, vs0, d0, ds0, p0, q0, hargs, rfl, rfl, h0, r0⟩ := trodAll_cons hA
  obtain ⟨rfl, rfl, rfl⟩ := trodAll_nil r0
  obtain rfl : args = #[v0] := by cases args; simp_all
  obtain ⟨rfl, rfl⟩ := trodVars_none hV
  obtain ⟨a0, l0, cap0, rfl⟩ := okWide_slice Try.underlying22 (hval 0 22 v0 rfl rfl)
  have k0 := h0
  have lt0 : ∀ x ∈ p0, x.block < W.heap.size := by obtain ⟨m, hm⟩ := k0; exact DataW.trod_lt m _ _ _ hm
  obtain ⟨cs0, w0, f0, n0⟩ := open_list (show Matches Try.prog shBlockS 22 from ⟨39, Try.underlying22, (show Try.prog.cellsOf 39 = 4 by kernel_rfl), by decide, Or.inr ⟨_, Try.underlying39, rfl, (fun i f h => by
    match i, h with
    | 0, h => obtain rfl := Option.some.inj h; exact ⟨rfl, (show Try.prog.cellsOf 37 = 1 by kernel_rfl), ⟨100, Try.underlying37, (show Try.prog.cellsOf 100 = 5 by kernel_rfl), by decide, Or.inr ⟨_, Try.underlying100, rfl, (fun i f h => by
    match i, h with
    | 0, h => obtain rfl := Option.some.inj h; exact ⟨rfl, (show Try.prog.cellsOf 3 = 1 by kernel_rfl), Try.underlying3⟩
    | 1, h => obtain rfl := Option.some.inj h; exact ⟨rfl, (show Try.prog.cellsOf 3 = 1 by kernel_rfl), Try.underlying3⟩
    | 2, h => obtain rfl := Option.some.inj h; exact ⟨rfl, (show Try.prog.cellsOf 3 = 1 by kernel_rfl), Try.underlying3⟩
    | 3, h => obtain rfl := Option.some.inj h; exact ⟨rfl, (show Try.prog.cellsOf 3 = 1 by kernel_rfl), Try.underlying3⟩
    | 4, h => obtain rfl := Option.some.inj h; exact ⟨rfl, (show Try.prog.cellsOf 3 = 1 by kernel_rfl), Try.underlying3⟩
    | i + 5, h => simp at h)⟩⟩⟩
    | 1, h => obtain rfl := Option.some.inj h; exact ⟨rfl, (show Try.prog.cellsOf 3 = 1 by kernel_rfl), Try.underlying3⟩
    | 2, h => obtain rfl := Option.some.inj h; exact ⟨rfl, (show Try.prog.cellsOf 3 = 1 by kernel_rfl), Try.underlying3⟩
    | 3, h => obtain rfl := Option.some.inj h; exact ⟨rfl, (show Try.prog.cellsOf 3 = 1 by kernel_rfl), Try.underlying3⟩
    | i + 4, h => simp at h)⟩⟩) h0
  clear hA0 hval0
  refine (walk a0 l0 cap0 cs0 W w0 f0 n0).mono fun e W' ⟨he, bel⟩ => ?_
  subst he
  exact ⟨_, rfl, _, _, _, [], _, [], hW', trodAll_mk1 (shut_bool Try.underlying4 _), (trodAll_cons_mk (Below.trod laidOut (by kernel_rfl) (of_decide_eq_true (by kernel_rfl)) k0 bel lt0) trodAll_mk0), rfl, bel.frame _, fun h => by cases h⟩

theorem over : Rows.fnExactDropDeadRow.holds Try.pinned (OpenSpec.ofChange Rows.fnExactDropDeadSpec) :=
  OpenClaim.holds_of_wide 3 Try.f3 rfl rfl rfl rfl rfl rfl rfl ⟨rfl, rfl, rfl, rfl, rfl⟩ rfl rfl rfl rfl rfl (by kernel_rfl) Try.func3 (by kernel_rfl)
    (of_decide_eq_true (by kernel_rfl)) (by unfold Func.isWrapper; first | (rw [if_pos (by decide +kernel)]; kernel_rfl) | (rw [if_neg (by decide +kernel)]; exact ⟨rfl, rfl⟩))
    (fun os started H enc _ => lifted os started H enc)

theorem proved : Rows.FnExactDropDeadSaid :=
  over
#print axioms proved
end Go.Proofs.Ytfmgbalfabpogaa.fnExactDropDead
