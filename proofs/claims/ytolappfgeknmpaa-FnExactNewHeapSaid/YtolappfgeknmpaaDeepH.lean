/-
  What the laws' own helpers do on data: ObjectS, S:Heap.
-/
import Derived.Test.YtolappfgeknmpaaProg
import Derived.Test.YtolappfgeknmpaaDeep
import Derived.Test.YtolappfgeknmpaaDeepOpen
import Derived.Test.YtolappfgeknmpaaDeepRow
import Derived.WalkKit
import Derived.WalkSpells
import Derived.Below
import Derived.Handy
import Derived.Deep.OwnRows
import Derived.Deep.RegionWith
import Derived.Laws.MakeOwn
namespace Go.Proofs.Ytolappfgeknmpaa.deep
open Go.RowKit Go.Proofs.Ytolappfgeknmpaa.ints
set_option linter.unusedVariables false

def shObjectS : Sh := .l 3 (fun i => match i with | 0 => .n | 1 => .t | _ => shI)
theorem thin_ObjectS : Thin shObjectS := ⟨by decide, fun i => by
  show Thin (match i with | 0 => .n | 1 => .t | _ => shI)
  split
  · exact trivial
  · exact trivial
  · exact ⟨by decide, fun _ => trivial⟩⟩
set_option maxRecDepth 100000 in
set_option maxHeartbeats 4000000 in
theorem Object_eq (x0 : Int) (x1 : Bool) (a2 : Option Addr) (l2 c2 : Nat) (cs2 : Nat → Dv) (b2 : Option Addr) (e2 : Nat) (c c' : Bool) (W : World) (hf2 : Hid (Fits shI (.l l2 1 cs2))) (hs2 : Hid (szD (.l l2 1 cs2) ≤ 1048576)) (h2 : Hid (Holds W c (.l l2 1 cs2) (.slice a2 l2 c2))) (g2 : Hid (Holds W c' (.l l2 1 cs2) (.slice b2 l2 e2))) : Calls Try.prog 17 #[.agg #[.int .i64 x0, .bool x1, .slice a2 l2 c2], .agg #[.int .i64 x0, .bool x1, .slice b2 l2 e2]] W fun e W' => e = .returned (.bool true) ∧ Below W.heap.size W W' := by
  have ne0 : (x0 != x0) = false := by simp
  have ne1 : (x1 != x1) = false := by cases x1 <;> rfl
  go_enter Try.func17, Try.ntmps17
  obtain ⟨X0, EX0⟩ : ∃ X, X = (W.alloc (.cells #[.int .i64 x0, .bool x1, .slice a2 l2 c2] 31)).alloc (.cells #[.int .i64 x0, .bool x1, .slice b2 l2 e2] 31) := ⟨_, rfl⟩
  have RA : Hid (X0.rowIs W.heap.size 31 3 (rowF [.int .i64 x0, .bool x1, .slice a2 l2 c2])) := by rw [EX0]; exact (row_of W #[.int .i64 x0, .bool x1, .slice a2 l2 c2] 31).alloc _
  have RB : Hid (X0.rowIs (W.heap.size + 1) 31 3 (rowF [.int .i64 x0, .bool x1, .slice b2 l2 e2])) := by
    rw [EX0]
    have q := row_of (W.alloc (.cells #[.int .i64 x0, .bool x1, .slice a2 l2 c2] 31)) #[.int .i64 x0, .bool x1, .slice b2 l2 e2] 31
    rw [show (W.alloc (.cells #[.int .i64 x0, .bool x1, .slice a2 l2 c2] 31)).heap.size = W.heap.size + 1 by simp] at q
    exact q
  have B0 : Hid (Below W.heap.size W X0) := by rw [EX0]; show Below _ _ _; go_grown
  go_wp2_with fail
  rw [← EX0]
  clear EX0
  refine (IntS_eq _ _ _ _ _ cs2 c c' _ hf2 (Nat.le_trans (Nat.le_add_right _ _) hs2.out) (h2.out.kept B0.out) (g2.out.kept B0.out)).mono ?_
  rintro e w0 ⟨rfl, hB⟩
  have A0 : Hid (w0.rowIs W.heap.size 31 3 (rowF [.int .i64 x0, .bool x1, .slice a2 l2 c2])) := RA.out.of_block (hB.block _ RA.out.lt)
  have C0 : Hid (w0.rowIs (W.heap.size + 1) 31 3 (rowF [.int .i64 x0, .bool x1, .slice b2 l2 e2])) := RB.out.of_block (hB.block _ RB.out.lt)
  have BB0 : Hid (Below W.heap.size W w0) := B0.out.trans (hB.mono B0.out.size)
  clear hB B0 RA RB
  go_wp2
  go_ret
  exact ⟨rfl, BB0.out⟩
set_option maxRecDepth 100000 in
set_option maxHeartbeats 4000000 in
theorem ObjectS_eq (a a' : Option Addr) (len cap cap' : Nat) (cs : Nat → Dv) (c c' : Bool) (W : World) (hf : Hid (Fits shObjectS (.l len 3 cs))) (hs : Hid (szD (.l len 3 cs) ≤ 1048576)) (h : Hid (Holds W c (.l len 3 cs) (.slice a len cap))) (h' : Hid (Holds W c' (.l len 3 cs) (.slice a' len cap'))) :
    Calls Try.prog 10 #[.slice a len cap, .slice a' len cap'] W fun e W' => e = .returned (.bool true) ∧ Below W.heap.size W W' := by
  have hlen : len ≤ 1048576 := Nat.le_trans (Nat.le_add_right _ _) hs.out
  go_enter Try.func10, Try.ntmps10
  go_wp2
  go_loopw [5] (fun vi wr => ∃ k : Nat, k ≤ len ∧ vi = .int .i64 k ∧ Hid (Below W.heap.size W wr)) (fun vi _ => len - (intOf vi).toNat)
  case atStart => exact ⟨0, Nat.zero_le _, rfl, Below.refl _ _⟩
  case round =>
    obtain ⟨k, hk, rfl, HB⟩ := hrel
    by_cases hlt : k < len
    rotate_left
    · go_wp2
      go_ret
      exact ⟨rfl, HB.out⟩
    have hltI : (k : Int) < (len : Int) := by omega
    have hkn : (k + 1) * 3 ≤ len * 3 := Nat.mul_le_mul_right _ hlt
    rw [Nat.add_mul] at hkn
    obtain ⟨b, o, ha, hb, hcell⟩ := h.out.cells HB.out (show 0 < len * 3 by omega)
    obtain ⟨b', o', ha', hb', hcell'⟩ := h'.out.cells HB.out (show 0 < len * 3 by omega)
    subst ha ha'
    have hbw : b < wr.heap.size := by have := HB.out.size; omega
    have hbw' : b' < wr.heap.size := by have := HB.out.size; omega
    obtain ⟨u0, d0, q0⟩ := hcell (k * 3) (by omega)
    obtain ⟨v0, g0, r0⟩ := hcell' (k * 3) (by omega)
    obtain ⟨x0, E0⟩ := (hf.out.cell hlt (c := 0) (by decide)).int
    have E0 : cs (k * 3) = .n x0 := E0
    rw [E0] at q0 r0
    have q0 : u0 = .int .i64 x0 := q0
    have r0 : v0 = .int .i64 x0 := r0
    subst q0 r0
    clear E0
    obtain ⟨u1, d1, q1⟩ := hcell (k * 3 + 1) (by omega)
    obtain ⟨v1, g1, r1⟩ := hcell' (k * 3 + 1) (by omega)
    rw [← Nat.add_assoc] at d1 g1
    obtain ⟨x1, E1⟩ := (hf.out.cell hlt (c := 1) (by decide)).bool
    have E1 : cs (k * 3 + 1) = .t x1 := E1
    rw [E1] at q1 r1
    have q1 : u1 = .bool x1 := q1
    have r1 : v1 = .bool x1 := r1
    subst q1 r1
    clear E1
    obtain ⟨u2, d2, q2⟩ := hcell (k * 3 + 2) (by omega)
    obtain ⟨v2, g2, r2⟩ := hcell' (k * 3 + 2) (by omega)
    rw [← Nat.add_assoc] at d2 g2
    obtain ⟨l2, cs2, E2, F2⟩ := (hf.out.cell hlt (c := 2) (by decide)).list
    have E2 : cs (k * 3 + 2) = .l l2 1 cs2 := E2
    have hs2 : Hid (szD (.l l2 1 cs2) ≤ 1048576) := by have q := sz_at (len := len) (sz := 3) (cs := cs) (i := k * 3 + 2) (by omega); rw [E2] at q; exact Nat.le_trans q hs.out
    have hf2 : Hid (Fits shI (.l l2 1 cs2)) := ⟨rfl, F2⟩
    rw [E2] at q2 r2
    obtain ⟨a2, c2, ev2, _⟩ := q2.slice
    obtain ⟨b2, e2, ew2, _⟩ := r2.slice
    subst ev2 ew2
    have h2 : Hid (Holds wr.drew c (.l l2 1 cs2) (.slice a2 l2 c2)) := q2.kept (Below.refl _ _).drew
    have g2' : Hid (Holds wr.drew c' (.l l2 1 cs2) (.slice b2 l2 e2)) := r2.kept (Below.refl _ _).drew
    clear q2 r2 F2 E2
    clear hcell hcell'
    have HD : Hid (Below W.heap.size W wr.drew) := HB.out.drew
    go_wp2_with fail
    go_region_with (go_at_call 17; refine (Object_eq x0 x1 _ _ _ cs2 _ _ c c' _ hf2 hs2 h2 g2').mono ?_; rintro e w' ⟨rfl, hb⟩; have HX : Hid (Below W.heap.size W w') := HD.out.trans (hb.mono HD.out.size); clear hb)
    all_goals
      go_wp2
      go_roundw
      case rel => exact ⟨k + 1, by omega, by go_num, HX.out⟩
      case measure => simp [intOf]; omega
set_option maxRecDepth 100000 in
set_option maxHeartbeats 4000000 in
theorem ObjectS_mark (k0 : Int) (h0 : 0 ≤ k0) (h1 : k0 ≤ 1000000000) (a : Option Addr) (len cap : Nat) (cs : Nat → Dv) (c : Bool) (W : World) (B : Nat) (F : Nat → Prop) (hf : Hid (Fits shObjectS (.l len 3 cs))) (hs : Hid (szD (.l len 3 cs) ≤ 1048576)) (h : Hid (Owns W c B (.l len 3 cs) (.slice a len cap) F)) :
    Calls Try.prog 12 #[.slice a len cap, .int .i64 k0] W fun e W' => e = .returned (.int .i64 (k0 + (cntD (.l len 3 cs) : Nat))) ∧ Owns W' c B (mkD k0 (.l len 3 cs)) (.slice a len cap) F ∧ OnlyF W W' F := by
  have hlen : len ≤ 1048576 := Nat.le_trans (Nat.le_add_right _ _) hs.out
  have hcn : sumTo (fun j => cntD (cs j)) (len * 3) ≤ 8388609 := by have q := cnt_le thin_ObjectS hf.out; have q2 := hs.out; simp only [cntD] at q; omega
  have hmo : ∀ m, m ≤ len * 3 → sumTo (fun j => cntD (cs j)) m ≤ 8388609 := fun m hm => Nat.le_trans (sumTo_mono _ _ hm) hcn
  have HMO : Hid (∀ m, m ≤ len * 3 → sumTo (fun j => cntD (cs j)) m ≤ 8388609) := hmo
  clear hcn hmo
  go_enter Try.func12, Try.ntmps12
  go_wp2
  go_loopw [1, 5] (fun vk vi wr => ∃ k : Nat, k ≤ len ∧ vi = .int .i64 k ∧ vk = .int .i64 (k0 + (sumTo (fun j => cntD (cs j)) (k * 3) : Nat)) ∧ Hid (Owns wr c B (.l len 3 (fun j => if j < k * 3 then mkD (k0 + (sumTo (fun j => cntD (cs j)) j : Nat)) (cs j) else cs j)) (.slice a len cap) F) ∧ Hid (OnlyF W wr F)) (fun _ vi _ => len - (intOf vi).toNat)
  case atStart => exact ⟨0, Nat.zero_le _, rfl, by simp [sumTo], h.out.congr (fun i hi => by rw [if_neg (by omega)]), OnlyF.refl _ _⟩
  case round =>
    obtain ⟨k, hk, rfl, rfl, HO, HB⟩ := hrel
    by_cases hlt : k < len
    rotate_left
    · have HK : Hid (k = len) := by show k = len; omega
      go_wp2
      go_ret
      refine ⟨by rw [HK.out]; rfl, ?_, HB.out⟩
      exact HO.out.congr (fun i hi => by rw [if_pos (by rw [HK.out]; exact hi)])
    have hltI : (k : Int) < (len : Int) := by omega
    have hkn : (k + 1) * 3 ≤ len * 3 := Nat.mul_le_mul_right _ hlt
    rw [Nat.add_mul] at hkn
    obtain ⟨b, o, ha, hbw⟩ := HO.out.addr (show 0 < len * 3 by omega)
    subst ha
    have hk1 := HMO.out (k * 3) (by omega)
    obtain ⟨kk, HKK⟩ : ∃ kk : Int, Hid (k0 + (sumTo (fun j => cntD (cs j)) (k * 3) : Nat) = kk) := ⟨_, rfl⟩
    have kk0 : 0 ≤ kk := by have := HKK.out; omega
    have kk1 : kk ≤ 1000000000 + 8388609 := by have := HKK.out; omega
    rw [HKK.out]
    clear hk1
    obtain ⟨x0, E0⟩ := (hf.out.cell hlt (c := 0) (by decide)).int
    have E0 : Hid (cs (k * 3) = .n x0) := E0
    obtain ⟨x1, E1⟩ := (hf.out.cell hlt (c := 1) (by decide)).bool
    have E1 : Hid (cs (k * 3 + 1) = .t x1) := E1
    obtain ⟨l2, cs2, E2, F2⟩ := (hf.out.cell hlt (c := 2) (by decide)).list
    have E2 : cs (k * 3 + 2) = .l l2 1 cs2 := E2
    have hs2 : Hid (szD (.l l2 1 cs2) ≤ 1048576) := by have q := sz_at (len := len) (sz := 3) (cs := cs) (i := k * 3 + 2) (by omega); rw [E2] at q; exact Nat.le_trans q hs.out
    have E2 : Hid (cs (k * 3 + 2) = .l l2 1 cs2) := E2
    have hf2 : Hid (Fits shI (.l l2 1 cs2)) := ⟨rfl, F2⟩
    clear F2
    have hcn2 : cntD (.l l2 1 cs2) ≤ 8388609 := by have q := cnt_le (s := shI) ⟨by decide, fun _ => trivial⟩ hf2.out; have q2 := hs2.out; omega
    obtain ⟨N2, HN2⟩ : ∃ N, Hid (cntD (.l l2 1 cs2) = N) := ⟨_, rfl⟩
    rw [HN2.out] at hcn2
    have HO0 : Hid (Owns wr c B (.l len 3 (fun j => if j < k * 3 then mkD (k0 + (sumTo (fun j => cntD (cs j)) j : Nat)) (cs j) else cs j)) (.slice (some ⟨b, o, none⟩) len cap) F) := HO
    clear HO
    obtain ⟨d0, f0, s0⟩ := HO0.out.num (j := k * 3) (y := x0) (by omega) (by show (if _ then _ else _) = _; rw [if_neg (by omega)]; exact E0.out)
    obtain ⟨s0, t0⟩ := s0 (kk)
    have HO1 : Hid (Owns (wr.setCell ⟨b, o + k * 3, none⟩ (.int .i64 (kk))) c B (.l len 3 (updD (fun j => if j < k * 3 then mkD (k0 + (sumTo (fun j => cntD (cs j)) j : Nat)) (cs j) else cs j) (k * 3) (.n (kk)))) (.slice (some ⟨b, o, none⟩) len cap) F) := s0
    have HB1 : Hid (OnlyF W (wr.setCell ⟨b, o + k * 3, none⟩ (.int .i64 (kk))) F) := HB.out.trans t0
    clear s0 t0
    obtain ⟨d1, f1, s1⟩ := HO1.out.tru (j := k * 3 + 1) (y := x1) (by omega) (by rw [updD_other _ _ (show k * 3 + 1 ≠ k * 3 by omega)]; show (if _ then _ else _) = _; rw [if_neg (by omega)]; exact E1.out)
    obtain ⟨s1, t1⟩ := s1 ((kk + 1) % 3 == 0)
    rw [← Nat.add_assoc] at d1 f1 s1 t1
    have HO2 : Hid (Owns ((wr.setCell ⟨b, o + k * 3, none⟩ (.int .i64 (kk))).setCell ⟨b, o + k * 3 + 1, none⟩ (.bool ((kk + 1) % 3 == 0))) c B (.l len 3 (updD (updD (fun j => if j < k * 3 then mkD (k0 + (sumTo (fun j => cntD (cs j)) j : Nat)) (cs j) else cs j) (k * 3) (.n (kk))) (k * 3 + 1) (.t ((kk + 1) % 3 == 0)))) (.slice (some ⟨b, o, none⟩) len cap) F) := s1
    have HB2 : Hid (OnlyF W ((wr.setCell ⟨b, o + k * 3, none⟩ (.int .i64 (kk))).setCell ⟨b, o + k * 3 + 1, none⟩ (.bool ((kk + 1) % 3 == 0))) F) := HB1.out.trans t1
    clear s1 t1
    obtain ⟨a2, c2, H2, d2, o2, s2⟩ := HO2.out.sub (j := k * 3 + 2) (l := l2) (z := 1) (es := cs2) (by omega) (by rw [updD_other _ _ (show k * 3 + 2 ≠ k * 3 + 1 by omega)]; rw [updD_other _ _ (show k * 3 + 2 ≠ k * 3 by omega)]; show (if _ then _ else _) = _; rw [if_neg (by omega)]; exact E2.out)
    rw [← Nat.add_assoc] at d2
    have S2 : Hid (∀ w' d', OnlyF ((wr.setCell ⟨b, o + k * 3, none⟩ (.int .i64 (kk))).setCell ⟨b, o + k * 3 + 1, none⟩ (.bool ((kk + 1) % 3 == 0))) w' H2 → Owns w' c B d' (.slice a2 l2 c2) H2 → Owns w' c B (.l len 3 (updD (updD (updD (fun j => if j < k * 3 then mkD (k0 + (sumTo (fun j => cntD (cs j)) j : Nat)) (cs j) else cs j) (k * 3) (.n (kk))) (k * 3 + 1) (.t ((kk + 1) % 3 == 0))) (k * 3 + 2) d')) (.slice (some ⟨b, o, none⟩) len cap) F ∧ OnlyF ((wr.setCell ⟨b, o + k * 3, none⟩ (.int .i64 (kk))).setCell ⟨b, o + k * 3 + 1, none⟩ (.bool ((kk + 1) % 3 == 0))) w' F) := s2
    have O2 : Hid (Owns ((wr.setCell ⟨b, o + k * 3, none⟩ (.int .i64 (kk))).setCell ⟨b, o + k * 3 + 1, none⟩ (.bool ((kk + 1) % 3 == 0))) c B (.l l2 1 cs2) (.slice a2 l2 c2) H2) := o2
    clear s2 o2
    go_wp2_with fail
    refine (IntS_mark (kk + 1 + 1) (by omega) (by omega) _ _ _ cs2 c _ B H2 hf2 (Nat.le_trans (Nat.le_add_right _ _) hs2.out) O2).mono ?_
    rintro e w2 ⟨rfl, hO, hF⟩
    obtain ⟨p2, r2⟩ := S2.out w2 _ hF hO
    have HO3 : Hid (Owns w2 c B (.l len 3 (updD (updD (updD (fun j => if j < k * 3 then mkD (k0 + (sumTo (fun j => cntD (cs j)) j : Nat)) (cs j) else cs j) (k * 3) (.n (kk))) (k * 3 + 1) (.t ((kk + 1) % 3 == 0))) (k * 3 + 2) (mkD (kk + 1 + 1) (.l l2 1 cs2)))) (.slice (some ⟨b, o, none⟩) len cap) F) := p2
    have HB3 : Hid (OnlyF W w2 F) := HB2.out.trans r2
    have hbw : b < w2.heap.size := by have q1 := r2.size; simp [World.setCell] at q1; omega
    rw [HN2.out]
    clear hO hF p2 r2 S2 O2
    go_wp2
    go_roundw
    case rel =>
      have e1 : sumTo (fun j => cntD (cs j)) ((k + 1) * 3) = sumTo (fun j => cntD (cs j)) (k * 3) + cntD (cs (k * 3)) + cntD (cs (k * 3 + 1)) + cntD (cs (k * 3 + 2)) := by rw [show (k + 1) * 3 = k * 3 + 1 + 1 + 1 by omega]; rfl
      have n0 : cntD (cs (k * 3)) = 1 := by rw [E0.out]; exact rfl
      have n1 : cntD (cs (k * 3 + 1)) = 1 := by rw [E1.out]; exact rfl
      have n2 : cntD (cs (k * 3 + 2)) = N2 := by rw [E2.out]; exact HN2.out
      have m1 : sumTo (fun j => cntD (cs j)) (k * 3 + 1) = sumTo (fun j => cntD (cs j)) (k * 3) + cntD (cs (k * 3)) := rfl
      have m2 : sumTo (fun j => cntD (cs j)) (k * 3 + 2) = sumTo (fun j => cntD (cs j)) (k * 3) + cntD (cs (k * 3)) + cntD (cs (k * 3 + 1)) := rfl
      have hkk := HKK.out
      refine ⟨k + 1, by omega, by go_num, ?_, ?_, HB3⟩
      · rw [e1, n0, n1, n2]
        congr 1
        omega
      · refine HO3.out.congr ?_
        intro j hj
        rcases (show j = k * 3 ∨ j = k * 3 + 1 ∨ j = k * 3 + 2 ∨ j < k * 3 ∨ (k + 1) * 3 ≤ j by omega) with e0 | e0 | e0 | h | h
        · rw [e0, if_pos (show k * 3 < (k + 1) * 3 by omega), updD_other _ _ (show k * 3 ≠ k * 3 + 2 by omega), updD_other _ _ (show k * 3 ≠ k * 3 + 1 by omega), updD_same, E0.out]
          rw [show k0 + (sumTo (fun j => cntD (cs j)) (k * 3) : Nat) = kk by omega]
          rfl
        · rw [e0, if_pos (show k * 3 + 1 < (k + 1) * 3 by omega), updD_other _ _ (show k * 3 + 1 ≠ k * 3 + 2 by omega), updD_same, E1.out]
          rw [show k0 + (sumTo (fun j => cntD (cs j)) (k * 3 + 1) : Nat) = kk + 1 by rw [m1, n0]; omega]
          rfl
        · rw [e0, if_pos (show k * 3 + 2 < (k + 1) * 3 by omega), updD_same, E2.out]
          rw [show k0 + (sumTo (fun j => cntD (cs j)) (k * 3 + 2) : Nat) = kk + 1 + 1 by rw [m2, n0, n1]; omega]
        · rw [updD_other _ _ (show j ≠ k * 3 + 2 by omega), updD_other _ _ (show j ≠ k * 3 + 1 by omega), updD_other _ _ (show j ≠ k * 3 by omega), if_pos h, if_pos (show j < (k + 1) * 3 by omega)]
        · rw [updD_other _ _ (show j ≠ k * 3 + 2 by omega), updD_other _ _ (show j ≠ k * 3 + 1 by omega), updD_other _ _ (show j ≠ k * 3 by omega), if_neg (show ¬ j < k * 3 by omega), if_neg (show ¬ j < (k + 1) * 3 by omega)]
    case measure => simp [intOf]; omega
set_option maxRecDepth 100000 in
set_option maxHeartbeats 4000000 in
theorem ObjectS_held (k0 : Int) (h0 : 0 ≤ k0) (a : Option Addr) (len cap : Nat) (cs : Nat → Dv) (c : Bool) (W : World) (hf : Hid (Fits shObjectS (.l len 3 cs))) (hs : Hid (szD (.l len 3 cs) ≤ 1048576)) (h1 : k0 + (cntD (.l len 3 cs) : Nat) ≤ 16777216) (h : Hid (Holds W c (mkD k0 (.l len 3 cs)) (.slice a len cap))) :
    Calls Try.prog 14 #[.slice a len cap, .int .i64 k0] W fun e W' => e = .returned (.int .i64 (k0 + (cntD (.l len 3 cs) : Nat))) ∧ W' = W := by
  have hlen : len ≤ 1048576 := Nat.le_trans (Nat.le_add_right _ _) hs.out
  have hmo : ∀ m, m ≤ len * 3 → k0 + (sumTo (fun j => cntD (cs j)) m : Nat) ≤ 16777216 := fun m hm => by have q := sumTo_mono (fun j => cntD (cs j)) _ hm; have q2 : k0 + (sumTo (fun j => cntD (cs j)) (len * 3) : Nat) ≤ 16777216 := h1; omega
  have HMO : Hid (∀ m, m ≤ len * 3 → k0 + (sumTo (fun j => cntD (cs j)) m : Nat) ≤ 16777216) := hmo
  clear hmo h1
  have H : Hid (Holds W c (.l len 3 (fun j => mkD (k0 + (sumTo (fun j => cntD (cs j)) j : Nat)) (cs j))) (.slice a len cap)) := h
  clear h
  go_enter Try.func14, Try.ntmps14
  go_wp2
  go_loop [1, 5] (fun vk vi => ∃ k : Nat, k ≤ len ∧ vi = .int .i64 k ∧ vk = .int .i64 (k0 + (sumTo (fun j => cntD (cs j)) (k * 3) : Nat))) (fun _ vi => len - (intOf vi).toNat)
  case atStart => exact ⟨0, Nat.zero_le _, rfl, by simp [sumTo]⟩
  case round =>
    obtain ⟨k, hk, rfl, rfl⟩ := hrel
    by_cases hlt : k < len
    rotate_left
    · have HK : Hid (k = len) := by show k = len; omega
      go_wp2
      go_ret
      exact ⟨by rw [HK.out]; rfl, rfl⟩
    have hltI : (k : Int) < (len : Int) := by omega
    have hkn : (k + 1) * 3 ≤ len * 3 := Nat.mul_le_mul_right _ hlt
    rw [Nat.add_mul] at hkn
    obtain ⟨b, o, ha, hb, hcell⟩ := H.out.cells (Below.refl _ _) (show 0 < len * 3 by omega)
    subst ha
    have hk1 := HMO.out (k * 3) (by omega)
    have HLAST := HMO.out ((k + 1) * 3) (by omega)
    obtain ⟨kk, HKK⟩ : ∃ kk : Int, Hid (k0 + (sumTo (fun j => cntD (cs j)) (k * 3) : Nat) = kk) := ⟨_, rfl⟩
    have kk0 : 0 ≤ kk := by have := HKK.out; omega
    have kk1 : kk ≤ 16777216 := by have := HKK.out; omega
    rw [HKK.out]
    clear hk1
    have e1 : sumTo (fun j => cntD (cs j)) ((k + 1) * 3) = sumTo (fun j => cntD (cs j)) (k * 3) + cntD (cs (k * 3)) + cntD (cs (k * 3 + 1)) + cntD (cs (k * 3 + 2)) := by rw [show (k + 1) * 3 = k * 3 + 1 + 1 + 1 by omega]; rfl
    obtain ⟨x0, E0⟩ := (hf.out.cell hlt (c := 0) (by decide)).int
    have E0 : cs (k * 3) = .n x0 := E0
    have n0 : cntD (cs (k * 3)) = 1 := by rw [E0]; rfl
    obtain ⟨u0, d0, q0⟩ := hcell (k * 3) (by omega)
    have v0 : k0 + (sumTo (fun j => cntD (cs j)) (k * 3) : Nat) = kk := by have q := HKK.out; exact q
    rw [v0, E0] at q0
    have q0 : u0 = .int .i64 (kk) := q0
    subst q0
    obtain ⟨x1, E1⟩ := (hf.out.cell hlt (c := 1) (by decide)).bool
    have E1 : cs (k * 3 + 1) = .t x1 := E1
    have n1 : cntD (cs (k * 3 + 1)) = 1 := by rw [E1]; rfl
    obtain ⟨u1, d1, q1⟩ := hcell (k * 3 + 1) (by omega)
    rw [← Nat.add_assoc] at d1
    have m1 : sumTo (fun j => cntD (cs j)) (k * 3 + 1) = sumTo (fun j => cntD (cs j)) (k * 3) + cntD (cs (k * 3)) := rfl
    have v1 : k0 + (sumTo (fun j => cntD (cs j)) (k * 3 + 1) : Nat) = kk + 1 := by have q := HKK.out; rw [m1, n0]; omega
    rw [v1, E1] at q1
    have q1 : u1 = .bool ((kk + 1) % 3 == 0) := q1
    subst q1
    obtain ⟨l2, cs2, E2, F2⟩ := (hf.out.cell hlt (c := 2) (by decide)).list
    have E2 : cs (k * 3 + 2) = .l l2 1 cs2 := E2
    have hs2 : Hid (szD (.l l2 1 cs2) ≤ 1048576) := by have q := sz_at (len := len) (sz := 3) (cs := cs) (i := k * 3 + 2) (by omega); rw [E2] at q; exact Nat.le_trans q hs.out
    have hf2 : Hid (Fits shI (.l l2 1 cs2)) := ⟨rfl, F2⟩
    clear F2
    obtain ⟨N2, HN2⟩ : ∃ N, Hid (cntD (.l l2 1 cs2) = N) := ⟨_, rfl⟩
    have n2 : cntD (cs (k * 3 + 2)) = N2 := by rw [E2]; exact HN2.out
    obtain ⟨u2, d2, q2⟩ := hcell (k * 3 + 2) (by omega)
    rw [← Nat.add_assoc] at d2
    have m2 : sumTo (fun j => cntD (cs j)) (k * 3 + 2) = sumTo (fun j => cntD (cs j)) (k * 3) + cntD (cs (k * 3)) + cntD (cs (k * 3 + 1)) := rfl
    have v2 : k0 + (sumTo (fun j => cntD (cs j)) (k * 3 + 2) : Nat) = kk + 1 + 1 := by have q := HKK.out; rw [m2, n0, n1]; omega
    rw [v2, E2] at q2
    have h2 : Hid (Holds W c (mkD (kk + 1 + 1) (.l l2 1 cs2)) u2) := q2
    obtain ⟨a2, c2, ev2, _⟩ := Holds.slice (sz := 1) h2.out
    subst ev2
    clear q2
    rw [e1, n0, n1, n2] at HLAST
    have LAST : kk + 1 + 1 + (N2 : Int) ≤ 16777216 := by have q := HKK.out; omega
    have HL2 : Hid ((kk + 1 + 1) + (cntD (.l l2 1 cs2) : Nat) ≤ 16777216) := by show _ ≤ _; rw [HN2.out]; omega
    have HE : Hid (kk + 1 + 1 + (N2 : Int) = k0 + (sumTo (fun j => cntD (cs j)) ((k + 1) * 3) : Nat)) := by show _ = _; rw [e1, n0, n1, n2]; have q := HKK.out; omega
    clear HLAST hcell e1 v0 n0 E0 v1 n1 E1 v2 n2 E2 m1 m2
    have bb1 : (((kk + 1) % 3 == 0) != ((kk + 1) % 3 == 0)) = false := by simp
    have kn2 : 0 ≤ kk + 1 + 1 := by omega
    have kp2 : 0 ≤ kk + 1 + 1 + (N2 : Int) := by omega
    go_wp2_with fail
    refine (IntS_held (kk + 1 + 1) (by omega) (by omega) _ _ _ cs2 c _ hf2 (Nat.le_trans (Nat.le_add_right _ _) hs2.out) h2).mono ?_
    rintro e w' ⟨rfl, hw⟩
    rw [hw, HN2.out]
    clear hw w'
    go_wp2
    go_round
    case rel => exact ⟨k + 1, by omega, by go_num, by rw [← HE.out]⟩
    case measure => simp [intOf]; omega
set_option maxRecDepth 100000 in
set_option maxHeartbeats 4000000 in
theorem Heap_eq (a0 : Option Addr) (l0 c0 : Nat) (cs0 : Nat → Dv) (a1 : Option Addr) (l1 c1 : Nat) (cs1 : Nat → Dv) (a2 : Option Addr) (l2 c2 : Nat) (cs2 : Nat → Dv) (x3 : Int) (b0 : Option Addr) (e0 : Nat) (b1 : Option Addr) (e1 : Nat) (b2 : Option Addr) (e2 : Nat) (c c' : Bool) (W : World) (hf0 : Hid (Fits shObjectS (.l l0 3 cs0))) (hs0 : Hid (szD (.l l0 3 cs0) ≤ 1048576)) (h0 : Hid (Holds W c (.l l0 3 cs0) (.slice a0 l0 c0))) (hf1 : Hid (Fits shI (.l l1 1 cs1))) (hs1 : Hid (szD (.l l1 1 cs1) ≤ 1048576)) (h1 : Hid (Holds W c (.l l1 1 cs1) (.slice a1 l1 c1))) (hf2 : Hid (Fits shI (.l l2 1 cs2))) (hs2 : Hid (szD (.l l2 1 cs2) ≤ 1048576)) (h2 : Hid (Holds W c (.l l2 1 cs2) (.slice a2 l2 c2))) (g0 : Hid (Holds W c' (.l l0 3 cs0) (.slice b0 l0 e0))) (g1 : Hid (Holds W c' (.l l1 1 cs1) (.slice b1 l1 e1))) (g2 : Hid (Holds W c' (.l l2 1 cs2) (.slice b2 l2 e2))) : Calls Try.prog 6 #[.agg #[.slice a0 l0 c0, .slice a1 l1 c1, .slice a2 l2 c2, .int .i64 x3], .agg #[.slice b0 l0 e0, .slice b1 l1 e1, .slice b2 l2 e2, .int .i64 x3]] W fun e W' => e = .returned (.bool true) ∧ Below W.heap.size W W' := by
  have ne3 : (x3 != x3) = false := by simp
  go_enter Try.func6, Try.ntmps6
  obtain ⟨X0, EX0⟩ : ∃ X, X = (W.alloc (.cells #[.slice a0 l0 c0, .slice a1 l1 c1, .slice a2 l2 c2, .int .i64 x3] 25)).alloc (.cells #[.slice b0 l0 e0, .slice b1 l1 e1, .slice b2 l2 e2, .int .i64 x3] 25) := ⟨_, rfl⟩
  have RA : Hid (X0.rowIs W.heap.size 25 4 (rowF [.slice a0 l0 c0, .slice a1 l1 c1, .slice a2 l2 c2, .int .i64 x3])) := by rw [EX0]; exact (row_of W #[.slice a0 l0 c0, .slice a1 l1 c1, .slice a2 l2 c2, .int .i64 x3] 25).alloc _
  have RB : Hid (X0.rowIs (W.heap.size + 1) 25 4 (rowF [.slice b0 l0 e0, .slice b1 l1 e1, .slice b2 l2 e2, .int .i64 x3])) := by
    rw [EX0]
    have q := row_of (W.alloc (.cells #[.slice a0 l0 c0, .slice a1 l1 c1, .slice a2 l2 c2, .int .i64 x3] 25)) #[.slice b0 l0 e0, .slice b1 l1 e1, .slice b2 l2 e2, .int .i64 x3] 25
    rw [show (W.alloc (.cells #[.slice a0 l0 c0, .slice a1 l1 c1, .slice a2 l2 c2, .int .i64 x3] 25)).heap.size = W.heap.size + 1 by simp] at q
    exact q
  have B0 : Hid (Below W.heap.size W X0) := by rw [EX0]; show Below _ _ _; go_grown
  go_wp2_with fail
  rw [← EX0]
  clear EX0
  refine (ObjectS_eq _ _ _ _ _ cs0 c c' _ hf0 hs0 (h0.out.kept B0.out) (g0.out.kept B0.out)).mono ?_
  rintro e w0 ⟨rfl, hB⟩
  have A0 : Hid (w0.rowIs W.heap.size 25 4 (rowF [.slice a0 l0 c0, .slice a1 l1 c1, .slice a2 l2 c2, .int .i64 x3])) := RA.out.of_block (hB.block _ RA.out.lt)
  have C0 : Hid (w0.rowIs (W.heap.size + 1) 25 4 (rowF [.slice b0 l0 e0, .slice b1 l1 e1, .slice b2 l2 e2, .int .i64 x3])) := RB.out.of_block (hB.block _ RB.out.lt)
  have BB0 : Hid (Below W.heap.size W w0) := B0.out.trans (hB.mono B0.out.size)
  clear hB B0 RA RB
  have y_1 : w0.cell? ⟨W.heap.size, 1, none⟩ = some (.slice a1 l1 c1) := A0.out.cell (i := 1) (by decide)
  have z_1 : w0.cell? ⟨W.heap.size + 1, 1, none⟩ = some (.slice b1 l1 e1) := C0.out.cell (i := 1) (by decide)
  have y_2 : w0.cell? ⟨W.heap.size, 2, none⟩ = some (.slice a2 l2 c2) := A0.out.cell (i := 2) (by decide)
  have z_2 : w0.cell? ⟨W.heap.size + 1, 2, none⟩ = some (.slice b2 l2 e2) := C0.out.cell (i := 2) (by decide)
  have y_3 : w0.cell? ⟨W.heap.size, 3, none⟩ = some (.int .i64 x3) := A0.out.cell (i := 3) (by decide)
  have z_3 : w0.cell? ⟨W.heap.size + 1, 3, none⟩ = some (.int .i64 x3) := C0.out.cell (i := 3) (by decide)
  go_wp2_with fail
  clear y_1 z_1 y_2 z_2 y_3 z_3
  refine (IntS_eq _ _ _ _ _ cs1 c c' _ hf1 (Nat.le_trans (Nat.le_add_right _ _) hs1.out) (h1.out.kept BB0.out) (g1.out.kept BB0.out)).mono ?_
  rintro e w1 ⟨rfl, hB⟩
  have A1 : Hid (w1.rowIs W.heap.size 25 4 (rowF [.slice a0 l0 c0, .slice a1 l1 c1, .slice a2 l2 c2, .int .i64 x3])) := A0.out.of_block (hB.block _ A0.out.lt)
  have C1 : Hid (w1.rowIs (W.heap.size + 1) 25 4 (rowF [.slice b0 l0 e0, .slice b1 l1 e1, .slice b2 l2 e2, .int .i64 x3])) := C0.out.of_block (hB.block _ C0.out.lt)
  have BB1 : Hid (Below W.heap.size W w1) := BB0.out.trans (hB.mono BB0.out.size)
  clear hB BB0 A0 C0
  have y_2 : w1.cell? ⟨W.heap.size, 2, none⟩ = some (.slice a2 l2 c2) := A1.out.cell (i := 2) (by decide)
  have z_2 : w1.cell? ⟨W.heap.size + 1, 2, none⟩ = some (.slice b2 l2 e2) := C1.out.cell (i := 2) (by decide)
  have y_3 : w1.cell? ⟨W.heap.size, 3, none⟩ = some (.int .i64 x3) := A1.out.cell (i := 3) (by decide)
  have z_3 : w1.cell? ⟨W.heap.size + 1, 3, none⟩ = some (.int .i64 x3) := C1.out.cell (i := 3) (by decide)
  go_wp2_with fail
  clear y_2 z_2 y_3 z_3
  refine (IntS_eq _ _ _ _ _ cs2 c c' _ hf2 (Nat.le_trans (Nat.le_add_right _ _) hs2.out) (h2.out.kept BB1.out) (g2.out.kept BB1.out)).mono ?_
  rintro e w2 ⟨rfl, hB⟩
  have A2 : Hid (w2.rowIs W.heap.size 25 4 (rowF [.slice a0 l0 c0, .slice a1 l1 c1, .slice a2 l2 c2, .int .i64 x3])) := A1.out.of_block (hB.block _ A1.out.lt)
  have C2 : Hid (w2.rowIs (W.heap.size + 1) 25 4 (rowF [.slice b0 l0 e0, .slice b1 l1 e1, .slice b2 l2 e2, .int .i64 x3])) := C1.out.of_block (hB.block _ C1.out.lt)
  have BB2 : Hid (Below W.heap.size W w2) := BB1.out.trans (hB.mono BB1.out.size)
  clear hB BB1 A1 C1
  have y_3 : w2.cell? ⟨W.heap.size, 3, none⟩ = some (.int .i64 x3) := A2.out.cell (i := 3) (by decide)
  have z_3 : w2.cell? ⟨W.heap.size + 1, 3, none⟩ = some (.int .i64 x3) := C2.out.cell (i := 3) (by decide)
  go_wp2
  go_ret
  exact ⟨rfl, BB2.out⟩
set_option maxRecDepth 100000 in
set_option maxHeartbeats 4000000 in
theorem Heap_mark (k0 : Int) (h0k : 0 ≤ k0) (h1k : k0 ≤ 100000000) (a0 : Option Addr) (l0 c0 : Nat) (cs0 : Nat → Dv) (a1 : Option Addr) (l1 c1 : Nat) (cs1 : Nat → Dv) (a2 : Option Addr) (l2 c2 : Nat) (cs2 : Nat → Dv) (x3 : Int) (c : Bool) (W : World) (B : Nat) (F0 : Nat → Prop) (F1 : Nat → Prop) (F2 : Nat → Prop) (hf0 : Hid (Fits shObjectS (.l l0 3 cs0))) (hs0 : Hid (szD (.l l0 3 cs0) ≤ 1048576)) (h0 : Hid (Owns W c B (.l l0 3 cs0) (.slice a0 l0 c0) F0)) (u0 : Hid (∀ x, F0 x → x < W.heap.size)) (hf1 : Hid (Fits shI (.l l1 1 cs1))) (hs1 : Hid (szD (.l l1 1 cs1) ≤ 1048576)) (h1 : Hid (Owns W c B (.l l1 1 cs1) (.slice a1 l1 c1) F1)) (u1 : Hid (∀ x, F1 x → x < W.heap.size)) (hf2 : Hid (Fits shI (.l l2 1 cs2))) (hs2 : Hid (szD (.l l2 1 cs2) ≤ 1048576)) (h2 : Hid (Owns W c B (.l l2 1 cs2) (.slice a2 l2 c2) F2)) (u2 : Hid (∀ x, F2 x → x < W.heap.size)) (D01 : ∀ x, F0 x → ¬ F1 x) (D02 : ∀ x, F0 x → ¬ F2 x) (D12 : ∀ x, F1 x → ¬ F2 x) : Calls Try.prog 7 #[.agg #[.slice a0 l0 c0, .slice a1 l1 c1, .slice a2 l2 c2, .int .i64 x3], .int .i64 k0] W fun e W' => e = .returned (.int .i64 (k0 + (cntD (.l l0 3 cs0) : Nat) + (cntD (.l l1 1 cs1) : Nat) + (cntD (.l l2 1 cs2) : Nat))) ∧ Owns W' c B (mkD (k0) (.l l0 3 cs0)) (.slice a0 l0 c0) F0 ∧ Owns W' c B (mkD (k0 + (cntD (.l l0 3 cs0) : Nat)) (.l l1 1 cs1)) (.slice a1 l1 c1) F1 ∧ Owns W' c B (mkD (k0 + (cntD (.l l0 3 cs0) : Nat) + (cntD (.l l1 1 cs1) : Nat)) (.l l2 1 cs2)) (.slice a2 l2 c2) F2 ∧ OnlyF W W' (fun x => F0 x ∨ F1 x ∨ F2 x) := by
  go_enter Try.func7, Try.ntmps7
  obtain ⟨X0, EX0⟩ : ∃ X, X = W.alloc (.cells #[.slice a0 l0 c0, .slice a1 l1 c1, .slice a2 l2 c2, .int .i64 x3] 25) := ⟨_, rfl⟩
  have RA : Hid (X0.rowIs W.heap.size 25 4 (rowF [.slice a0 l0 c0, .slice a1 l1 c1, .slice a2 l2 c2, .int .i64 x3])) := by rw [EX0]; exact row_of W #[.slice a0 l0 c0, .slice a1 l1 c1, .slice a2 l2 c2, .int .i64 x3] 25
  have B0 : Below W.heap.size W X0 := by rw [EX0]; show Below _ _ _; go_grown
  have O0 : Hid (Owns X0 c B (.l l0 3 cs0) (.slice a0 l0 c0) F0) := h0.out.kept B0
  have O1 : Hid (Owns X0 c B (.l l1 1 cs1) (.slice a1 l1 c1) F1) := h1.out.kept B0
  have O2 : Hid (Owns X0 c B (.l l2 1 cs2) (.slice a2 l2 c2) F2) := h2.out.kept B0
  have ON : Hid (OnlyF W X0 (fun x => F0 x ∨ F1 x ∨ F2 x)) := OnlyF.of_below B0
  clear B0
  have hc0 := cnt_le thin_ObjectS hf0.out
  have HC0 : Hid (cntD (.l l0 3 cs0) ≤ 8388609) := by have q := hs0.out; show _ ≤ _; omega
  clear hc0
  have hc1 := cnt_le (s := shI) ⟨by decide, fun _ => trivial⟩ hf1.out
  have HC1 : Hid (cntD (.l l1 1 cs1) ≤ 8388609) := by have q := hs1.out; show _ ≤ _; omega
  clear hc1
  have hc2 := cnt_le (s := shI) ⟨by decide, fun _ => trivial⟩ hf2.out
  have HC2 : Hid (cntD (.l l2 1 cs2) ≤ 8388609) := by have q := hs2.out; show _ ≤ _; omega
  clear hc2
  go_wp2_with fail
  rw [← EX0]
  clear EX0
  refine (ObjectS_mark (k0) (by omega) (by omega) _ _ _ cs0 c _ B F0 hf0 hs0 O0).mono ?_
  obtain ⟨N0, HN0⟩ : ∃ N, Hid (cntD (.l l0 3 cs0) = N) := ⟨_, rfl⟩
  have hN0 : N0 ≤ 8388609 := by have q := HC0.out; rw [HN0.out] at q; exact q
  rw [HN0.out]
  rintro e w0 ⟨rfl, hO, hF⟩
  have P0 : Hid (Owns w0 c B (mkD (k0) (.l l0 3 cs0)) (.slice a0 l0 c0) F0) := hO
  have O1 : Hid (Owns w0 c B (.l l1 1 cs1) (.slice a1 l1 c1) F1) := hF.owns (fun x hx hy => D01 x hy hx) O1.out
  have O2 : Hid (Owns w0 c B (.l l2 1 cs2) (.slice a2 l2 c2) F2) := hF.owns (fun x hx hy => D02 x hy hx) O2.out
  have ON0 : Hid (OnlyF W w0 (fun x => F0 x ∨ F1 x ∨ F2 x)) := ON.out.trans (hF.more (fun x hx => Or.inl hx))
  have RA0 : Hid (w0.rowIs W.heap.size 25 4 (rowF [.slice a0 l0 c0, .slice a1 l1 c1, .slice a2 l2 c2, .int .i64 x3])) := RA.out.of_block (hF.block _ RA.out.lt (fun q => by have := u0.out _ q; omega))
  clear hF hO
  have y_1 : w0.cell? ⟨W.heap.size, 1, none⟩ = some (.slice a1 l1 c1) := RA0.out.cell (i := 1) (by decide)
  go_wp2_with fail
  clear y_1
  refine (IntS_mark (k0 + (N0 : Int)) (by omega) (by omega) _ _ _ cs1 c _ B F1 hf1 (Nat.le_trans (Nat.le_add_right _ _) hs1.out) O1).mono ?_
  obtain ⟨N1, HN1⟩ : ∃ N, Hid (cntD (.l l1 1 cs1) = N) := ⟨_, rfl⟩
  have hN1 : N1 ≤ 8388609 := by have q := HC1.out; rw [HN1.out] at q; exact q
  rw [HN1.out]
  rintro e w1 ⟨rfl, hO, hF⟩
  have P0 : Hid (Owns w1 c B (mkD (k0) (.l l0 3 cs0)) (.slice a0 l0 c0) F0) := hF.owns (fun x hx hy => D01 x hx hy) P0.out
  have P1 : Hid (Owns w1 c B (mkD (k0 + (N0 : Int)) (.l l1 1 cs1)) (.slice a1 l1 c1) F1) := hO
  have O2 : Hid (Owns w1 c B (.l l2 1 cs2) (.slice a2 l2 c2) F2) := hF.owns (fun x hx hy => D12 x hy hx) O2.out
  have ON1 : Hid (OnlyF W w1 (fun x => F0 x ∨ F1 x ∨ F2 x)) := ON0.out.trans (hF.more (fun x hx => Or.inr (Or.inl hx)))
  have RA1 : Hid (w1.rowIs W.heap.size 25 4 (rowF [.slice a0 l0 c0, .slice a1 l1 c1, .slice a2 l2 c2, .int .i64 x3])) := RA0.out.of_block (hF.block _ RA0.out.lt (fun q => by have := u1.out _ q; omega))
  clear hF hO
  have y_2 : w1.cell? ⟨W.heap.size, 2, none⟩ = some (.slice a2 l2 c2) := RA1.out.cell (i := 2) (by decide)
  go_wp2_with fail
  clear y_2
  refine (IntS_mark (k0 + (N0 : Int) + (N1 : Int)) (by omega) (by omega) _ _ _ cs2 c _ B F2 hf2 (Nat.le_trans (Nat.le_add_right _ _) hs2.out) O2).mono ?_
  obtain ⟨N2, HN2⟩ : ∃ N, Hid (cntD (.l l2 1 cs2) = N) := ⟨_, rfl⟩
  have hN2 : N2 ≤ 8388609 := by have q := HC2.out; rw [HN2.out] at q; exact q
  rw [HN2.out]
  rintro e w2 ⟨rfl, hO, hF⟩
  have P0 : Hid (Owns w2 c B (mkD (k0) (.l l0 3 cs0)) (.slice a0 l0 c0) F0) := hF.owns (fun x hx hy => D02 x hx hy) P0.out
  have P1 : Hid (Owns w2 c B (mkD (k0 + (N0 : Int)) (.l l1 1 cs1)) (.slice a1 l1 c1) F1) := hF.owns (fun x hx hy => D12 x hx hy) P1.out
  have P2 : Hid (Owns w2 c B (mkD (k0 + (N0 : Int) + (N1 : Int)) (.l l2 1 cs2)) (.slice a2 l2 c2) F2) := hO
  have ON2 : Hid (OnlyF W w2 (fun x => F0 x ∨ F1 x ∨ F2 x)) := ON1.out.trans (hF.more (fun x hx => Or.inr (Or.inr (hx))))
  clear hF hO
  go_wp2
  go_ret
  refine ⟨by rw [HN0.out, HN1.out, HN2.out]; rfl, (by have q := P0.out; exact q), (by have q := P1.out; rw [HN0.out]; exact q), (by have q := P2.out; rw [HN0.out, HN1.out]; exact q), ON2.out⟩
set_option maxRecDepth 100000 in
set_option maxHeartbeats 4000000 in
theorem Heap_held (k0 : Int) (h0k : 0 ≤ k0) (a0 : Option Addr) (l0 c0 : Nat) (cs0 : Nat → Dv) (a1 : Option Addr) (l1 c1 : Nat) (cs1 : Nat → Dv) (a2 : Option Addr) (l2 c2 : Nat) (cs2 : Nat → Dv) (x3 : Int) (c : Bool) (W : World) (hf0 : Hid (Fits shObjectS (.l l0 3 cs0))) (hs0 : Hid (szD (.l l0 3 cs0) ≤ 1048576)) (hf1 : Hid (Fits shI (.l l1 1 cs1))) (hs1 : Hid (szD (.l l1 1 cs1) ≤ 1048576)) (hf2 : Hid (Fits shI (.l l2 1 cs2))) (hs2 : Hid (szD (.l l2 1 cs2) ≤ 1048576)) (h1k : k0 + (cntD (.l l0 3 cs0) : Nat) + (cntD (.l l1 1 cs1) : Nat) + (cntD (.l l2 1 cs2) : Nat) ≤ 16777216) (h0 : Hid (Holds W c (mkD (k0) (.l l0 3 cs0)) (.slice a0 l0 c0))) (h1 : Hid (Holds W c (mkD (k0 + (cntD (.l l0 3 cs0) : Nat)) (.l l1 1 cs1)) (.slice a1 l1 c1))) (h2 : Hid (Holds W c (mkD (k0 + (cntD (.l l0 3 cs0) : Nat) + (cntD (.l l1 1 cs1) : Nat)) (.l l2 1 cs2)) (.slice a2 l2 c2))) : Calls Try.prog 8 #[.agg #[.slice a0 l0 c0, .slice a1 l1 c1, .slice a2 l2 c2, .int .i64 x3], .int .i64 k0] W fun e W' => e = .returned (.int .i64 (k0 + (cntD (.l l0 3 cs0) : Nat) + (cntD (.l l1 1 cs1) : Nat) + (cntD (.l l2 1 cs2) : Nat))) ∧ Below W.heap.size W W' := by
  obtain ⟨N0, HN0⟩ : ∃ N, Hid (cntD (.l l0 3 cs0) = N) := ⟨_, rfl⟩
  obtain ⟨N1, HN1⟩ : ∃ N, Hid (cntD (.l l1 1 cs1) = N) := ⟨_, rfl⟩
  obtain ⟨N2, HN2⟩ : ∃ N, Hid (cntD (.l l2 1 cs2) = N) := ⟨_, rfl⟩
  rw [HN0.out, HN1.out, HN2.out] at h1k
  go_enter Try.func8, Try.ntmps8
  obtain ⟨X0, EX0⟩ : ∃ X, X = W.alloc (.cells #[.slice a0 l0 c0, .slice a1 l1 c1, .slice a2 l2 c2, .int .i64 x3] 25) := ⟨_, rfl⟩
  have RA : Hid (X0.rowIs W.heap.size 25 4 (rowF [.slice a0 l0 c0, .slice a1 l1 c1, .slice a2 l2 c2, .int .i64 x3])) := by rw [EX0]; exact row_of W #[.slice a0 l0 c0, .slice a1 l1 c1, .slice a2 l2 c2, .int .i64 x3] 25
  have B0 : Hid (Below W.heap.size W X0) := by rw [EX0]; show Below _ _ _; go_grown
  have H0 : Hid (Holds X0 c (mkD (k0) (.l l0 3 cs0)) (.slice a0 l0 c0)) := by have q := h0.out.kept B0.out; exact q
  have H1 : Hid (Holds X0 c (mkD (k0 + (N0 : Int)) (.l l1 1 cs1)) (.slice a1 l1 c1)) := by have q := h1.out.kept B0.out; rw [HN0.out] at q; exact q
  have H2 : Hid (Holds X0 c (mkD (k0 + (N0 : Int) + (N1 : Int)) (.l l2 1 cs2)) (.slice a2 l2 c2)) := by have q := h2.out.kept B0.out; rw [HN0.out, HN1.out] at q; exact q
  have y_1 : X0.cell? ⟨W.heap.size, 1, none⟩ = some (.slice a1 l1 c1) := RA.out.cell (i := 1) (by decide)
  have y_2 : X0.cell? ⟨W.heap.size, 2, none⟩ = some (.slice a2 l2 c2) := RA.out.cell (i := 2) (by decide)
  go_wp2_with fail
  rw [← EX0]
  clear EX0
  refine (ObjectS_held (k0) (by omega) _ _ _ cs0 c _ hf0 hs0 (by rw [HN0.out]; omega) H0).mono ?_
  rw [HN0.out]
  rintro e w' ⟨rfl, hw⟩
  rw [hw]
  clear hw w'
  have kp0 : 0 ≤ k0 + (N0 : Int) := by omega
  go_wp2_with fail
  refine (IntS_held (k0 + (N0 : Int)) (by omega) (by omega) _ _ _ cs1 c _ hf1 (Nat.le_trans (Nat.le_add_right _ _) hs1.out) H1).mono ?_
  rw [HN1.out]
  rintro e w' ⟨rfl, hw⟩
  rw [hw]
  clear hw w'
  have kp1 : 0 ≤ k0 + (N0 : Int) + (N1 : Int) := by omega
  go_wp2_with fail
  refine (IntS_held (k0 + (N0 : Int) + (N1 : Int)) (by omega) (by omega) _ _ _ cs2 c _ hf2 (Nat.le_trans (Nat.le_add_right _ _) hs2.out) H2).mono ?_
  rw [HN2.out]
  rintro e w' ⟨rfl, hw⟩
  rw [hw]
  clear hw w'
  have kp2 : 0 ≤ k0 + (N0 : Int) + (N1 : Int) + (N2 : Int) := by omega
  go_wp2
  go_ret
  exact ⟨by rw [HN0.out, HN1.out, HN2.out]; rfl, B0.out⟩
end Go.Proofs.Ytolappfgeknmpaa.deep
