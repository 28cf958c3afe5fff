/-
  What the laws' own helpers do on data: SStepS, S:Frame, TBlockS, S:Run.
-/
import Derived.Test.YtdacpbhdemkacaaProg
import Derived.Test.YtdacpbhdemkacaaDeep
import Derived.Test.YtdacpbhdemkacaaDeepOpen
import Derived.Test.YtdacpbhdemkacaaDeepRow
import Derived.WalkKit
import Derived.WalkSpells
import Derived.Below
import Derived.Handy
import Derived.Deep.OwnRows
import Derived.Deep.RegionWith
import Derived.Laws.MakeOwn
namespace Go.Proofs.Ytdacpbhdemkacaa.deep
open Go.RowKit Go.Proofs.Ytdacpbhdemkacaa.ints
set_option linter.unusedVariables false

def shSStepS : Sh := .l 2 (fun i => match i with | 0 => .n | _ => .n)
theorem thin_SStepS : Thin shSStepS := ⟨by decide, fun i => by
  show Thin (match i with | 0 => .n | _ => .n)
  split
  · exact trivial
  · exact trivial⟩
theorem SStep_to (x0 : Int) (x1 : Int) (W : World) : Calls Try.prog 31 #[.agg #[.int .i64 x0, .int .i64 x1]] W fun e W' => e = .returned (.agg #[.int .i64 x0, .int .i64 x1]) ∧ Below W.heap.size W W' := by
  go_enter Try.func31, Try.ntmps31
  go_wp2
  refine bodyPost_ret (v := .agg #[.int .i64 x0, .int .i64 x1]) (by simp [results, Try.results31, go_sem]) rfl ⟨rfl, by go_grown⟩
theorem SStepS_info : (Try.prog.info? 49).map (fun i => (i.zero, i.size, i.bytes)) = some (some (.agg #[.int .i64 0, .int .i64 0]), 2, 16) := by kernel_rfl
def SStepS_zero (i : Nat) : Value := rowF [.int .i64 0, .int .i64 0] i
theorem SStepS_made (n i : Nat) (hi : i < n) : (madeCells #[.int .i64 0, .int .i64 0] n)[i]? = some (SStepS_zero (i % 2)) := by
  have h : i % 2 < 2 := Nat.mod_lt _ (by decide)
  simp only [madeCells, Array.getElem?_map, Array.getElem?_range, hi, if_true, Option.map_some, SStepS_zero]
  generalize i % 2 = j at h
  congr 1
  match j, h with
  | 0, _ => rfl
  | 1, _ => rfl
  | j + 2, h => omega
set_option maxRecDepth 100000 in
set_option maxHeartbeats 4000000 in
theorem SStepS_to (a : Option Addr) (len cap : Nat) (cs : Nat → Dv) (c : Bool) (W : World) (hf : Hid (Fits shSStepS (.l len 2 cs))) (hs : Hid (szD (.l len 2 cs) ≤ 1048576)) (h : Hid (Holds W c (.l len 2 cs) (.slice a len cap))) :
    Calls Try.prog 10 #[.slice a len cap] W fun e W' => e = .returned (.slice (some ⟨W.heap.size, 0, none⟩) len len) ∧ Owns W' true W.heap.size (.l len 2 cs) (.slice (some ⟨W.heap.size, 0, none⟩) len len) (rng W.heap.size W'.heap.size) ∧ Below W.heap.size W W' := by
  have hlen : len ≤ 1048576 := Nat.le_trans (Nat.le_add_right _ _) hs.out
  obtain ⟨i0, hi, hz0, hz1, hz2⟩ := parts_of SStepS_info
  have hmk : ∀ w : World, (Instr.makeSlice 25 (.int .i64 (len : Int)) (.int .i64 (len : Int))).run Try.prog w = .ok (.slice (some ⟨w.heap.size, 0, none⟩) len len) (w.alloc (.cells (madeCells #[.int .i64 0, .int .i64 0] (len * 2)) 49)) := by
    intro w
    have hr := run_make (P := Try.prog) w 25 49 i0 _ Try.underlying25 hi hz0 .i64 .i64 (len : Int) (len : Int) (by omega) (Int.le_refl _) (by rw [hz2]; omega) (by omega)
    simp only [Int.toNat_natCast] at hr
    rw [hr, hz1]; rfl
  clear hi hz0 hz1 hz2
  go_enter Try.func10, Try.ntmps10
  go_wp2
  clear hmk
  go_loopw [4] (fun vi wr => ∃ (k : Nat) (U : Nat → Value), k ≤ len ∧ vi = .int .i64 k ∧ Hid (wr.rowIs W.heap.size 49 (len * 2) (fun j => if j < k * 2 then U j else SStepS_zero (j % 2))) ∧ Hid (Rowed wr true W.heap.size cs U (k * 2) (rng (W.heap.size + 1) wr.heap.size)) ∧ Hid (Below W.heap.size W wr)) (fun vi _ => len - (intOf vi).toNat)
  case atStart =>
    refine ⟨0, fun _ => .bool false, Nat.zero_le _, rfl, ?_, ?_, ?_⟩
    · have h := World.rowIs_alloc W (madeCells #[.int .i64 0, .int .i64 0] (len * 2)) 49 (fun j => SStepS_zero (j % 2)) (fun i hi => SStepS_made _ i (by rw [size_madeCells] at hi; exact hi))
      rw [size_madeCells] at h
      exact h.congr (fun i hi => by rw [if_neg (by omega)])
    · show Rowed _ _ _ _ _ _ _
      rw [Nat.zero_mul]; exact Rowed.nil _ _ _ _ _ _
    · show Below _ _ _
      go_grown
  case round =>
    obtain ⟨k, U, hk, rfl, HR, HO, HB⟩ := hrel
    by_cases hlt : k < len
    rotate_left
    · have HK : Hid (k = len) := by show k = len; omega
      go_wp2
      go_ret
      refine ⟨rfl, ?_, HB.out⟩
      have hr := HR.out.congr (g := U) (fun i hi => by rw [if_pos (by rw [HK.out]; exact hi)])
      have ho := HO.out
      rw [HK.out] at ho
      exact ho.owns hr (Nat.le_refl _) (fun q => by have := q.1; omega) (fun x hx => ⟨by have := hx.1; omega, hx.2⟩) ⟨Nat.le_refl _, HR.out.lt⟩ (fun _ => ⟨Nat.le_refl _, hlen⟩)
    have hltI : (k : Int) < (len : Int) := by omega
    have hkn : (k + 1) * 2 ≤ len * 2 := Nat.mul_le_mul_right _ hlt
    rw [Nat.add_mul] at hkn
    obtain ⟨b, o, ha, hb, hcell⟩ := h.out.cells HB.out (show 0 < len * 2 by omega)
    subst ha
    have hbs : W.heap.size < wr.heap.size := HR.out.lt
    have hbw : b < wr.heap.size := by omega
    obtain ⟨u0, d0, q0⟩ := hcell (k * 2) (by omega)
    obtain ⟨x0, E0⟩ := (hf.out.cell hlt (c := 0) (by decide)).int
    have E0 : Hid (cs (k * 2) = .n x0) := E0
    rw [E0.out] at q0
    have q0 : u0 = .int .i64 x0 := q0
    subst q0
    obtain ⟨u1, d1, q1⟩ := hcell (k * 2 + 1) (by omega)
    rw [← Nat.add_assoc] at d1
    obtain ⟨x1, E1⟩ := (hf.out.cell hlt (c := 1) (by decide)).int
    have E1 : Hid (cs (k * 2 + 1) = .n x1) := E1
    rw [E1.out] at q1
    have q1 : u1 = .int .i64 x1 := q1
    subst q1
    clear hcell
    have hB0 : Hid (Below wr.heap.size wr wr) := Below.refl _ _
    go_wp2_with fail
    refine (SStep_to x0 x1 _).mono ?_
    rintro e w1 ⟨rfl, hB1⟩
    have HC1 : Hid (w1.rowIs W.heap.size 49 (len * 2) (fun j => if j < k * 2 then U j else SStepS_zero (j % 2))) := HR.out.of_block (hB1.block _ hbs)
    have HO1 : Hid (Rowed w1 true W.heap.size cs U (k * 2) (rng (W.heap.size + 1) wr.heap.size)) := HO.out.kept hB1
    have HB1 : Hid (Below W.heap.size W w1) := HB.out.trans (hB1.mono HB.out.size)
    have hws : wr.heap.size ≤ w1.heap.size := hB1.size
    clear hB1 HR HO
    have d0' := HC1.out.cell (i := k * 2) (by omega)
    have f0' := HC1.out.frozen (k * 2)
    rw [if_neg (by omega)] at d0'
    rw [show (k * 2) % 2 = 0 by omega] at d0'
    have d0' : w1.cell? ⟨W.heap.size, k * 2, none⟩ = some (.int .i64 0) := d0'
    have d1' := HC1.out.cell (i := k * 2 + 1) (by omega)
    have f1' := HC1.out.frozen (k * 2 + 1)
    rw [if_neg (by omega)] at d1'
    rw [show (k * 2 + 1) % 2 = 1 by omega] at d1'
    have d1' : w1.cell? ⟨W.heap.size, k * 2 + 1, none⟩ = some (.int .i64 0) := d1'
    go_wp2
    go_roundw
    case rel =>
      obtain ⟨V, hV⟩ : ∃ V : Nat → Value, V = fun j => if j = k * 2 then .int .i64 x0 else if j = k * 2 + 1 then .int .i64 x1 else U j := ⟨_, rfl⟩
      have uk : ∀ j, j < k * 2 → U j = V j := fun j hj => by rw [hV]; simp only []; rw [if_neg (show ¬ j = k * 2 by omega), if_neg (show ¬ j = k * 2 + 1 by omega)]
      have u0' : V (k * 2) = .int .i64 x0 := by rw [hV]; simp
      have u1' : V (k * 2 + 1) = .int .i64 x1 := by rw [hV]; simp
      refine ⟨k + 1, V, by omega, by go_num, ?_, ?_, ?_⟩
      · refine World.rowIs.congr ((HC1.out.set (k * 2) (.int .i64 x0)).set (k * 2 + 1) (.int .i64 x1)) ?_
        intro j hj
        rcases (show j = k * 2 ∨ j = k * 2 + 1 ∨ j < k * 2 ∨ (k + 1) * 2 ≤ j by omega) with rfl | rfl | h | h
        · rw [if_pos (show k * 2 < (k + 1) * 2 by omega), u0']; simp
        · rw [if_pos (show k * 2 + 1 < (k + 1) * 2 by omega), u1']; simp
        · rw [if_pos (show j < (k + 1) * 2 by omega), if_neg (show ¬ j = k * 2 + 1 by omega), if_neg (show ¬ j = k * 2 by omega), if_pos h, uk j h]
        · rw [if_neg (show ¬ j < (k + 1) * 2 by omega), if_neg (show ¬ j = k * 2 + 1 by omega), if_neg (show ¬ j = k * 2 by omega), if_neg (show ¬ j < k * 2 by omega)]
      · show Rowed _ _ _ _ _ _ _
        have hr : Rowed w1 true W.heap.size cs V (k * 2) (rng (W.heap.size + 1) w1.heap.size) := (HO1.out.congr uk).more (fun x hx => ⟨hx.1, by have := hx.2; omega⟩)
        have hr0 := hr.flat (by rw [u0', E0.out]; exact rfl)
        have hr1 := hr0.flat (by rw [u1', E1.out]; exact rfl)
        rw [show (k + 1) * 2 = k * 2 + 1 + 1 by omega]
        refine Rowed.more (hr1.agree (by simp [World.setCell]) (fun b hb _ => ?_)) (fun x hx => ⟨hx.1, by have := hx.2; simpa [World.setCell] using this⟩)
        have hne : b ≠ W.heap.size := by have := hb.1; omega
        iterate 2 rw [Below.heap_setCell _ _ _ _ (show b ≠ W.heap.size from hne)]
      · show Below _ _ _
        refine Below.trans HB1.out ?_
        go_grown
    case measure => simp [intOf]; omega
set_option maxRecDepth 100000 in
set_option maxHeartbeats 4000000 in
theorem SStep_eq (x0 : Int) (x1 : Int) (c c' : Bool) (W : World) : Calls Try.prog 32 #[.agg #[.int .i64 x0, .int .i64 x1], .agg #[.int .i64 x0, .int .i64 x1]] W fun e W' => e = .returned (.bool true) ∧ Below W.heap.size W W' := by
  have ne0 : (x0 != x0) = false := by simp
  have ne1 : (x1 != x1) = false := by simp
  go_enter Try.func32, Try.ntmps32
  go_wp2
  go_ret
  exact ⟨rfl, by go_grown⟩
set_option maxRecDepth 100000 in
set_option maxHeartbeats 4000000 in
theorem SStepS_eq (a a' : Option Addr) (len cap cap' : Nat) (cs : Nat → Dv) (c c' : Bool) (W : World) (hf : Hid (Fits shSStepS (.l len 2 cs))) (hs : Hid (szD (.l len 2 cs) ≤ 1048576)) (h : Hid (Holds W c (.l len 2 cs) (.slice a len cap))) (h' : Hid (Holds W c' (.l len 2 cs) (.slice a' len cap'))) :
    Calls Try.prog 12 #[.slice a len cap, .slice a' len cap'] W fun e W' => e = .returned (.bool true) ∧ Below W.heap.size W W' := by
  have hlen : len ≤ 1048576 := Nat.le_trans (Nat.le_add_right _ _) hs.out
  go_enter Try.func12, Try.ntmps12
  go_wp2
  go_loopw [5] (fun vi wr => ∃ k : Nat, k ≤ len ∧ vi = .int .i64 k ∧ Hid (Below W.heap.size W wr)) (fun vi _ => len - (intOf vi).toNat)
  case atStart => exact ⟨0, Nat.zero_le _, rfl, Below.refl _ _⟩
  case round =>
    obtain ⟨k, hk, rfl, HB⟩ := hrel
    by_cases hlt : k < len
    rotate_left
    · go_wp2
      go_ret
      exact ⟨rfl, HB.out⟩
    have hltI : (k : Int) < (len : Int) := by omega
    have hkn : (k + 1) * 2 ≤ len * 2 := Nat.mul_le_mul_right _ hlt
    rw [Nat.add_mul] at hkn
    obtain ⟨b, o, ha, hb, hcell⟩ := h.out.cells HB.out (show 0 < len * 2 by omega)
    obtain ⟨b', o', ha', hb', hcell'⟩ := h'.out.cells HB.out (show 0 < len * 2 by omega)
    subst ha ha'
    have hbw : b < wr.heap.size := by have := HB.out.size; omega
    have hbw' : b' < wr.heap.size := by have := HB.out.size; omega
    obtain ⟨u0, d0, q0⟩ := hcell (k * 2) (by omega)
    obtain ⟨v0, g0, r0⟩ := hcell' (k * 2) (by omega)
    obtain ⟨x0, E0⟩ := (hf.out.cell hlt (c := 0) (by decide)).int
    have E0 : cs (k * 2) = .n x0 := E0
    rw [E0] at q0 r0
    have q0 : u0 = .int .i64 x0 := q0
    have r0 : v0 = .int .i64 x0 := r0
    subst q0 r0
    clear E0
    obtain ⟨u1, d1, q1⟩ := hcell (k * 2 + 1) (by omega)
    obtain ⟨v1, g1, r1⟩ := hcell' (k * 2 + 1) (by omega)
    rw [← Nat.add_assoc] at d1 g1
    obtain ⟨x1, E1⟩ := (hf.out.cell hlt (c := 1) (by decide)).int
    have E1 : cs (k * 2 + 1) = .n x1 := E1
    rw [E1] at q1 r1
    have q1 : u1 = .int .i64 x1 := q1
    have r1 : v1 = .int .i64 x1 := r1
    subst q1 r1
    clear E1
    clear hcell hcell'
    have HD : Hid (Below W.heap.size W wr.drew) := HB.out.drew
    go_wp2_with fail
    go_region_with (go_at_call 32; refine (SStep_eq x0 x1 c c' _  ).mono ?_; rintro e w' ⟨rfl, hb⟩; have HX : Hid (Below W.heap.size W w') := HD.out.trans (hb.mono HD.out.size); clear hb)
    all_goals
      go_wp2
      go_roundw
      case rel => exact ⟨k + 1, by omega, by go_num, HX.out⟩
      case measure => simp [intOf]; omega
set_option maxRecDepth 100000 in
set_option maxHeartbeats 4000000 in
theorem SStepS_mark (k0 : Int) (h0 : 0 ≤ k0) (h1 : k0 ≤ 1000000000) (a : Option Addr) (len cap : Nat) (cs : Nat → Dv) (c : Bool) (W : World) (B : Nat) (F : Nat → Prop) (hf : Hid (Fits shSStepS (.l len 2 cs))) (hs : Hid (szD (.l len 2 cs) ≤ 1048576)) (h : Hid (Owns W c B (.l len 2 cs) (.slice a len cap) F)) :
    Calls Try.prog 16 #[.slice a len cap, .int .i64 k0] W fun e W' => e = .returned (.int .i64 (k0 + (cntD (.l len 2 cs) : Nat))) ∧ Owns W' c B (mkD k0 (.l len 2 cs)) (.slice a len cap) F ∧ OnlyF W W' F := by
  have hlen : len ≤ 1048576 := Nat.le_trans (Nat.le_add_right _ _) hs.out
  have hcn : sumTo (fun j => cntD (cs j)) (len * 2) ≤ 8388609 := by have q := cnt_le thin_SStepS hf.out; have q2 := hs.out; simp only [cntD] at q; omega
  have hmo : ∀ m, m ≤ len * 2 → sumTo (fun j => cntD (cs j)) m ≤ 8388609 := fun m hm => Nat.le_trans (sumTo_mono _ _ hm) hcn
  have HMO : Hid (∀ m, m ≤ len * 2 → sumTo (fun j => cntD (cs j)) m ≤ 8388609) := hmo
  clear hcn hmo
  go_enter Try.func16, Try.ntmps16
  go_wp2
  go_loopw [1, 5] (fun vk vi wr => ∃ k : Nat, k ≤ len ∧ vi = .int .i64 k ∧ vk = .int .i64 (k0 + (sumTo (fun j => cntD (cs j)) (k * 2) : Nat)) ∧ Hid (Owns wr c B (.l len 2 (fun j => if j < k * 2 then mkD (k0 + (sumTo (fun j => cntD (cs j)) j : Nat)) (cs j) else cs j)) (.slice a len cap) F) ∧ Hid (OnlyF W wr F)) (fun _ vi _ => len - (intOf vi).toNat)
  case atStart => exact ⟨0, Nat.zero_le _, rfl, by simp [sumTo], h.out.congr (fun i hi => by rw [if_neg (by omega)]), OnlyF.refl _ _⟩
  case round =>
    obtain ⟨k, hk, rfl, rfl, HO, HB⟩ := hrel
    by_cases hlt : k < len
    rotate_left
    · have HK : Hid (k = len) := by show k = len; omega
      go_wp2
      go_ret
      refine ⟨by rw [HK.out]; rfl, ?_, HB.out⟩
      exact HO.out.congr (fun i hi => by rw [if_pos (by rw [HK.out]; exact hi)])
    have hltI : (k : Int) < (len : Int) := by omega
    have hkn : (k + 1) * 2 ≤ len * 2 := Nat.mul_le_mul_right _ hlt
    rw [Nat.add_mul] at hkn
    obtain ⟨b, o, ha, hbw⟩ := HO.out.addr (show 0 < len * 2 by omega)
    subst ha
    have hk1 := HMO.out (k * 2) (by omega)
    obtain ⟨kk, HKK⟩ : ∃ kk : Int, Hid (k0 + (sumTo (fun j => cntD (cs j)) (k * 2) : Nat) = kk) := ⟨_, rfl⟩
    have kk0 : 0 ≤ kk := by have := HKK.out; omega
    have kk1 : kk ≤ 1000000000 + 8388609 := by have := HKK.out; omega
    rw [HKK.out]
    clear hk1
    obtain ⟨x0, E0⟩ := (hf.out.cell hlt (c := 0) (by decide)).int
    have E0 : Hid (cs (k * 2) = .n x0) := E0
    obtain ⟨x1, E1⟩ := (hf.out.cell hlt (c := 1) (by decide)).int
    have E1 : Hid (cs (k * 2 + 1) = .n x1) := E1
    have HO0 : Hid (Owns wr c B (.l len 2 (fun j => if j < k * 2 then mkD (k0 + (sumTo (fun j => cntD (cs j)) j : Nat)) (cs j) else cs j)) (.slice (some ⟨b, o, none⟩) len cap) F) := HO
    clear HO
    obtain ⟨d0, f0, s0⟩ := HO0.out.num (j := k * 2) (y := x0) (by omega) (by show (if _ then _ else _) = _; rw [if_neg (by omega)]; exact E0.out)
    obtain ⟨s0, t0⟩ := s0 (kk)
    have HO1 : Hid (Owns (wr.setCell ⟨b, o + k * 2, none⟩ (.int .i64 (kk))) c B (.l len 2 (updD (fun j => if j < k * 2 then mkD (k0 + (sumTo (fun j => cntD (cs j)) j : Nat)) (cs j) else cs j) (k * 2) (.n (kk)))) (.slice (some ⟨b, o, none⟩) len cap) F) := s0
    have HB1 : Hid (OnlyF W (wr.setCell ⟨b, o + k * 2, none⟩ (.int .i64 (kk))) F) := HB.out.trans t0
    clear s0 t0
    obtain ⟨d1, f1, s1⟩ := HO1.out.num (j := k * 2 + 1) (y := x1) (by omega) (by rw [updD_other _ _ (show k * 2 + 1 ≠ k * 2 by omega)]; show (if _ then _ else _) = _; rw [if_neg (by omega)]; exact E1.out)
    obtain ⟨s1, t1⟩ := s1 (kk + 1)
    rw [← Nat.add_assoc] at d1 f1 s1 t1
    have HO2 : Hid (Owns ((wr.setCell ⟨b, o + k * 2, none⟩ (.int .i64 (kk))).setCell ⟨b, o + k * 2 + 1, none⟩ (.int .i64 (kk + 1))) c B (.l len 2 (updD (updD (fun j => if j < k * 2 then mkD (k0 + (sumTo (fun j => cntD (cs j)) j : Nat)) (cs j) else cs j) (k * 2) (.n (kk))) (k * 2 + 1) (.n (kk + 1)))) (.slice (some ⟨b, o, none⟩) len cap) F) := s1
    have HB2 : Hid (OnlyF W ((wr.setCell ⟨b, o + k * 2, none⟩ (.int .i64 (kk))).setCell ⟨b, o + k * 2 + 1, none⟩ (.int .i64 (kk + 1))) F) := HB1.out.trans t1
    clear s1 t1
    go_wp2
    go_roundw
    case rel =>
      have e1 : sumTo (fun j => cntD (cs j)) ((k + 1) * 2) = sumTo (fun j => cntD (cs j)) (k * 2) + cntD (cs (k * 2)) + cntD (cs (k * 2 + 1)) := by rw [show (k + 1) * 2 = k * 2 + 1 + 1 by omega]; rfl
      have n0 : cntD (cs (k * 2)) = 1 := by rw [E0.out]; exact rfl
      have n1 : cntD (cs (k * 2 + 1)) = 1 := by rw [E1.out]; exact rfl
      have m1 : sumTo (fun j => cntD (cs j)) (k * 2 + 1) = sumTo (fun j => cntD (cs j)) (k * 2) + cntD (cs (k * 2)) := rfl
      have hkk := HKK.out
      refine ⟨k + 1, by omega, by go_num, ?_, ?_, HB2⟩
      · rw [e1, n0, n1]
        congr 1
        omega
      · refine HO2.out.congr ?_
        intro j hj
        rcases (show j = k * 2 ∨ j = k * 2 + 1 ∨ j < k * 2 ∨ (k + 1) * 2 ≤ j by omega) with e0 | e0 | h | h
        · rw [e0, if_pos (show k * 2 < (k + 1) * 2 by omega), updD_other _ _ (show k * 2 ≠ k * 2 + 1 by omega), updD_same, E0.out]
          rw [show k0 + (sumTo (fun j => cntD (cs j)) (k * 2) : Nat) = kk by omega]
          rfl
        · rw [e0, if_pos (show k * 2 + 1 < (k + 1) * 2 by omega), updD_same, E1.out]
          rw [show k0 + (sumTo (fun j => cntD (cs j)) (k * 2 + 1) : Nat) = kk + 1 by rw [m1, n0]; omega]
          rfl
        · rw [updD_other _ _ (show j ≠ k * 2 + 1 by omega), updD_other _ _ (show j ≠ k * 2 by omega), if_pos h, if_pos (show j < (k + 1) * 2 by omega)]
        · rw [updD_other _ _ (show j ≠ k * 2 + 1 by omega), updD_other _ _ (show j ≠ k * 2 by omega), if_neg (show ¬ j < k * 2 by omega), if_neg (show ¬ j < (k + 1) * 2 by omega)]
    case measure => simp [intOf]; omega
set_option maxRecDepth 100000 in
set_option maxHeartbeats 4000000 in
theorem SStepS_size (a : Option Addr) (len cap : Nat) (cs : Nat → Dv) (l : Int) (W : World) (hf : Hid (Fits shSStepS (.l len 2 cs))) (hl : Hid (Lens (.l len 2 cs))) (h0 : 0 ≤ l) (h1 : l ≤ 1048576) :
    Calls Try.prog 8 #[.slice a len cap, .int .i64 l] W fun e W' => e = .returned (.int .i64 (if (szD (.l len 2 cs) : Int) ≤ l then l - (szD (.l len 2 cs) : Int) else -1)) ∧ W' = W := by
  have hc : szD (.l len 2 cs) = len := by
    show len + sumTo _ _ = _
    rw [sz_none (fun i hi => by
      have q := hf.out.2 i hi
      have hm : i % 2 < 2 := Nat.mod_lt _ (by decide)
      generalize i % 2 = m at q hm
      match m, hm, q with
      | 0, _, q => obtain ⟨x, hx⟩ := Fits.int q; rw [hx]; rfl
      | 1, _, q => obtain ⟨x, hx⟩ := Fits.int q; rw [hx]; rfl
      | m + 2, hm, _ => omega)]; omega
  have hm := hl.out.1
  unfold maxLen at hm
  rw [hc]
  by_cases h : (len : Int) ≤ l
  · rw [if_pos h]
    go_enter Try.func8, Try.ntmps8
    go_wp2
    go_ret
    exact ⟨rfl, rfl⟩
  · rw [if_neg h]
    have h' : l < (len : Int) := by omega
    clear h
    go_enter Try.func8, Try.ntmps8
    go_wp2
    go_ret
    exact ⟨rfl, rfl⟩
set_option maxRecDepth 100000 in
set_option maxHeartbeats 4000000 in
theorem Frame_to (a0 : Option Addr) (l0 c0 : Nat) (cs0 : Nat → Dv) (a1 : Option Addr) (l1 c1 : Nat) (cs1 : Nat → Dv) (a2 : Option Addr) (l2 c2 : Nat) (cs2 : Nat → Dv) (c : Bool) (W : World) (hf0 : Hid (Fits shI (.l l0 1 cs0))) (hs0 : Hid (szD (.l l0 1 cs0) ≤ 1048576)) (h0 : Hid (Holds W c (.l l0 1 cs0) (.slice a0 l0 c0))) (hf1 : Hid (Fits shI (.l l1 1 cs1))) (hs1 : Hid (szD (.l l1 1 cs1) ≤ 1048576)) (h1 : Hid (Holds W c (.l l1 1 cs1) (.slice a1 l1 c1))) (hf2 : Hid (Fits shI (.l l2 1 cs2))) (hs2 : Hid (szD (.l l2 1 cs2) ≤ 1048576)) (h2 : Hid (Holds W c (.l l2 1 cs2) (.slice a2 l2 c2))) : Calls Try.prog 21 #[.agg #[.slice a0 l0 c0, .slice a1 l1 c1, .slice a2 l2 c2]] W fun e W' => ∃ g0 g1 g2 p1 p2, e = .returned (.agg #[.slice (some ⟨g0, 0, none⟩) l0 l0, .slice (some ⟨g1, 0, none⟩) l1 l1, .slice (some ⟨g2, 0, none⟩) l2 l2]) ∧ Owns W' true W.heap.size (.l l0 1 cs0) (.slice (some ⟨g0, 0, none⟩) l0 l0) (rng W.heap.size p1) ∧ Owns W' true W.heap.size (.l l1 1 cs1) (.slice (some ⟨g1, 0, none⟩) l1 l1) (rng p1 p2) ∧ Owns W' true W.heap.size (.l l2 1 cs2) (.slice (some ⟨g2, 0, none⟩) l2 l2) (rng p2 W'.heap.size) ∧ W.heap.size ≤ p1 ∧ p1 ≤ p2 ∧ p2 ≤ W'.heap.size ∧ Below W.heap.size W W' := by
  go_enter Try.func21, Try.ntmps21
  obtain ⟨X0, EX0⟩ : ∃ X, X = ((W.alloc (.cells #[.slice a0 l0 c0, .slice a1 l1 c1, .slice a2 l2 c2] 36)).alloc (.cells #[.slice none 0 0, .slice none 0 0, .slice none 0 0] 39)).alloc (.cells #[.slice none 0 0, .slice none 0 0, .slice none 0 0] 39) := ⟨_, rfl⟩
  have RA : Hid (X0.rowIs W.heap.size 36 3 (rowF [.slice a0 l0 c0, .slice a1 l1 c1, .slice a2 l2 c2])) := by rw [EX0]; exact ((row_of W #[.slice a0 l0 c0, .slice a1 l1 c1, .slice a2 l2 c2] 36).alloc _).alloc _
  have RR : Hid (X0.rowIs (W.heap.size + 1) 39 3 (rowF [.slice none 0 0, .slice none 0 0, .slice none 0 0])) := by
    rw [EX0]
    have q := (row_of (W.alloc (.cells #[.slice a0 l0 c0, .slice a1 l1 c1, .slice a2 l2 c2] 36)) #[.slice none 0 0, .slice none 0 0, .slice none 0 0] 39)
    rw [show (W.alloc (.cells #[.slice a0 l0 c0, .slice a1 l1 c1, .slice a2 l2 c2] 36)).heap.size = W.heap.size + 1 by simp] at q
    exact q.alloc _
  have RO : Hid (X0.rowIs (W.heap.size + 1 + 1) 39 3 (rowF [.slice none 0 0, .slice none 0 0, .slice none 0 0])) := by
    rw [EX0]
    have q := (row_of ((W.alloc (.cells #[.slice a0 l0 c0, .slice a1 l1 c1, .slice a2 l2 c2] 36)).alloc (.cells #[.slice none 0 0, .slice none 0 0, .slice none 0 0] 39)) #[.slice none 0 0, .slice none 0 0, .slice none 0 0] 39)
    rw [show ((W.alloc (.cells #[.slice a0 l0 c0, .slice a1 l1 c1, .slice a2 l2 c2] 36)).alloc (.cells #[.slice none 0 0, .slice none 0 0, .slice none 0 0] 39)).heap.size = W.heap.size + 1 + 1 by simp] at q
    exact q
  have B0 : Hid (Below W.heap.size W X0) := by rw [EX0]; show Below _ _ _; go_grown
  have s0 : X0.heap.size = W.heap.size + 1 + 1 + 1 := by rw [EX0]; simp
  have x_0 : X0.cell? ⟨W.heap.size, 0, none⟩ = some (.slice a0 l0 c0) := RA.out.cell (i := 0) (by decide)
  have x_1 : X0.cell? ⟨W.heap.size, 1, none⟩ = some (.slice a1 l1 c1) := RA.out.cell (i := 1) (by decide)
  have x_2 : X0.cell? ⟨W.heap.size, 2, none⟩ = some (.slice a2 l2 c2) := RA.out.cell (i := 2) (by decide)
  have o_0 : X0.cell? ⟨W.heap.size + 1 + 1, 0, none⟩ = some (.slice none 0 0) := RO.out.cell (i := 0) (by decide)
  have p_0 : X0.frozen? ⟨W.heap.size + 1 + 1, 0, none⟩ = false := RO.out.frozen 0
  have o_1 : X0.cell? ⟨W.heap.size + 1 + 1, 1, none⟩ = some (.slice none 0 0) := RO.out.cell (i := 1) (by decide)
  have p_1 : X0.frozen? ⟨W.heap.size + 1 + 1, 1, none⟩ = false := RO.out.frozen 1
  have o_2 : X0.cell? ⟨W.heap.size + 1 + 1, 2, none⟩ = some (.slice none 0 0) := RO.out.cell (i := 2) (by decide)
  have p_2 : X0.frozen? ⟨W.heap.size + 1 + 1, 2, none⟩ = false := RO.out.frozen 2
  go_wp2_with fail
  rw [← EX0]
  clear x_0 o_0 p_0 x_1 o_1 p_1 x_2 o_2 p_2
  refine (IntS_to _ _ _ cs0 c _ hf0 (Nat.le_trans (Nat.le_add_right _ _) hs0.out) (h0.out.kept B0.out)).mono ?_
  rintro e w0 ⟨rfl, hO, hB⟩
  have O0 : Hid (Owns w0 true X0.heap.size (.l l0 1 cs0) (.slice (some ⟨X0.heap.size, 0, none⟩) l0 l0) (rng X0.heap.size w0.heap.size)) := hO
  have sz0 : X0.heap.size ≤ w0.heap.size := hB.size
  have HA0 : Hid (w0.rowIs W.heap.size 36 3 (rowF [.slice a0 l0 c0, .slice a1 l1 c1, .slice a2 l2 c2])) := RA.out.of_block (hB.block _ RA.out.lt)
  have HR0 : Hid (w0.rowIs (W.heap.size + 1) 39 3 (rowF [.slice none 0 0, .slice none 0 0, .slice none 0 0])) := RR.out.of_block (hB.block _ RR.out.lt)
  have HO0 : Hid (w0.rowIs (W.heap.size + 1 + 1) 39 3 (rowF [.slice none 0 0, .slice none 0 0, .slice none 0 0])) := RO.out.of_block (hB.block _ RO.out.lt)
  have BB0 : Hid (Below W.heap.size W w0) := B0.out.trans (hB.mono B0.out.size)
  have lt0 : W.heap.size + 1 + 1 < w0.heap.size := HO0.out.lt
  have wl0 : W.heap.size + 1 + 1 < X0.heap.size := RO.out.lt
  obtain ⟨G0, hG0⟩ : ∃ g, X0.heap.size = g := ⟨_, rfl⟩
  rw [hG0] at O0 sz0 wl0 ⊢
  clear hO hB
  have x_dummy := True.intro
  have x_1 : w0.cell? ⟨W.heap.size, 1, none⟩ = some (.slice a1 l1 c1) := HA0.out.cell (i := 1) (by decide)
  have x_2 : w0.cell? ⟨W.heap.size, 2, none⟩ = some (.slice a2 l2 c2) := HA0.out.cell (i := 2) (by decide)
  have o_0 : w0.cell? ⟨W.heap.size + 1 + 1, 0, none⟩ = some (.slice none 0 0) := HO0.out.cell (i := 0) (by decide)
  have p_0 : w0.frozen? ⟨W.heap.size + 1 + 1, 0, none⟩ = false := HO0.out.frozen 0
  have o_1 : w0.cell? ⟨W.heap.size + 1 + 1, 1, none⟩ = some (.slice none 0 0) := HO0.out.cell (i := 1) (by decide)
  have p_1 : w0.frozen? ⟨W.heap.size + 1 + 1, 1, none⟩ = false := HO0.out.frozen 1
  have o_2 : w0.cell? ⟨W.heap.size + 1 + 1, 2, none⟩ = some (.slice none 0 0) := HO0.out.cell (i := 2) (by decide)
  have p_2 : w0.frozen? ⟨W.heap.size + 1 + 1, 2, none⟩ = false := HO0.out.frozen 2
  go_wp2_with fail
  obtain ⟨Y0, EY0⟩ : ∃ X, X = (w0.setCell ⟨W.heap.size + 1 + 1, 0, none⟩ (.slice (some ⟨G0, 0, none⟩) l0 l0)) := ⟨_, rfl⟩
  rw [← EY0]
  have RA0' : Hid (Y0.rowIs W.heap.size 36 3 (rowF [.slice a0 l0 c0, .slice a1 l1 c1, .slice a2 l2 c2])) := by rw [EY0]; exact (HA0.out.setOther (by show W.heap.size ≠ W.heap.size + 1 + 1; omega) _)
  have RR0' : Hid (Y0.rowIs (W.heap.size + 1) 39 3 (rowF [.slice none 0 0, .slice none 0 0, .slice none 0 0])) := by rw [EY0]; exact (HR0.out.setOther (by show W.heap.size + 1 ≠ W.heap.size + 1 + 1; omega) _)
  have RO0' : Hid (Y0.rowIs (W.heap.size + 1 + 1) 39 3 (rowF [.slice (some ⟨G0, 0, none⟩) l0 l0, .slice none 0 0, .slice none 0 0])) := by
    rw [EY0]
    refine World.rowIs.congr (HO0.out.set 0 (.slice (some ⟨G0, 0, none⟩) l0 l0)) (fun j hj => ?_)
    match j, hj with
    | 0, _ => rfl
    | 1, _ => rfl
    | 2, _ => rfl
    | j + 3, h => omega
  have BY0 : Hid (Below W.heap.size W Y0) := by
    rw [EY0]
    show Below _ _ _
    iterate 1 refine Below.setCell ?_ (by simp; try omega) _
    exact BB0.out
  have szY0 : Y0.heap.size = w0.heap.size := by rw [EY0]; simp [World.setCell]
  obtain ⟨N0, hN0⟩ : ∃ g, w0.heap.size = g := ⟨_, rfl⟩
  rw [hN0] at O0 sz0 lt0 szY0
  have O0 : Hid (Owns Y0 true G0 (.l l0 1 cs0) (.slice (some ⟨G0, 0, none⟩) l0 l0) (rng G0 N0)) := by
    rw [EY0]
    show Owns _ _ _ _ _ _
    iterate 1 refine far_set (by omega) ?_
    exact O0.out
  clear x_dummy o_0 p_0 o_1 p_1 o_2 p_2 x_1 x_2 HA0 HR0 HO0 BB0 EY0 hN0
  refine (IntS_to _ _ _ cs1 c _ hf1 (Nat.le_trans (Nat.le_add_right _ _) hs1.out) (h1.out.kept BY0.out)).mono ?_
  rintro e w1 ⟨rfl, hO, hB⟩
  have O1 : Hid (Owns w1 true Y0.heap.size (.l l1 1 cs1) (.slice (some ⟨Y0.heap.size, 0, none⟩) l1 l1) (rng Y0.heap.size w1.heap.size)) := hO
  have sz1 : Y0.heap.size ≤ w1.heap.size := hB.size
  have HA1 : Hid (w1.rowIs W.heap.size 36 3 (rowF [.slice a0 l0 c0, .slice a1 l1 c1, .slice a2 l2 c2])) := RA0'.out.of_block (hB.block _ RA0'.out.lt)
  have HR1 : Hid (w1.rowIs (W.heap.size + 1) 39 3 (rowF [.slice none 0 0, .slice none 0 0, .slice none 0 0])) := RR0'.out.of_block (hB.block _ RR0'.out.lt)
  have HO1 : Hid (w1.rowIs (W.heap.size + 1 + 1) 39 3 (rowF [.slice (some ⟨G0, 0, none⟩) l0 l0, .slice none 0 0, .slice none 0 0])) := RO0'.out.of_block (hB.block _ RO0'.out.lt)
  have O0 : Hid (Owns w1 true G0 (.l l0 1 cs0) (.slice (some ⟨G0, 0, none⟩) l0 l0) (rng G0 N0)) := O0.out.kept hB
  have BB1 : Hid (Below W.heap.size W w1) := BY0.out.trans (hB.mono BY0.out.size)
  have lt1 : W.heap.size + 1 + 1 < w1.heap.size := HO1.out.lt
  have wl1 : W.heap.size + 1 + 1 < Y0.heap.size := RO0'.out.lt
  obtain ⟨G1, hG1⟩ : ∃ g, Y0.heap.size = g := ⟨_, rfl⟩
  rw [hG1] at O1 sz1 wl1 ⊢
  clear hO hB
  have x_dummy := True.intro
  have x_2 : w1.cell? ⟨W.heap.size, 2, none⟩ = some (.slice a2 l2 c2) := HA1.out.cell (i := 2) (by decide)
  have o_0 : w1.cell? ⟨W.heap.size + 1 + 1, 0, none⟩ = some (.slice (some ⟨G0, 0, none⟩) l0 l0) := HO1.out.cell (i := 0) (by decide)
  have p_0 : w1.frozen? ⟨W.heap.size + 1 + 1, 0, none⟩ = false := HO1.out.frozen 0
  have o_1 : w1.cell? ⟨W.heap.size + 1 + 1, 1, none⟩ = some (.slice none 0 0) := HO1.out.cell (i := 1) (by decide)
  have p_1 : w1.frozen? ⟨W.heap.size + 1 + 1, 1, none⟩ = false := HO1.out.frozen 1
  have o_2 : w1.cell? ⟨W.heap.size + 1 + 1, 2, none⟩ = some (.slice none 0 0) := HO1.out.cell (i := 2) (by decide)
  have p_2 : w1.frozen? ⟨W.heap.size + 1 + 1, 2, none⟩ = false := HO1.out.frozen 2
  go_wp2_with fail
  obtain ⟨Y1, EY1⟩ : ∃ X, X = (w1.setCell ⟨W.heap.size + 1 + 1, 1, none⟩ (.slice (some ⟨G1, 0, none⟩) l1 l1)) := ⟨_, rfl⟩
  rw [← EY1]
  have RA1' : Hid (Y1.rowIs W.heap.size 36 3 (rowF [.slice a0 l0 c0, .slice a1 l1 c1, .slice a2 l2 c2])) := by rw [EY1]; exact (HA1.out.setOther (by show W.heap.size ≠ W.heap.size + 1 + 1; omega) _)
  have RR1' : Hid (Y1.rowIs (W.heap.size + 1) 39 3 (rowF [.slice none 0 0, .slice none 0 0, .slice none 0 0])) := by rw [EY1]; exact (HR1.out.setOther (by show W.heap.size + 1 ≠ W.heap.size + 1 + 1; omega) _)
  have RO1' : Hid (Y1.rowIs (W.heap.size + 1 + 1) 39 3 (rowF [.slice (some ⟨G0, 0, none⟩) l0 l0, .slice (some ⟨G1, 0, none⟩) l1 l1, .slice none 0 0])) := by
    rw [EY1]
    refine World.rowIs.congr (HO1.out.set 1 (.slice (some ⟨G1, 0, none⟩) l1 l1)) (fun j hj => ?_)
    match j, hj with
    | 0, _ => rfl
    | 1, _ => rfl
    | 2, _ => rfl
    | j + 3, h => omega
  have BY1 : Hid (Below W.heap.size W Y1) := by
    rw [EY1]
    show Below _ _ _
    iterate 1 refine Below.setCell ?_ (by simp; try omega) _
    exact BB1.out
  have szY1 : Y1.heap.size = w1.heap.size := by rw [EY1]; simp [World.setCell]
  obtain ⟨N1, hN1⟩ : ∃ g, w1.heap.size = g := ⟨_, rfl⟩
  rw [hN1] at O1 sz1 lt1 szY1
  have O0 : Hid (Owns Y1 true G0 (.l l0 1 cs0) (.slice (some ⟨G0, 0, none⟩) l0 l0) (rng G0 N0)) := by
    rw [EY1]
    show Owns _ _ _ _ _ _
    iterate 1 refine far_set (by omega) ?_
    exact O0.out
  have O1 : Hid (Owns Y1 true G1 (.l l1 1 cs1) (.slice (some ⟨G1, 0, none⟩) l1 l1) (rng G1 N1)) := by
    rw [EY1]
    show Owns _ _ _ _ _ _
    iterate 1 refine far_set (by omega) ?_
    exact O1.out
  clear x_dummy o_0 p_0 o_1 p_1 o_2 p_2 x_2 HA1 HR1 HO1 BB1 EY1 hN1
  refine (IntS_to _ _ _ cs2 c _ hf2 (Nat.le_trans (Nat.le_add_right _ _) hs2.out) (h2.out.kept BY1.out)).mono ?_
  rintro e w2 ⟨rfl, hO, hB⟩
  have O2 : Hid (Owns w2 true Y1.heap.size (.l l2 1 cs2) (.slice (some ⟨Y1.heap.size, 0, none⟩) l2 l2) (rng Y1.heap.size w2.heap.size)) := hO
  have sz2 : Y1.heap.size ≤ w2.heap.size := hB.size
  have HA2 : Hid (w2.rowIs W.heap.size 36 3 (rowF [.slice a0 l0 c0, .slice a1 l1 c1, .slice a2 l2 c2])) := RA1'.out.of_block (hB.block _ RA1'.out.lt)
  have HR2 : Hid (w2.rowIs (W.heap.size + 1) 39 3 (rowF [.slice none 0 0, .slice none 0 0, .slice none 0 0])) := RR1'.out.of_block (hB.block _ RR1'.out.lt)
  have HO2 : Hid (w2.rowIs (W.heap.size + 1 + 1) 39 3 (rowF [.slice (some ⟨G0, 0, none⟩) l0 l0, .slice (some ⟨G1, 0, none⟩) l1 l1, .slice none 0 0])) := RO1'.out.of_block (hB.block _ RO1'.out.lt)
  have O0 : Hid (Owns w2 true G0 (.l l0 1 cs0) (.slice (some ⟨G0, 0, none⟩) l0 l0) (rng G0 N0)) := O0.out.kept hB
  have O1 : Hid (Owns w2 true G1 (.l l1 1 cs1) (.slice (some ⟨G1, 0, none⟩) l1 l1) (rng G1 N1)) := O1.out.kept hB
  have BB2 : Hid (Below W.heap.size W w2) := BY1.out.trans (hB.mono BY1.out.size)
  have lt2 : W.heap.size + 1 + 1 < w2.heap.size := HO2.out.lt
  have wl2 : W.heap.size + 1 + 1 < Y1.heap.size := RO1'.out.lt
  obtain ⟨G2, hG2⟩ : ∃ g, Y1.heap.size = g := ⟨_, rfl⟩
  rw [hG2] at O2 sz2 wl2 ⊢
  clear hO hB
  have x_dummy := True.intro
  have o_0 : w2.cell? ⟨W.heap.size + 1 + 1, 0, none⟩ = some (.slice (some ⟨G0, 0, none⟩) l0 l0) := HO2.out.cell (i := 0) (by decide)
  have p_0 : w2.frozen? ⟨W.heap.size + 1 + 1, 0, none⟩ = false := HO2.out.frozen 0
  have o_1 : w2.cell? ⟨W.heap.size + 1 + 1, 1, none⟩ = some (.slice (some ⟨G1, 0, none⟩) l1 l1) := HO2.out.cell (i := 1) (by decide)
  have p_1 : w2.frozen? ⟨W.heap.size + 1 + 1, 1, none⟩ = false := HO2.out.frozen 1
  have o_2 : w2.cell? ⟨W.heap.size + 1 + 1, 2, none⟩ = some (.slice none 0 0) := HO2.out.cell (i := 2) (by decide)
  have p_2 : w2.frozen? ⟨W.heap.size + 1 + 1, 2, none⟩ = false := HO2.out.frozen 2
  have r_0 : w2.cell? ⟨W.heap.size + 1, 0, none⟩ = some (.slice none 0 0) := HR2.out.cell (i := 0) (by decide)
  have t_0 : w2.frozen? ⟨W.heap.size + 1, 0, none⟩ = false := HR2.out.frozen 0
  have r_1 : w2.cell? ⟨W.heap.size + 1, 1, none⟩ = some (.slice none 0 0) := HR2.out.cell (i := 1) (by decide)
  have t_1 : w2.frozen? ⟨W.heap.size + 1, 1, none⟩ = false := HR2.out.frozen 1
  have r_2 : w2.cell? ⟨W.heap.size + 1, 2, none⟩ = some (.slice none 0 0) := HR2.out.cell (i := 2) (by decide)
  have t_2 : w2.frozen? ⟨W.heap.size + 1, 2, none⟩ = false := HR2.out.frozen 2
  go_wp2
  skip
  refine bodyPost_ret (v := .agg #[.slice (some ⟨G0, 0, none⟩) l0 l0, .slice (some ⟨G1, 0, none⟩) l1 l1, .slice (some ⟨G2, 0, none⟩) l2 l2]) (by simp only [results, Try.results21]; go_simp) rfl ⟨G0, G1, G2, N0, N1, rfl, ?_, ?_, ?_, ?_, ?_, ?_, ?_⟩
  · refine Owns.more (F := rng G0 N0) ?_ (fun x hx => ⟨by have := hx.1; omega, hx.2⟩)
    iterate 4 refine far_set (by omega) ?_
    exact O0.out.low (by omega)
  · refine Owns.more (F := rng G1 N1) ?_ (fun x hx => ⟨by have := hx.1; omega, hx.2⟩)
    iterate 4 refine far_set (by omega) ?_
    exact O1.out.low (by omega)
  · refine Owns.more (F := rng G2 w2.heap.size) ?_ (fun x hx => ⟨by have := hx.1; omega, by have := hx.2; simpa [World.setCell] using this⟩)
    iterate 4 refine far_set (by omega) ?_
    exact O2.out.low (by omega)
  · omega
  · omega
  · simp [World.setCell]; omega
  · refine Below.trans BB2.out ?_
    iterate 4 refine Below.setCell ?_ (by simp; try omega) _
    exact Below.refl _ _
set_option maxRecDepth 100000 in
set_option maxHeartbeats 4000000 in
theorem Frame_eq (a0 : Option Addr) (l0 c0 : Nat) (cs0 : Nat → Dv) (a1 : Option Addr) (l1 c1 : Nat) (cs1 : Nat → Dv) (a2 : Option Addr) (l2 c2 : Nat) (cs2 : Nat → Dv) (b0 : Option Addr) (e0 : Nat) (b1 : Option Addr) (e1 : Nat) (b2 : Option Addr) (e2 : Nat) (c c' : Bool) (W : World) (hf0 : Hid (Fits shI (.l l0 1 cs0))) (hs0 : Hid (szD (.l l0 1 cs0) ≤ 1048576)) (h0 : Hid (Holds W c (.l l0 1 cs0) (.slice a0 l0 c0))) (hf1 : Hid (Fits shI (.l l1 1 cs1))) (hs1 : Hid (szD (.l l1 1 cs1) ≤ 1048576)) (h1 : Hid (Holds W c (.l l1 1 cs1) (.slice a1 l1 c1))) (hf2 : Hid (Fits shI (.l l2 1 cs2))) (hs2 : Hid (szD (.l l2 1 cs2) ≤ 1048576)) (h2 : Hid (Holds W c (.l l2 1 cs2) (.slice a2 l2 c2))) (g0 : Hid (Holds W c' (.l l0 1 cs0) (.slice b0 l0 e0))) (g1 : Hid (Holds W c' (.l l1 1 cs1) (.slice b1 l1 e1))) (g2 : Hid (Holds W c' (.l l2 1 cs2) (.slice b2 l2 e2))) : Calls Try.prog 23 #[.agg #[.slice a0 l0 c0, .slice a1 l1 c1, .slice a2 l2 c2], .agg #[.slice b0 l0 e0, .slice b1 l1 e1, .slice b2 l2 e2]] W fun e W' => e = .returned (.bool true) ∧ Below W.heap.size W W' := by
  go_enter Try.func23, Try.ntmps23
  obtain ⟨X0, EX0⟩ : ∃ X, X = (W.alloc (.cells #[.slice a0 l0 c0, .slice a1 l1 c1, .slice a2 l2 c2] 39)).alloc (.cells #[.slice b0 l0 e0, .slice b1 l1 e1, .slice b2 l2 e2] 39) := ⟨_, rfl⟩
  have RA : Hid (X0.rowIs W.heap.size 39 3 (rowF [.slice a0 l0 c0, .slice a1 l1 c1, .slice a2 l2 c2])) := by rw [EX0]; exact (row_of W #[.slice a0 l0 c0, .slice a1 l1 c1, .slice a2 l2 c2] 39).alloc _
  have RB : Hid (X0.rowIs (W.heap.size + 1) 39 3 (rowF [.slice b0 l0 e0, .slice b1 l1 e1, .slice b2 l2 e2])) := by
    rw [EX0]
    have q := row_of (W.alloc (.cells #[.slice a0 l0 c0, .slice a1 l1 c1, .slice a2 l2 c2] 39)) #[.slice b0 l0 e0, .slice b1 l1 e1, .slice b2 l2 e2] 39
    rw [show (W.alloc (.cells #[.slice a0 l0 c0, .slice a1 l1 c1, .slice a2 l2 c2] 39)).heap.size = W.heap.size + 1 by simp] at q
    exact q
  have B0 : Hid (Below W.heap.size W X0) := by rw [EX0]; show Below _ _ _; go_grown
  go_wp2_with fail
  rw [← EX0]
  clear EX0
  refine (IntS_eq _ _ _ _ _ cs0 c c' _ hf0 (Nat.le_trans (Nat.le_add_right _ _) hs0.out) (h0.out.kept B0.out) (g0.out.kept B0.out)).mono ?_
  rintro e w0 ⟨rfl, hB⟩
  have A0 : Hid (w0.rowIs W.heap.size 39 3 (rowF [.slice a0 l0 c0, .slice a1 l1 c1, .slice a2 l2 c2])) := RA.out.of_block (hB.block _ RA.out.lt)
  have C0 : Hid (w0.rowIs (W.heap.size + 1) 39 3 (rowF [.slice b0 l0 e0, .slice b1 l1 e1, .slice b2 l2 e2])) := RB.out.of_block (hB.block _ RB.out.lt)
  have BB0 : Hid (Below W.heap.size W w0) := B0.out.trans (hB.mono B0.out.size)
  clear hB B0 RA RB
  have y_1 : w0.cell? ⟨W.heap.size, 1, none⟩ = some (.slice a1 l1 c1) := A0.out.cell (i := 1) (by decide)
  have z_1 : w0.cell? ⟨W.heap.size + 1, 1, none⟩ = some (.slice b1 l1 e1) := C0.out.cell (i := 1) (by decide)
  have y_2 : w0.cell? ⟨W.heap.size, 2, none⟩ = some (.slice a2 l2 c2) := A0.out.cell (i := 2) (by decide)
  have z_2 : w0.cell? ⟨W.heap.size + 1, 2, none⟩ = some (.slice b2 l2 e2) := C0.out.cell (i := 2) (by decide)
  go_wp2_with fail
  clear y_1 z_1 y_2 z_2
  refine (IntS_eq _ _ _ _ _ cs1 c c' _ hf1 (Nat.le_trans (Nat.le_add_right _ _) hs1.out) (h1.out.kept BB0.out) (g1.out.kept BB0.out)).mono ?_
  rintro e w1 ⟨rfl, hB⟩
  have A1 : Hid (w1.rowIs W.heap.size 39 3 (rowF [.slice a0 l0 c0, .slice a1 l1 c1, .slice a2 l2 c2])) := A0.out.of_block (hB.block _ A0.out.lt)
  have C1 : Hid (w1.rowIs (W.heap.size + 1) 39 3 (rowF [.slice b0 l0 e0, .slice b1 l1 e1, .slice b2 l2 e2])) := C0.out.of_block (hB.block _ C0.out.lt)
  have BB1 : Hid (Below W.heap.size W w1) := BB0.out.trans (hB.mono BB0.out.size)
  clear hB BB0 A0 C0
  have y_2 : w1.cell? ⟨W.heap.size, 2, none⟩ = some (.slice a2 l2 c2) := A1.out.cell (i := 2) (by decide)
  have z_2 : w1.cell? ⟨W.heap.size + 1, 2, none⟩ = some (.slice b2 l2 e2) := C1.out.cell (i := 2) (by decide)
  go_wp2_with fail
  clear y_2 z_2
  refine (IntS_eq _ _ _ _ _ cs2 c c' _ hf2 (Nat.le_trans (Nat.le_add_right _ _) hs2.out) (h2.out.kept BB1.out) (g2.out.kept BB1.out)).mono ?_
  rintro e w2 ⟨rfl, hB⟩
  have A2 : Hid (w2.rowIs W.heap.size 39 3 (rowF [.slice a0 l0 c0, .slice a1 l1 c1, .slice a2 l2 c2])) := A1.out.of_block (hB.block _ A1.out.lt)
  have C2 : Hid (w2.rowIs (W.heap.size + 1) 39 3 (rowF [.slice b0 l0 e0, .slice b1 l1 e1, .slice b2 l2 e2])) := C1.out.of_block (hB.block _ C1.out.lt)
  have BB2 : Hid (Below W.heap.size W w2) := BB1.out.trans (hB.mono BB1.out.size)
  clear hB BB1 A1 C1
  go_wp2
  go_ret
  exact ⟨rfl, BB2.out⟩
set_option maxRecDepth 100000 in
set_option maxHeartbeats 4000000 in
theorem Frame_mark (k0 : Int) (h0k : 0 ≤ k0) (h1k : k0 ≤ 1000000000) (a0 : Option Addr) (l0 c0 : Nat) (cs0 : Nat → Dv) (a1 : Option Addr) (l1 c1 : Nat) (cs1 : Nat → Dv) (a2 : Option Addr) (l2 c2 : Nat) (cs2 : Nat → Dv) (c : Bool) (W : World) (B : Nat) (F0 : Nat → Prop) (F1 : Nat → Prop) (F2 : Nat → Prop) (hf0 : Hid (Fits shI (.l l0 1 cs0))) (hs0 : Hid (szD (.l l0 1 cs0) ≤ 1048576)) (h0 : Hid (Owns W c B (.l l0 1 cs0) (.slice a0 l0 c0) F0)) (u0 : Hid (∀ x, F0 x → x < W.heap.size)) (hf1 : Hid (Fits shI (.l l1 1 cs1))) (hs1 : Hid (szD (.l l1 1 cs1) ≤ 1048576)) (h1 : Hid (Owns W c B (.l l1 1 cs1) (.slice a1 l1 c1) F1)) (u1 : Hid (∀ x, F1 x → x < W.heap.size)) (hf2 : Hid (Fits shI (.l l2 1 cs2))) (hs2 : Hid (szD (.l l2 1 cs2) ≤ 1048576)) (h2 : Hid (Owns W c B (.l l2 1 cs2) (.slice a2 l2 c2) F2)) (u2 : Hid (∀ x, F2 x → x < W.heap.size)) (D01 : ∀ x, F0 x → ¬ F1 x) (D02 : ∀ x, F0 x → ¬ F2 x) (D12 : ∀ x, F1 x → ¬ F2 x) : Calls Try.prog 26 #[.agg #[.slice a0 l0 c0, .slice a1 l1 c1, .slice a2 l2 c2], .int .i64 k0] W fun e W' => e = .returned (.int .i64 (k0 + (cntD (.l l0 1 cs0) : Nat) + (cntD (.l l1 1 cs1) : Nat) + (cntD (.l l2 1 cs2) : Nat))) ∧ Owns W' c B (mkD (k0) (.l l0 1 cs0)) (.slice a0 l0 c0) F0 ∧ Owns W' c B (mkD (k0 + (cntD (.l l0 1 cs0) : Nat)) (.l l1 1 cs1)) (.slice a1 l1 c1) F1 ∧ Owns W' c B (mkD (k0 + (cntD (.l l0 1 cs0) : Nat) + (cntD (.l l1 1 cs1) : Nat)) (.l l2 1 cs2)) (.slice a2 l2 c2) F2 ∧ OnlyF W W' (fun x => F0 x ∨ F1 x ∨ F2 x) := by
  go_enter Try.func26, Try.ntmps26
  obtain ⟨X0, EX0⟩ : ∃ X, X = W.alloc (.cells #[.slice a0 l0 c0, .slice a1 l1 c1, .slice a2 l2 c2] 39) := ⟨_, rfl⟩
  have RA : Hid (X0.rowIs W.heap.size 39 3 (rowF [.slice a0 l0 c0, .slice a1 l1 c1, .slice a2 l2 c2])) := by rw [EX0]; exact row_of W #[.slice a0 l0 c0, .slice a1 l1 c1, .slice a2 l2 c2] 39
  have B0 : Below W.heap.size W X0 := by rw [EX0]; show Below _ _ _; go_grown
  have O0 : Hid (Owns X0 c B (.l l0 1 cs0) (.slice a0 l0 c0) F0) := h0.out.kept B0
  have O1 : Hid (Owns X0 c B (.l l1 1 cs1) (.slice a1 l1 c1) F1) := h1.out.kept B0
  have O2 : Hid (Owns X0 c B (.l l2 1 cs2) (.slice a2 l2 c2) F2) := h2.out.kept B0
  have ON : Hid (OnlyF W X0 (fun x => F0 x ∨ F1 x ∨ F2 x)) := OnlyF.of_below B0
  clear B0
  have hc0 := cnt_le (s := shI) ⟨by decide, fun _ => trivial⟩ hf0.out
  have HC0 : Hid (cntD (.l l0 1 cs0) ≤ 8388609) := by have q := hs0.out; show _ ≤ _; omega
  clear hc0
  have hc1 := cnt_le (s := shI) ⟨by decide, fun _ => trivial⟩ hf1.out
  have HC1 : Hid (cntD (.l l1 1 cs1) ≤ 8388609) := by have q := hs1.out; show _ ≤ _; omega
  clear hc1
  have hc2 := cnt_le (s := shI) ⟨by decide, fun _ => trivial⟩ hf2.out
  have HC2 : Hid (cntD (.l l2 1 cs2) ≤ 8388609) := by have q := hs2.out; show _ ≤ _; omega
  clear hc2
  go_wp2_with fail
  rw [← EX0]
  clear EX0
  refine (IntS_mark (k0) (by omega) (by omega) _ _ _ cs0 c _ B F0 hf0 (Nat.le_trans (Nat.le_add_right _ _) hs0.out) O0).mono ?_
  obtain ⟨N0, HN0⟩ : ∃ N, Hid (cntD (.l l0 1 cs0) = N) := ⟨_, rfl⟩
  have hN0 : N0 ≤ 8388609 := by have q := HC0.out; rw [HN0.out] at q; exact q
  rw [HN0.out]
  rintro e w0 ⟨rfl, hO, hF⟩
  have P0 : Hid (Owns w0 c B (mkD (k0) (.l l0 1 cs0)) (.slice a0 l0 c0) F0) := hO
  have O1 : Hid (Owns w0 c B (.l l1 1 cs1) (.slice a1 l1 c1) F1) := hF.owns (fun x hx hy => D01 x hy hx) O1.out
  have O2 : Hid (Owns w0 c B (.l l2 1 cs2) (.slice a2 l2 c2) F2) := hF.owns (fun x hx hy => D02 x hy hx) O2.out
  have ON0 : Hid (OnlyF W w0 (fun x => F0 x ∨ F1 x ∨ F2 x)) := ON.out.trans (hF.more (fun x hx => Or.inl hx))
  have RA0 : Hid (w0.rowIs W.heap.size 39 3 (rowF [.slice a0 l0 c0, .slice a1 l1 c1, .slice a2 l2 c2])) := RA.out.of_block (hF.block _ RA.out.lt (fun q => by have := u0.out _ q; omega))
  clear hF hO
  have y_1 : w0.cell? ⟨W.heap.size, 1, none⟩ = some (.slice a1 l1 c1) := RA0.out.cell (i := 1) (by decide)
  go_wp2_with fail
  clear y_1
  refine (IntS_mark (k0 + (N0 : Int)) (by omega) (by omega) _ _ _ cs1 c _ B F1 hf1 (Nat.le_trans (Nat.le_add_right _ _) hs1.out) O1).mono ?_
  obtain ⟨N1, HN1⟩ : ∃ N, Hid (cntD (.l l1 1 cs1) = N) := ⟨_, rfl⟩
  have hN1 : N1 ≤ 8388609 := by have q := HC1.out; rw [HN1.out] at q; exact q
  rw [HN1.out]
  rintro e w1 ⟨rfl, hO, hF⟩
  have P0 : Hid (Owns w1 c B (mkD (k0) (.l l0 1 cs0)) (.slice a0 l0 c0) F0) := hF.owns (fun x hx hy => D01 x hx hy) P0.out
  have P1 : Hid (Owns w1 c B (mkD (k0 + (N0 : Int)) (.l l1 1 cs1)) (.slice a1 l1 c1) F1) := hO
  have O2 : Hid (Owns w1 c B (.l l2 1 cs2) (.slice a2 l2 c2) F2) := hF.owns (fun x hx hy => D12 x hy hx) O2.out
  have ON1 : Hid (OnlyF W w1 (fun x => F0 x ∨ F1 x ∨ F2 x)) := ON0.out.trans (hF.more (fun x hx => Or.inr (Or.inl hx)))
  have RA1 : Hid (w1.rowIs W.heap.size 39 3 (rowF [.slice a0 l0 c0, .slice a1 l1 c1, .slice a2 l2 c2])) := RA0.out.of_block (hF.block _ RA0.out.lt (fun q => by have := u1.out _ q; omega))
  clear hF hO
  have y_2 : w1.cell? ⟨W.heap.size, 2, none⟩ = some (.slice a2 l2 c2) := RA1.out.cell (i := 2) (by decide)
  go_wp2_with fail
  clear y_2
  refine (IntS_mark (k0 + (N0 : Int) + (N1 : Int)) (by omega) (by omega) _ _ _ cs2 c _ B F2 hf2 (Nat.le_trans (Nat.le_add_right _ _) hs2.out) O2).mono ?_
  obtain ⟨N2, HN2⟩ : ∃ N, Hid (cntD (.l l2 1 cs2) = N) := ⟨_, rfl⟩
  have hN2 : N2 ≤ 8388609 := by have q := HC2.out; rw [HN2.out] at q; exact q
  rw [HN2.out]
  rintro e w2 ⟨rfl, hO, hF⟩
  have P0 : Hid (Owns w2 c B (mkD (k0) (.l l0 1 cs0)) (.slice a0 l0 c0) F0) := hF.owns (fun x hx hy => D02 x hx hy) P0.out
  have P1 : Hid (Owns w2 c B (mkD (k0 + (N0 : Int)) (.l l1 1 cs1)) (.slice a1 l1 c1) F1) := hF.owns (fun x hx hy => D12 x hx hy) P1.out
  have P2 : Hid (Owns w2 c B (mkD (k0 + (N0 : Int) + (N1 : Int)) (.l l2 1 cs2)) (.slice a2 l2 c2) F2) := hO
  have ON2 : Hid (OnlyF W w2 (fun x => F0 x ∨ F1 x ∨ F2 x)) := ON1.out.trans (hF.more (fun x hx => Or.inr (Or.inr (hx))))
  clear hF hO
  go_wp2
  go_ret
  refine ⟨by rw [HN0.out, HN1.out, HN2.out]; rfl, (by have q := P0.out; exact q), (by have q := P1.out; rw [HN0.out]; exact q), (by have q := P2.out; rw [HN0.out, HN1.out]; exact q), ON2.out⟩
set_option maxRecDepth 100000 in
set_option maxHeartbeats 4000000 in
theorem Frame_held (k0 : Int) (h0k : 0 ≤ k0) (a0 : Option Addr) (l0 c0 : Nat) (cs0 : Nat → Dv) (a1 : Option Addr) (l1 c1 : Nat) (cs1 : Nat → Dv) (a2 : Option Addr) (l2 c2 : Nat) (cs2 : Nat → Dv) (c : Bool) (W : World) (hf0 : Hid (Fits shI (.l l0 1 cs0))) (hs0 : Hid (szD (.l l0 1 cs0) ≤ 1048576)) (hf1 : Hid (Fits shI (.l l1 1 cs1))) (hs1 : Hid (szD (.l l1 1 cs1) ≤ 1048576)) (hf2 : Hid (Fits shI (.l l2 1 cs2))) (hs2 : Hid (szD (.l l2 1 cs2) ≤ 1048576)) (h1k : k0 + (cntD (.l l0 1 cs0) : Nat) + (cntD (.l l1 1 cs1) : Nat) + (cntD (.l l2 1 cs2) : Nat) ≤ 16777216) (h0 : Hid (Holds W c (mkD (k0) (.l l0 1 cs0)) (.slice a0 l0 c0))) (h1 : Hid (Holds W c (mkD (k0 + (cntD (.l l0 1 cs0) : Nat)) (.l l1 1 cs1)) (.slice a1 l1 c1))) (h2 : Hid (Holds W c (mkD (k0 + (cntD (.l l0 1 cs0) : Nat) + (cntD (.l l1 1 cs1) : Nat)) (.l l2 1 cs2)) (.slice a2 l2 c2))) : Calls Try.prog 27 #[.agg #[.slice a0 l0 c0, .slice a1 l1 c1, .slice a2 l2 c2], .int .i64 k0] W fun e W' => e = .returned (.int .i64 (k0 + (cntD (.l l0 1 cs0) : Nat) + (cntD (.l l1 1 cs1) : Nat) + (cntD (.l l2 1 cs2) : Nat))) ∧ Below W.heap.size W W' := by
  obtain ⟨N0, HN0⟩ : ∃ N, Hid (cntD (.l l0 1 cs0) = N) := ⟨_, rfl⟩
  obtain ⟨N1, HN1⟩ : ∃ N, Hid (cntD (.l l1 1 cs1) = N) := ⟨_, rfl⟩
  obtain ⟨N2, HN2⟩ : ∃ N, Hid (cntD (.l l2 1 cs2) = N) := ⟨_, rfl⟩
  rw [HN0.out, HN1.out, HN2.out] at h1k
  go_enter Try.func27, Try.ntmps27
  obtain ⟨X0, EX0⟩ : ∃ X, X = W.alloc (.cells #[.slice a0 l0 c0, .slice a1 l1 c1, .slice a2 l2 c2] 39) := ⟨_, rfl⟩
  have RA : Hid (X0.rowIs W.heap.size 39 3 (rowF [.slice a0 l0 c0, .slice a1 l1 c1, .slice a2 l2 c2])) := by rw [EX0]; exact row_of W #[.slice a0 l0 c0, .slice a1 l1 c1, .slice a2 l2 c2] 39
  have B0 : Hid (Below W.heap.size W X0) := by rw [EX0]; show Below _ _ _; go_grown
  have H0 : Hid (Holds X0 c (mkD (k0) (.l l0 1 cs0)) (.slice a0 l0 c0)) := by have q := h0.out.kept B0.out; exact q
  have H1 : Hid (Holds X0 c (mkD (k0 + (N0 : Int)) (.l l1 1 cs1)) (.slice a1 l1 c1)) := by have q := h1.out.kept B0.out; rw [HN0.out] at q; exact q
  have H2 : Hid (Holds X0 c (mkD (k0 + (N0 : Int) + (N1 : Int)) (.l l2 1 cs2)) (.slice a2 l2 c2)) := by have q := h2.out.kept B0.out; rw [HN0.out, HN1.out] at q; exact q
  have y_1 : X0.cell? ⟨W.heap.size, 1, none⟩ = some (.slice a1 l1 c1) := RA.out.cell (i := 1) (by decide)
  have y_2 : X0.cell? ⟨W.heap.size, 2, none⟩ = some (.slice a2 l2 c2) := RA.out.cell (i := 2) (by decide)
  go_wp2_with fail
  rw [← EX0]
  clear EX0
  refine (IntS_held (k0) (by omega) (by omega) _ _ _ cs0 c _ hf0 (Nat.le_trans (Nat.le_add_right _ _) hs0.out) H0).mono ?_
  rw [HN0.out]
  rintro e w' ⟨rfl, hw⟩
  rw [hw]
  clear hw w'
  have kp0 : 0 ≤ k0 + (N0 : Int) := by omega
  go_wp2_with fail
  refine (IntS_held (k0 + (N0 : Int)) (by omega) (by omega) _ _ _ cs1 c _ hf1 (Nat.le_trans (Nat.le_add_right _ _) hs1.out) H1).mono ?_
  rw [HN1.out]
  rintro e w' ⟨rfl, hw⟩
  rw [hw]
  clear hw w'
  have kp1 : 0 ≤ k0 + (N0 : Int) + (N1 : Int) := by omega
  go_wp2_with fail
  refine (IntS_held (k0 + (N0 : Int) + (N1 : Int)) (by omega) (by omega) _ _ _ cs2 c _ hf2 (Nat.le_trans (Nat.le_add_right _ _) hs2.out) H2).mono ?_
  rw [HN2.out]
  rintro e w' ⟨rfl, hw⟩
  rw [hw]
  clear hw w'
  have kp2 : 0 ≤ k0 + (N0 : Int) + (N1 : Int) + (N2 : Int) := by omega
  go_wp2
  go_ret
  exact ⟨by rw [HN0.out, HN1.out, HN2.out]; rfl, B0.out⟩
set_option maxRecDepth 100000 in
set_option maxHeartbeats 4000000 in
theorem Frame_size (a0 : Option Addr) (l0 c0 : Nat) (cs0 : Nat → Dv) (a1 : Option Addr) (l1 c1 : Nat) (cs1 : Nat → Dv) (a2 : Option Addr) (l2 c2 : Nat) (cs2 : Nat → Dv) (l : Int) (c : Bool) (W : World) (hf0 : Hid (Fits shI (.l l0 1 cs0))) (hl0 : Hid (Lens (.l l0 1 cs0))) (h0 : Hid (Holds W c (.l l0 1 cs0) (.slice a0 l0 c0))) (hf1 : Hid (Fits shI (.l l1 1 cs1))) (hl1 : Hid (Lens (.l l1 1 cs1))) (h1 : Hid (Holds W c (.l l1 1 cs1) (.slice a1 l1 c1))) (hf2 : Hid (Fits shI (.l l2 1 cs2))) (hl2 : Hid (Lens (.l l2 1 cs2))) (h2 : Hid (Holds W c (.l l2 1 cs2) (.slice a2 l2 c2))) (hq0 : 0 ≤ l) (hq1 : l ≤ 1048576) : Calls Try.prog 19 #[.agg #[.slice a0 l0 c0, .slice a1 l1 c1, .slice a2 l2 c2], .int .i64 l] W fun e W' => e = .returned (.int .i64 (if (szD (.l l0 1 cs0) : Int) + (szD (.l l1 1 cs1) : Int) + (szD (.l l2 1 cs2) : Int) ≤ l then l - ((szD (.l l0 1 cs0) : Int) + (szD (.l l1 1 cs1) : Int) + (szD (.l l2 1 cs2) : Int)) else -1)) ∧ Below W.heap.size W W' := by
  obtain ⟨N0, HN0⟩ : ∃ N, Hid (szD (.l l0 1 cs0) = N) := ⟨_, rfl⟩
  rw [HN0.out]
  obtain ⟨N1, HN1⟩ : ∃ N, Hid (szD (.l l1 1 cs1) = N) := ⟨_, rfl⟩
  rw [HN1.out]
  obtain ⟨N2, HN2⟩ : ∃ N, Hid (szD (.l l2 1 cs2) = N) := ⟨_, rfl⟩
  rw [HN2.out]
  obtain ⟨R, HR⟩ : ∃ R : Int, Hid ((if (N0 : Int) + (N1 : Int) + (N2 : Int) ≤ l then l - ((N0 : Int) + (N1 : Int) + (N2 : Int)) else -1) = R) := ⟨_, rfl⟩
  rw [HR.out]
  have HRN : Hid (¬ ((N0 : Int) + (N1 : Int) + (N2 : Int) ≤ l) → R = -1) := fun q => by rw [← HR.out, if_neg q]
  have HRP : Hid ((N0 : Int) + (N1 : Int) + (N2 : Int) ≤ l → R = l - ((N0 : Int) + (N1 : Int) + (N2 : Int))) := fun q => by rw [← HR.out, if_pos q]
  clear HR
  go_enter Try.func19, Try.ntmps19
  obtain ⟨X0, EX0⟩ : ∃ X, X = W.alloc (.cells #[.slice a0 l0 c0, .slice a1 l1 c1, .slice a2 l2 c2] 36) := ⟨_, rfl⟩
  have RA : Hid (X0.rowIs W.heap.size 36 3 (rowF [.slice a0 l0 c0, .slice a1 l1 c1, .slice a2 l2 c2])) := by rw [EX0]; exact row_of W #[.slice a0 l0 c0, .slice a1 l1 c1, .slice a2 l2 c2] 36
  have B0 : Hid (Below W.heap.size W X0) := by rw [EX0]; show Below _ _ _; go_grown
  go_wp2_with fail
  rw [← EX0]
  clear EX0
  refine (IntS_size _ _ _ cs0 (l) _ hf0 hl0 (by omega) (by omega)).mono ?_
  rw [HN0.out]
  rintro e w0 ⟨rfl, hE⟩
  have hB : Below X0.heap.size X0 w0 := by rw [hE]; exact Below.refl _ _
  clear hE
  have A0 : Hid (w0.rowIs W.heap.size 36 3 (rowF [.slice a0 l0 c0, .slice a1 l1 c1, .slice a2 l2 c2])) := RA.out.of_block (hB.block _ RA.out.lt)
  have BB0 : Hid (Below W.heap.size W w0) := B0.out.trans (hB.mono B0.out.size)
  clear hB RA B0
  by_cases q0 : (N0 : Int) ≤ l
  rotate_left
  · rw [if_neg q0]
    have HM : Hid (R = -1) := HRN.out (by omega)
    go_wp2
    go_ret
    exact ⟨by rw [HM.out]; rfl, BB0.out⟩
  rw [if_pos q0]
  have le0 : 0 ≤ l - (N0 : Int) := by omega
  have y_1 : w0.cell? ⟨W.heap.size, 1, none⟩ = some (.slice a1 l1 c1) := A0.out.cell (i := 1) (by decide)
  go_wp2_with fail
  clear y_1
  refine (IntS_size _ _ _ cs1 (l - (N0 : Int)) _ hf1 hl1 (by omega) (by omega)).mono ?_
  rw [HN1.out]
  rintro e w1 ⟨rfl, hE⟩
  have hB : Below w0.heap.size w0 w1 := by rw [hE]; exact Below.refl _ _
  clear hE
  have A1 : Hid (w1.rowIs W.heap.size 36 3 (rowF [.slice a0 l0 c0, .slice a1 l1 c1, .slice a2 l2 c2])) := A0.out.of_block (hB.block _ A0.out.lt)
  have BB1 : Hid (Below W.heap.size W w1) := BB0.out.trans (hB.mono BB0.out.size)
  clear hB A0 BB0
  by_cases q1 : (N1 : Int) ≤ l - (N0 : Int)
  rotate_left
  · rw [if_neg q1]
    have HM : Hid (R = -1) := HRN.out (by omega)
    go_wp2
    go_ret
    exact ⟨by rw [HM.out]; rfl, BB1.out⟩
  rw [if_pos q1]
  have le1 : 0 ≤ l - (N0 : Int) - (N1 : Int) := by omega
  have y_2 : w1.cell? ⟨W.heap.size, 2, none⟩ = some (.slice a2 l2 c2) := A1.out.cell (i := 2) (by decide)
  go_wp2_with fail
  clear y_2
  refine (IntS_size _ _ _ cs2 (l - (N0 : Int) - (N1 : Int)) _ hf2 hl2 (by omega) (by omega)).mono ?_
  rw [HN2.out]
  rintro e w2 ⟨rfl, hE⟩
  have hB : Below w1.heap.size w1 w2 := by rw [hE]; exact Below.refl _ _
  clear hE
  have A2 : Hid (w2.rowIs W.heap.size 36 3 (rowF [.slice a0 l0 c0, .slice a1 l1 c1, .slice a2 l2 c2])) := A1.out.of_block (hB.block _ A1.out.lt)
  have BB2 : Hid (Below W.heap.size W w2) := BB1.out.trans (hB.mono BB1.out.size)
  clear hB A1 BB1
  by_cases q2 : (N2 : Int) ≤ l - (N0 : Int) - (N1 : Int)
  rotate_left
  · rw [if_neg q2]
    have HM : Hid (R = -1) := HRN.out (by omega)
    go_wp2
    go_ret
    exact ⟨by rw [HM.out]; rfl, BB2.out⟩
  rw [if_pos q2]
  have le2 : 0 ≤ l - (N0 : Int) - (N1 : Int) - (N2 : Int) := by omega
  have HE : Hid (R = l - (N0 : Int) - (N1 : Int) - (N2 : Int)) := by have q := HRP.out (by omega); show _ = _; omega
  go_wp2
  go_ret
  exact ⟨by rw [HE.out]; rfl, BB2.out⟩
def shTBlockS : Sh := .l 4 (fun i => match i with | 0 => shSStepS | 1 => .n | 2 => .n | _ => .n)
theorem thin_TBlockS : Thin shTBlockS := ⟨by decide, fun i => by
  show Thin (match i with | 0 => shSStepS | 1 => .n | 2 => .n | _ => .n)
  split
  · exact thin_SStepS
  · exact trivial
  · exact trivial
  · exact trivial⟩
end Go.Proofs.Ytdacpbhdemkacaa.deep
