/-
  What the laws' own helpers do on data: XCellS.
-/
import Derived.Test.YtbjfhcbgghpdaaaProg
import Derived.Test.YtbjfhcbgghpdaaaDeep
import Derived.Test.YtbjfhcbgghpdaaaDeepOpen
import Derived.Test.YtbjfhcbgghpdaaaDeepRow
import Derived.WalkKit
import Derived.WalkSpells
import Derived.Below
import Derived.Handy
import Derived.Deep.OwnRows
import Derived.Deep.RegionWith
import Derived.Laws.MakeOwn
namespace Go.Proofs.Ytbjfhcbgghpdaaa.deep
open Go.RowKit Go.Proofs.Ytbjfhcbgghpdaaa.ints
set_option linter.unusedVariables false

def shXCellS : Sh := .l 2 (fun i => match i with | 0 => .n | _ => .n)
theorem thin_XCellS : Thin shXCellS := ⟨by decide, fun i => by
  show Thin (match i with | 0 => .n | _ => .n)
  split
  · exact trivial
  · exact trivial⟩
theorem XCell_to (x0 : Int) (x1 : Int) (W : World) : Calls Try.prog 26 #[.agg #[.int .i64 x0, .int .i64 x1]] W fun e W' => e = .returned (.agg #[.int .i64 x0, .int .i64 x1]) ∧ Below W.heap.size W W' := by
  go_enter Try.func26, Try.ntmps26
  go_wp2
  refine bodyPost_ret (v := .agg #[.int .i64 x0, .int .i64 x1]) (by simp [results, Try.results26, go_sem]) rfl ⟨rfl, by go_grown⟩
theorem XCellS_info : (Try.prog.info? 57).map (fun i => (i.zero, i.size, i.bytes)) = some (some (.agg #[.int .i64 0, .int .i64 0]), 2, 16) := by kernel_rfl
def XCellS_zero (i : Nat) : Value := rowF [.int .i64 0, .int .i64 0] i
theorem XCellS_made (n i : Nat) (hi : i < n) : (madeCells #[.int .i64 0, .int .i64 0] n)[i]? = some (XCellS_zero (i % 2)) := by
  have h : i % 2 < 2 := Nat.mod_lt _ (by decide)
  simp only [madeCells, Array.getElem?_map, Array.getElem?_range, hi, if_true, Option.map_some, XCellS_zero]
  generalize i % 2 = j at h
  congr 1
  match j, h with
  | 0, _ => rfl
  | 1, _ => rfl
  | j + 2, h => omega
set_option maxRecDepth 100000 in
set_option maxHeartbeats 4000000 in
theorem XCellS_to (a : Option Addr) (len cap : Nat) (cs : Nat → Dv) (c : Bool) (W : World) (hf : Hid (Fits shXCellS (.l len 2 cs))) (hs : Hid (szD (.l len 2 cs) ≤ 1048576)) (h : Hid (Holds W c (.l len 2 cs) (.slice a len cap))) :
    Calls Try.prog 9 #[.slice a len cap] W fun e W' => e = .returned (.slice (some ⟨W.heap.size, 0, none⟩) len len) ∧ Owns W' true W.heap.size (.l len 2 cs) (.slice (some ⟨W.heap.size, 0, none⟩) len len) (rng W.heap.size W'.heap.size) ∧ Below W.heap.size W W' := by
  have hlen : len ≤ 1048576 := Nat.le_trans (Nat.le_add_right _ _) hs.out
  obtain ⟨i0, hi, hz0, hz1, hz2⟩ := parts_of XCellS_info
  have hmk : ∀ w : World, (Instr.makeSlice 25 (.int .i64 (len : Int)) (.int .i64 (len : Int))).run Try.prog w = .ok (.slice (some ⟨w.heap.size, 0, none⟩) len len) (w.alloc (.cells (madeCells #[.int .i64 0, .int .i64 0] (len * 2)) 57)) := by
    intro w
    have hr := run_make (P := Try.prog) w 25 57 i0 _ Try.underlying25 hi hz0 .i64 .i64 (len : Int) (len : Int) (by omega) (Int.le_refl _) (by rw [hz2]; omega) (by omega)
    simp only [Int.toNat_natCast] at hr
    rw [hr, hz1]; rfl
  clear hi hz0 hz1 hz2
  go_enter Try.func9, Try.ntmps9
  go_wp2
  clear hmk
  go_loopw [4] (fun vi wr => ∃ (k : Nat) (U : Nat → Value), k ≤ len ∧ vi = .int .i64 k ∧ Hid (wr.rowIs W.heap.size 57 (len * 2) (fun j => if j < k * 2 then U j else XCellS_zero (j % 2))) ∧ Hid (Rowed wr true W.heap.size cs U (k * 2) (rng (W.heap.size + 1) wr.heap.size)) ∧ Hid (Below W.heap.size W wr)) (fun vi _ => len - (intOf vi).toNat)
  case atStart =>
    refine ⟨0, fun _ => .bool false, Nat.zero_le _, rfl, ?_, ?_, ?_⟩
    · have h := World.rowIs_alloc W (madeCells #[.int .i64 0, .int .i64 0] (len * 2)) 57 (fun j => XCellS_zero (j % 2)) (fun i hi => XCellS_made _ i (by rw [size_madeCells] at hi; exact hi))
      rw [size_madeCells] at h
      exact h.congr (fun i hi => by rw [if_neg (by omega)])
    · show Rowed _ _ _ _ _ _ _
      rw [Nat.zero_mul]; exact Rowed.nil _ _ _ _ _ _
    · show Below _ _ _
      go_grown
  case round =>
    obtain ⟨k, U, hk, rfl, HR, HO, HB⟩ := hrel
    by_cases hlt : k < len
    rotate_left
    · have HK : Hid (k = len) := by show k = len; omega
      go_wp2
      go_ret
      refine ⟨rfl, ?_, HB.out⟩
      have hr := HR.out.congr (g := U) (fun i hi => by rw [if_pos (by rw [HK.out]; exact hi)])
      have ho := HO.out
      rw [HK.out] at ho
      exact ho.owns hr (Nat.le_refl _) (fun q => by have := q.1; omega) (fun x hx => ⟨by have := hx.1; omega, hx.2⟩) ⟨Nat.le_refl _, HR.out.lt⟩ (fun _ => ⟨Nat.le_refl _, hlen⟩)
    have hltI : (k : Int) < (len : Int) := by omega
    have hkn : (k + 1) * 2 ≤ len * 2 := Nat.mul_le_mul_right _ hlt
    rw [Nat.add_mul] at hkn
    obtain ⟨b, o, ha, hb, hcell⟩ := h.out.cells HB.out (show 0 < len * 2 by omega)
    subst ha
    have hbs : W.heap.size < wr.heap.size := HR.out.lt
    have hbw : b < wr.heap.size := by omega
    obtain ⟨u0, d0, q0⟩ := hcell (k * 2) (by omega)
    obtain ⟨x0, E0⟩ := (hf.out.cell hlt (c := 0) (by decide)).int
    have E0 : Hid (cs (k * 2) = .n x0) := E0
    rw [E0.out] at q0
    have q0 : u0 = .int .i64 x0 := q0
    subst q0
    obtain ⟨u1, d1, q1⟩ := hcell (k * 2 + 1) (by omega)
    rw [← Nat.add_assoc] at d1
    obtain ⟨x1, E1⟩ := (hf.out.cell hlt (c := 1) (by decide)).int
    have E1 : Hid (cs (k * 2 + 1) = .n x1) := E1
    rw [E1.out] at q1
    have q1 : u1 = .int .i64 x1 := q1
    subst q1
    clear hcell
    have hB0 : Hid (Below wr.heap.size wr wr) := Below.refl _ _
    go_wp2_with fail
    refine (XCell_to x0 x1 _).mono ?_
    rintro e w1 ⟨rfl, hB1⟩
    have HC1 : Hid (w1.rowIs W.heap.size 57 (len * 2) (fun j => if j < k * 2 then U j else XCellS_zero (j % 2))) := HR.out.of_block (hB1.block _ hbs)
    have HO1 : Hid (Rowed w1 true W.heap.size cs U (k * 2) (rng (W.heap.size + 1) wr.heap.size)) := HO.out.kept hB1
    have HB1 : Hid (Below W.heap.size W w1) := HB.out.trans (hB1.mono HB.out.size)
    have hws : wr.heap.size ≤ w1.heap.size := hB1.size
    clear hB1 HR HO
    have d0' := HC1.out.cell (i := k * 2) (by omega)
    have f0' := HC1.out.frozen (k * 2)
    rw [if_neg (by omega)] at d0'
    rw [show (k * 2) % 2 = 0 by omega] at d0'
    have d0' : w1.cell? ⟨W.heap.size, k * 2, none⟩ = some (.int .i64 0) := d0'
    have d1' := HC1.out.cell (i := k * 2 + 1) (by omega)
    have f1' := HC1.out.frozen (k * 2 + 1)
    rw [if_neg (by omega)] at d1'
    rw [show (k * 2 + 1) % 2 = 1 by omega] at d1'
    have d1' : w1.cell? ⟨W.heap.size, k * 2 + 1, none⟩ = some (.int .i64 0) := d1'
    go_wp2
    go_roundw
    case rel =>
      obtain ⟨V, hV⟩ : ∃ V : Nat → Value, V = fun j => if j = k * 2 then .int .i64 x0 else if j = k * 2 + 1 then .int .i64 x1 else U j := ⟨_, rfl⟩
      have uk : ∀ j, j < k * 2 → U j = V j := fun j hj => by rw [hV]; simp only []; rw [if_neg (show ¬ j = k * 2 by omega), if_neg (show ¬ j = k * 2 + 1 by omega)]
      have u0' : V (k * 2) = .int .i64 x0 := by rw [hV]; simp
      have u1' : V (k * 2 + 1) = .int .i64 x1 := by rw [hV]; simp
      refine ⟨k + 1, V, by omega, by go_num, ?_, ?_, ?_⟩
      · refine World.rowIs.congr ((HC1.out.set (k * 2) (.int .i64 x0)).set (k * 2 + 1) (.int .i64 x1)) ?_
        intro j hj
        rcases (show j = k * 2 ∨ j = k * 2 + 1 ∨ j < k * 2 ∨ (k + 1) * 2 ≤ j by omega) with rfl | rfl | h | h
        · rw [if_pos (show k * 2 < (k + 1) * 2 by omega), u0']; simp
        · rw [if_pos (show k * 2 + 1 < (k + 1) * 2 by omega), u1']; simp
        · rw [if_pos (show j < (k + 1) * 2 by omega), if_neg (show ¬ j = k * 2 + 1 by omega), if_neg (show ¬ j = k * 2 by omega), if_pos h, uk j h]
        · rw [if_neg (show ¬ j < (k + 1) * 2 by omega), if_neg (show ¬ j = k * 2 + 1 by omega), if_neg (show ¬ j = k * 2 by omega), if_neg (show ¬ j < k * 2 by omega)]
      · show Rowed _ _ _ _ _ _ _
        have hr : Rowed w1 true W.heap.size cs V (k * 2) (rng (W.heap.size + 1) w1.heap.size) := (HO1.out.congr uk).more (fun x hx => ⟨hx.1, by have := hx.2; omega⟩)
        have hr0 := hr.flat (by rw [u0', E0.out]; exact rfl)
        have hr1 := hr0.flat (by rw [u1', E1.out]; exact rfl)
        rw [show (k + 1) * 2 = k * 2 + 1 + 1 by omega]
        refine Rowed.more (hr1.agree (by simp [World.setCell]) (fun b hb _ => ?_)) (fun x hx => ⟨hx.1, by have := hx.2; simpa [World.setCell] using this⟩)
        have hne : b ≠ W.heap.size := by have := hb.1; omega
        iterate 2 rw [Below.heap_setCell _ _ _ _ (show b ≠ W.heap.size from hne)]
      · show Below _ _ _
        refine Below.trans HB1.out ?_
        go_grown
    case measure => simp [intOf]; omega
set_option maxRecDepth 100000 in
set_option maxHeartbeats 4000000 in
theorem XCell_eq (x0 : Int) (x1 : Int) (c c' : Bool) (W : World) : Calls Try.prog 28 #[.agg #[.int .i64 x0, .int .i64 x1], .agg #[.int .i64 x0, .int .i64 x1]] W fun e W' => e = .returned (.bool true) ∧ Below W.heap.size W W' := by
  have ne0 : (x0 != x0) = false := by simp
  have ne1 : (x1 != x1) = false := by simp
  go_enter Try.func28, Try.ntmps28
  go_wp2
  go_ret
  exact ⟨rfl, by go_grown⟩
set_option maxRecDepth 100000 in
set_option maxHeartbeats 4000000 in
theorem XCellS_eq (a a' : Option Addr) (len cap cap' : Nat) (cs : Nat → Dv) (c c' : Bool) (W : World) (hf : Hid (Fits shXCellS (.l len 2 cs))) (hs : Hid (szD (.l len 2 cs) ≤ 1048576)) (h : Hid (Holds W c (.l len 2 cs) (.slice a len cap))) (h' : Hid (Holds W c' (.l len 2 cs) (.slice a' len cap'))) :
    Calls Try.prog 11 #[.slice a len cap, .slice a' len cap'] W fun e W' => e = .returned (.bool true) ∧ Below W.heap.size W W' := by
  have hlen : len ≤ 1048576 := Nat.le_trans (Nat.le_add_right _ _) hs.out
  go_enter Try.func11, Try.ntmps11
  go_wp2
  go_loopw [5] (fun vi wr => ∃ k : Nat, k ≤ len ∧ vi = .int .i64 k ∧ Hid (Below W.heap.size W wr)) (fun vi _ => len - (intOf vi).toNat)
  case atStart => exact ⟨0, Nat.zero_le _, rfl, Below.refl _ _⟩
  case round =>
    obtain ⟨k, hk, rfl, HB⟩ := hrel
    by_cases hlt : k < len
    rotate_left
    · go_wp2
      go_ret
      exact ⟨rfl, HB.out⟩
    have hltI : (k : Int) < (len : Int) := by omega
    have hkn : (k + 1) * 2 ≤ len * 2 := Nat.mul_le_mul_right _ hlt
    rw [Nat.add_mul] at hkn
    obtain ⟨b, o, ha, hb, hcell⟩ := h.out.cells HB.out (show 0 < len * 2 by omega)
    obtain ⟨b', o', ha', hb', hcell'⟩ := h'.out.cells HB.out (show 0 < len * 2 by omega)
    subst ha ha'
    have hbw : b < wr.heap.size := by have := HB.out.size; omega
    have hbw' : b' < wr.heap.size := by have := HB.out.size; omega
    obtain ⟨u0, d0, q0⟩ := hcell (k * 2) (by omega)
    obtain ⟨v0, g0, r0⟩ := hcell' (k * 2) (by omega)
    obtain ⟨x0, E0⟩ := (hf.out.cell hlt (c := 0) (by decide)).int
    have E0 : cs (k * 2) = .n x0 := E0
    rw [E0] at q0 r0
    have q0 : u0 = .int .i64 x0 := q0
    have r0 : v0 = .int .i64 x0 := r0
    subst q0 r0
    clear E0
    obtain ⟨u1, d1, q1⟩ := hcell (k * 2 + 1) (by omega)
    obtain ⟨v1, g1, r1⟩ := hcell' (k * 2 + 1) (by omega)
    rw [← Nat.add_assoc] at d1 g1
    obtain ⟨x1, E1⟩ := (hf.out.cell hlt (c := 1) (by decide)).int
    have E1 : cs (k * 2 + 1) = .n x1 := E1
    rw [E1] at q1 r1
    have q1 : u1 = .int .i64 x1 := q1
    have r1 : v1 = .int .i64 x1 := r1
    subst q1 r1
    clear E1
    clear hcell hcell'
    have HD : Hid (Below W.heap.size W wr.drew) := HB.out.drew
    go_wp2_with fail
    go_region_with (go_at_call 28; refine (XCell_eq x0 x1 c c' _  ).mono ?_; rintro e w' ⟨rfl, hb⟩; have HX : Hid (Below W.heap.size W w') := HD.out.trans (hb.mono HD.out.size); clear hb)
    all_goals
      go_wp2
      go_roundw
      case rel => exact ⟨k + 1, by omega, by go_num, HX.out⟩
      case measure => simp [intOf]; omega
set_option maxRecDepth 100000 in
set_option maxHeartbeats 4000000 in
theorem XCellS_mark (k0 : Int) (h0 : 0 ≤ k0) (h1 : k0 ≤ 1000000000) (a : Option Addr) (len cap : Nat) (cs : Nat → Dv) (c : Bool) (W : World) (B : Nat) (F : Nat → Prop) (hf : Hid (Fits shXCellS (.l len 2 cs))) (hs : Hid (szD (.l len 2 cs) ≤ 1048576)) (h : Hid (Owns W c B (.l len 2 cs) (.slice a len cap) F)) :
    Calls Try.prog 22 #[.slice a len cap, .int .i64 k0] W fun e W' => e = .returned (.int .i64 (k0 + (cntD (.l len 2 cs) : Nat))) ∧ Owns W' c B (mkD k0 (.l len 2 cs)) (.slice a len cap) F ∧ OnlyF W W' F := by
  have hlen : len ≤ 1048576 := Nat.le_trans (Nat.le_add_right _ _) hs.out
  have hcn : sumTo (fun j => cntD (cs j)) (len * 2) ≤ 8388609 := by have q := cnt_le thin_XCellS hf.out; have q2 := hs.out; simp only [cntD] at q; omega
  have hmo : ∀ m, m ≤ len * 2 → sumTo (fun j => cntD (cs j)) m ≤ 8388609 := fun m hm => Nat.le_trans (sumTo_mono _ _ hm) hcn
  have HMO : Hid (∀ m, m ≤ len * 2 → sumTo (fun j => cntD (cs j)) m ≤ 8388609) := hmo
  clear hcn hmo
  go_enter Try.func22, Try.ntmps22
  go_wp2
  go_loopw [1, 5] (fun vk vi wr => ∃ k : Nat, k ≤ len ∧ vi = .int .i64 k ∧ vk = .int .i64 (k0 + (sumTo (fun j => cntD (cs j)) (k * 2) : Nat)) ∧ Hid (Owns wr c B (.l len 2 (fun j => if j < k * 2 then mkD (k0 + (sumTo (fun j => cntD (cs j)) j : Nat)) (cs j) else cs j)) (.slice a len cap) F) ∧ Hid (OnlyF W wr F)) (fun _ vi _ => len - (intOf vi).toNat)
  case atStart => exact ⟨0, Nat.zero_le _, rfl, by simp [sumTo], h.out.congr (fun i hi => by rw [if_neg (by omega)]), OnlyF.refl _ _⟩
  case round =>
    obtain ⟨k, hk, rfl, rfl, HO, HB⟩ := hrel
    by_cases hlt : k < len
    rotate_left
    · have HK : Hid (k = len) := by show k = len; omega
      go_wp2
      go_ret
      refine ⟨by rw [HK.out]; rfl, ?_, HB.out⟩
      exact HO.out.congr (fun i hi => by rw [if_pos (by rw [HK.out]; exact hi)])
    have hltI : (k : Int) < (len : Int) := by omega
    have hkn : (k + 1) * 2 ≤ len * 2 := Nat.mul_le_mul_right _ hlt
    rw [Nat.add_mul] at hkn
    obtain ⟨b, o, ha, hbw⟩ := HO.out.addr (show 0 < len * 2 by omega)
    subst ha
    have hk1 := HMO.out (k * 2) (by omega)
    obtain ⟨kk, HKK⟩ : ∃ kk : Int, Hid (k0 + (sumTo (fun j => cntD (cs j)) (k * 2) : Nat) = kk) := ⟨_, rfl⟩
    have kk0 : 0 ≤ kk := by have := HKK.out; omega
    have kk1 : kk ≤ 1000000000 + 8388609 := by have := HKK.out; omega
    rw [HKK.out]
    clear hk1
    obtain ⟨x0, E0⟩ := (hf.out.cell hlt (c := 0) (by decide)).int
    have E0 : Hid (cs (k * 2) = .n x0) := E0
    obtain ⟨x1, E1⟩ := (hf.out.cell hlt (c := 1) (by decide)).int
    have E1 : Hid (cs (k * 2 + 1) = .n x1) := E1
    have HO0 : Hid (Owns wr c B (.l len 2 (fun j => if j < k * 2 then mkD (k0 + (sumTo (fun j => cntD (cs j)) j : Nat)) (cs j) else cs j)) (.slice (some ⟨b, o, none⟩) len cap) F) := HO
    clear HO
    obtain ⟨d0, f0, s0⟩ := HO0.out.num (j := k * 2) (y := x0) (by omega) (by show (if _ then _ else _) = _; rw [if_neg (by omega)]; exact E0.out)
    obtain ⟨s0, t0⟩ := s0 (kk)
    have HO1 : Hid (Owns (wr.setCell ⟨b, o + k * 2, none⟩ (.int .i64 (kk))) c B (.l len 2 (updD (fun j => if j < k * 2 then mkD (k0 + (sumTo (fun j => cntD (cs j)) j : Nat)) (cs j) else cs j) (k * 2) (.n (kk)))) (.slice (some ⟨b, o, none⟩) len cap) F) := s0
    have HB1 : Hid (OnlyF W (wr.setCell ⟨b, o + k * 2, none⟩ (.int .i64 (kk))) F) := HB.out.trans t0
    clear s0 t0
    obtain ⟨d1, f1, s1⟩ := HO1.out.num (j := k * 2 + 1) (y := x1) (by omega) (by rw [updD_other _ _ (show k * 2 + 1 ≠ k * 2 by omega)]; show (if _ then _ else _) = _; rw [if_neg (by omega)]; exact E1.out)
    obtain ⟨s1, t1⟩ := s1 (kk + 1)
    rw [← Nat.add_assoc] at d1 f1 s1 t1
    have HO2 : Hid (Owns ((wr.setCell ⟨b, o + k * 2, none⟩ (.int .i64 (kk))).setCell ⟨b, o + k * 2 + 1, none⟩ (.int .i64 (kk + 1))) c B (.l len 2 (updD (updD (fun j => if j < k * 2 then mkD (k0 + (sumTo (fun j => cntD (cs j)) j : Nat)) (cs j) else cs j) (k * 2) (.n (kk))) (k * 2 + 1) (.n (kk + 1)))) (.slice (some ⟨b, o, none⟩) len cap) F) := s1
    have HB2 : Hid (OnlyF W ((wr.setCell ⟨b, o + k * 2, none⟩ (.int .i64 (kk))).setCell ⟨b, o + k * 2 + 1, none⟩ (.int .i64 (kk + 1))) F) := HB1.out.trans t1
    clear s1 t1
    go_wp2
    go_roundw
    case rel =>
      have e1 : sumTo (fun j => cntD (cs j)) ((k + 1) * 2) = sumTo (fun j => cntD (cs j)) (k * 2) + cntD (cs (k * 2)) + cntD (cs (k * 2 + 1)) := by rw [show (k + 1) * 2 = k * 2 + 1 + 1 by omega]; rfl
      have n0 : cntD (cs (k * 2)) = 1 := by rw [E0.out]; exact rfl
      have n1 : cntD (cs (k * 2 + 1)) = 1 := by rw [E1.out]; exact rfl
      have m1 : sumTo (fun j => cntD (cs j)) (k * 2 + 1) = sumTo (fun j => cntD (cs j)) (k * 2) + cntD (cs (k * 2)) := rfl
      have hkk := HKK.out
      refine ⟨k + 1, by omega, by go_num, ?_, ?_, HB2⟩
      · rw [e1, n0, n1]
        congr 1
        omega
      · refine HO2.out.congr ?_
        intro j hj
        rcases (show j = k * 2 ∨ j = k * 2 + 1 ∨ j < k * 2 ∨ (k + 1) * 2 ≤ j by omega) with e0 | e0 | h | h
        · rw [e0, if_pos (show k * 2 < (k + 1) * 2 by omega), updD_other _ _ (show k * 2 ≠ k * 2 + 1 by omega), updD_same, E0.out]
          rw [show k0 + (sumTo (fun j => cntD (cs j)) (k * 2) : Nat) = kk by omega]
          rfl
        · rw [e0, if_pos (show k * 2 + 1 < (k + 1) * 2 by omega), updD_same, E1.out]
          rw [show k0 + (sumTo (fun j => cntD (cs j)) (k * 2 + 1) : Nat) = kk + 1 by rw [m1, n0]; omega]
          rfl
        · rw [updD_other _ _ (show j ≠ k * 2 + 1 by omega), updD_other _ _ (show j ≠ k * 2 by omega), if_pos h, if_pos (show j < (k + 1) * 2 by omega)]
        · rw [updD_other _ _ (show j ≠ k * 2 + 1 by omega), updD_other _ _ (show j ≠ k * 2 by omega), if_neg (show ¬ j < k * 2 by omega), if_neg (show ¬ j < (k + 1) * 2 by omega)]
    case measure => simp [intOf]; omega
set_option maxRecDepth 100000 in
set_option maxHeartbeats 4000000 in
theorem XCellS_size (a : Option Addr) (len cap : Nat) (cs : Nat → Dv) (l : Int) (W : World) (hf : Hid (Fits shXCellS (.l len 2 cs))) (hl : Hid (Lens (.l len 2 cs))) (h0 : 0 ≤ l) (h1 : l ≤ 1048576) :
    Calls Try.prog 7 #[.slice a len cap, .int .i64 l] W fun e W' => e = .returned (.int .i64 (if (szD (.l len 2 cs) : Int) ≤ l then l - (szD (.l len 2 cs) : Int) else -1)) ∧ W' = W := by
  have hc : szD (.l len 2 cs) = len := by
    show len + sumTo _ _ = _
    rw [sz_none (fun i hi => by
      have q := hf.out.2 i hi
      have hm : i % 2 < 2 := Nat.mod_lt _ (by decide)
      generalize i % 2 = m at q hm
      match m, hm, q with
      | 0, _, q => obtain ⟨x, hx⟩ := Fits.int q; rw [hx]; rfl
      | 1, _, q => obtain ⟨x, hx⟩ := Fits.int q; rw [hx]; rfl
      | m + 2, hm, _ => omega)]; omega
  have hm := hl.out.1
  unfold maxLen at hm
  rw [hc]
  by_cases h : (len : Int) ≤ l
  · rw [if_pos h]
    go_enter Try.func7, Try.ntmps7
    go_wp2
    go_ret
    exact ⟨rfl, rfl⟩
  · rw [if_neg h]
    have h' : l < (len : Int) := by omega
    clear h
    go_enter Try.func7, Try.ntmps7
    go_wp2
    go_ret
    exact ⟨rfl, rfl⟩
end Go.Proofs.Ytbjfhcbgghpdaaa.deep
