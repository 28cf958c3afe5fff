/-
  What the laws' own helpers do on data: LStepS, GuardS, S:Lined.
-/
import Derived.Test.YtlocdlgbjjbnoaaProg
import Derived.Test.YtlocdlgbjjbnoaaDeep
import Derived.Test.YtlocdlgbjjbnoaaDeepOpen
import Derived.Test.YtlocdlgbjjbnoaaDeepRow
import Derived.WalkKit
import Derived.WalkSpells
import Derived.Below
import Derived.Handy
import Derived.Deep.OwnRows
import Derived.Deep.RegionWith
import Derived.Laws.MakeOwn
namespace Go.Proofs.Ytlocdlgbjjbnoaa.deep
open Go.RowKit Go.Proofs.Ytlocdlgbjjbnoaa.ints
set_option linter.unusedVariables false

def shLStepS : Sh := .l 3 (fun i => match i with | 0 => .n | 1 => .n | _ => .n)
theorem thin_LStepS : Thin shLStepS := ⟨by decide, fun i => by
  show Thin (match i with | 0 => .n | 1 => .n | _ => .n)
  split
  · exact trivial
  · exact trivial
  · exact trivial⟩
theorem LStep_to (x0 : Int) (x1 : Int) (x2 : Int) (W : World) : Calls Try.prog 63 #[.agg #[.int .i64 x0, .int .i64 x1, .int .i64 x2]] W fun e W' => e = .returned (.agg #[.int .i64 x0, .int .i64 x1, .int .i64 x2]) ∧ Below W.heap.size W W' := by
  go_enter Try.func63, Try.ntmps63
  go_wp2
  refine bodyPost_ret (v := .agg #[.int .i64 x0, .int .i64 x1, .int .i64 x2]) (by simp [results, Try.results63, go_sem]) rfl ⟨rfl, by go_grown⟩
theorem LStepS_info : (Try.prog.info? 90).map (fun i => (i.zero, i.size, i.bytes)) = some (some (.agg #[.int .i64 0, .int .i64 0, .int .i64 0]), 3, 24) := by kernel_rfl
def LStepS_zero (i : Nat) : Value := rowF [.int .i64 0, .int .i64 0, .int .i64 0] i
theorem LStepS_made (n i : Nat) (hi : i < n) : (madeCells #[.int .i64 0, .int .i64 0, .int .i64 0] n)[i]? = some (LStepS_zero (i % 3)) := by
  have h : i % 3 < 3 := Nat.mod_lt _ (by decide)
  simp only [madeCells, Array.getElem?_map, Array.getElem?_range, hi, if_true, Option.map_some, LStepS_zero]
  generalize i % 3 = j at h
  congr 1
  match j, h with
  | 0, _ => rfl
  | 1, _ => rfl
  | 2, _ => rfl
  | j + 3, h => omega
set_option maxRecDepth 100000 in
set_option maxHeartbeats 4000000 in
theorem LStepS_to (a : Option Addr) (len cap : Nat) (cs : Nat → Dv) (c : Bool) (W : World) (hf : Hid (Fits shLStepS (.l len 3 cs))) (hs : Hid (szD (.l len 3 cs) ≤ 1048576)) (h : Hid (Holds W c (.l len 3 cs) (.slice a len cap))) :
    Calls Try.prog 44 #[.slice a len cap] W fun e W' => e = .returned (.slice (some ⟨W.heap.size, 0, none⟩) len len) ∧ Owns W' true W.heap.size (.l len 3 cs) (.slice (some ⟨W.heap.size, 0, none⟩) len len) (rng W.heap.size W'.heap.size) ∧ Below W.heap.size W W' := by
  have hlen : len ≤ 1048576 := Nat.le_trans (Nat.le_add_right _ _) hs.out
  obtain ⟨i0, hi, hz0, hz1, hz2⟩ := parts_of LStepS_info
  have hmk : ∀ w : World, (Instr.makeSlice 34 (.int .i64 (len : Int)) (.int .i64 (len : Int))).run Try.prog w = .ok (.slice (some ⟨w.heap.size, 0, none⟩) len len) (w.alloc (.cells (madeCells #[.int .i64 0, .int .i64 0, .int .i64 0] (len * 3)) 90)) := by
    intro w
    have hr := run_make (P := Try.prog) w 34 90 i0 _ Try.underlying34 hi hz0 .i64 .i64 (len : Int) (len : Int) (by omega) (Int.le_refl _) (by rw [hz2]; omega) (by omega)
    simp only [Int.toNat_natCast] at hr
    rw [hr, hz1]; rfl
  clear hi hz0 hz1 hz2
  go_enter Try.func44, Try.ntmps44
  go_wp2
  clear hmk
  go_loopw [4] (fun vi wr => ∃ (k : Nat) (U : Nat → Value), k ≤ len ∧ vi = .int .i64 k ∧ Hid (wr.rowIs W.heap.size 90 (len * 3) (fun j => if j < k * 3 then U j else LStepS_zero (j % 3))) ∧ Hid (Rowed wr true W.heap.size cs U (k * 3) (rng (W.heap.size + 1) wr.heap.size)) ∧ Hid (Below W.heap.size W wr)) (fun vi _ => len - (intOf vi).toNat)
  case atStart =>
    refine ⟨0, fun _ => .bool false, Nat.zero_le _, rfl, ?_, ?_, ?_⟩
    · have h := World.rowIs_alloc W (madeCells #[.int .i64 0, .int .i64 0, .int .i64 0] (len * 3)) 90 (fun j => LStepS_zero (j % 3)) (fun i hi => LStepS_made _ i (by rw [size_madeCells] at hi; exact hi))
      rw [size_madeCells] at h
      exact h.congr (fun i hi => by rw [if_neg (by omega)])
    · show Rowed _ _ _ _ _ _ _
      rw [Nat.zero_mul]; exact Rowed.nil _ _ _ _ _ _
    · show Below _ _ _
      go_grown
  case round =>
    obtain ⟨k, U, hk, rfl, HR, HO, HB⟩ := hrel
    by_cases hlt : k < len
    rotate_left
    · have HK : Hid (k = len) := by show k = len; omega
      go_wp2
      go_ret
      refine ⟨rfl, ?_, HB.out⟩
      have hr := HR.out.congr (g := U) (fun i hi => by rw [if_pos (by rw [HK.out]; exact hi)])
      have ho := HO.out
      rw [HK.out] at ho
      exact ho.owns hr (Nat.le_refl _) (fun q => by have := q.1; omega) (fun x hx => ⟨by have := hx.1; omega, hx.2⟩) ⟨Nat.le_refl _, HR.out.lt⟩ (fun _ => ⟨Nat.le_refl _, hlen⟩)
    have hltI : (k : Int) < (len : Int) := by omega
    have hkn : (k + 1) * 3 ≤ len * 3 := Nat.mul_le_mul_right _ hlt
    rw [Nat.add_mul] at hkn
    obtain ⟨b, o, ha, hb, hcell⟩ := h.out.cells HB.out (show 0 < len * 3 by omega)
    subst ha
    have hbs : W.heap.size < wr.heap.size := HR.out.lt
    have hbw : b < wr.heap.size := by omega
    obtain ⟨u0, d0, q0⟩ := hcell (k * 3) (by omega)
    obtain ⟨x0, E0⟩ := (hf.out.cell hlt (c := 0) (by decide)).int
    have E0 : Hid (cs (k * 3) = .n x0) := E0
    rw [E0.out] at q0
    have q0 : u0 = .int .i64 x0 := q0
    subst q0
    obtain ⟨u1, d1, q1⟩ := hcell (k * 3 + 1) (by omega)
    rw [← Nat.add_assoc] at d1
    obtain ⟨x1, E1⟩ := (hf.out.cell hlt (c := 1) (by decide)).int
    have E1 : Hid (cs (k * 3 + 1) = .n x1) := E1
    rw [E1.out] at q1
    have q1 : u1 = .int .i64 x1 := q1
    subst q1
    obtain ⟨u2, d2, q2⟩ := hcell (k * 3 + 2) (by omega)
    rw [← Nat.add_assoc] at d2
    obtain ⟨x2, E2⟩ := (hf.out.cell hlt (c := 2) (by decide)).int
    have E2 : Hid (cs (k * 3 + 2) = .n x2) := E2
    rw [E2.out] at q2
    have q2 : u2 = .int .i64 x2 := q2
    subst q2
    clear hcell
    have hB0 : Hid (Below wr.heap.size wr wr) := Below.refl _ _
    go_wp2_with fail
    refine (LStep_to x0 x1 x2 _).mono ?_
    rintro e w1 ⟨rfl, hB1⟩
    have HC1 : Hid (w1.rowIs W.heap.size 90 (len * 3) (fun j => if j < k * 3 then U j else LStepS_zero (j % 3))) := HR.out.of_block (hB1.block _ hbs)
    have HO1 : Hid (Rowed w1 true W.heap.size cs U (k * 3) (rng (W.heap.size + 1) wr.heap.size)) := HO.out.kept hB1
    have HB1 : Hid (Below W.heap.size W w1) := HB.out.trans (hB1.mono HB.out.size)
    have hws : wr.heap.size ≤ w1.heap.size := hB1.size
    clear hB1 HR HO
    have d0' := HC1.out.cell (i := k * 3) (by omega)
    have f0' := HC1.out.frozen (k * 3)
    rw [if_neg (by omega)] at d0'
    rw [show (k * 3) % 3 = 0 by omega] at d0'
    have d0' : w1.cell? ⟨W.heap.size, k * 3, none⟩ = some (.int .i64 0) := d0'
    have d1' := HC1.out.cell (i := k * 3 + 1) (by omega)
    have f1' := HC1.out.frozen (k * 3 + 1)
    rw [if_neg (by omega)] at d1'
    rw [show (k * 3 + 1) % 3 = 1 by omega] at d1'
    have d1' : w1.cell? ⟨W.heap.size, k * 3 + 1, none⟩ = some (.int .i64 0) := d1'
    have d2' := HC1.out.cell (i := k * 3 + 2) (by omega)
    have f2' := HC1.out.frozen (k * 3 + 2)
    rw [if_neg (by omega)] at d2'
    rw [show (k * 3 + 2) % 3 = 2 by omega] at d2'
    have d2' : w1.cell? ⟨W.heap.size, k * 3 + 2, none⟩ = some (.int .i64 0) := d2'
    go_wp2
    go_roundw
    case rel =>
      obtain ⟨V, hV⟩ : ∃ V : Nat → Value, V = fun j => if j = k * 3 then .int .i64 x0 else if j = k * 3 + 1 then .int .i64 x1 else if j = k * 3 + 2 then .int .i64 x2 else U j := ⟨_, rfl⟩
      have uk : ∀ j, j < k * 3 → U j = V j := fun j hj => by rw [hV]; simp only []; rw [if_neg (show ¬ j = k * 3 by omega), if_neg (show ¬ j = k * 3 + 1 by omega), if_neg (show ¬ j = k * 3 + 2 by omega)]
      have u0' : V (k * 3) = .int .i64 x0 := by rw [hV]; simp
      have u1' : V (k * 3 + 1) = .int .i64 x1 := by rw [hV]; simp
      have u2' : V (k * 3 + 2) = .int .i64 x2 := by rw [hV]; simp
      refine ⟨k + 1, V, by omega, by go_num, ?_, ?_, ?_⟩
      · refine World.rowIs.congr (((HC1.out.set (k * 3) (.int .i64 x0)).set (k * 3 + 1) (.int .i64 x1)).set (k * 3 + 2) (.int .i64 x2)) ?_
        intro j hj
        rcases (show j = k * 3 ∨ j = k * 3 + 1 ∨ j = k * 3 + 2 ∨ j < k * 3 ∨ (k + 1) * 3 ≤ j by omega) with rfl | rfl | rfl | h | h
        · rw [if_pos (show k * 3 < (k + 1) * 3 by omega), u0']; simp
        · rw [if_pos (show k * 3 + 1 < (k + 1) * 3 by omega), u1']; simp
        · rw [if_pos (show k * 3 + 2 < (k + 1) * 3 by omega), u2']; simp
        · rw [if_pos (show j < (k + 1) * 3 by omega), if_neg (show ¬ j = k * 3 + 2 by omega), if_neg (show ¬ j = k * 3 + 1 by omega), if_neg (show ¬ j = k * 3 by omega), if_pos h, uk j h]
        · rw [if_neg (show ¬ j < (k + 1) * 3 by omega), if_neg (show ¬ j = k * 3 + 2 by omega), if_neg (show ¬ j = k * 3 + 1 by omega), if_neg (show ¬ j = k * 3 by omega), if_neg (show ¬ j < k * 3 by omega)]
      · show Rowed _ _ _ _ _ _ _
        have hr : Rowed w1 true W.heap.size cs V (k * 3) (rng (W.heap.size + 1) w1.heap.size) := (HO1.out.congr uk).more (fun x hx => ⟨hx.1, by have := hx.2; omega⟩)
        have hr0 := hr.flat (by rw [u0', E0.out]; exact rfl)
        have hr1 := hr0.flat (by rw [u1', E1.out]; exact rfl)
        have hr2 := hr1.flat (by rw [u2', E2.out]; exact rfl)
        rw [show (k + 1) * 3 = k * 3 + 1 + 1 + 1 by omega]
        refine Rowed.more (hr2.agree (by simp [World.setCell]) (fun b hb _ => ?_)) (fun x hx => ⟨hx.1, by have := hx.2; simpa [World.setCell] using this⟩)
        have hne : b ≠ W.heap.size := by have := hb.1; omega
        iterate 3 rw [Below.heap_setCell _ _ _ _ (show b ≠ W.heap.size from hne)]
      · show Below _ _ _
        refine Below.trans HB1.out ?_
        go_grown
    case measure => simp [intOf]; omega
set_option maxRecDepth 100000 in
set_option maxHeartbeats 4000000 in
theorem LStep_eq (x0 : Int) (x1 : Int) (x2 : Int) (c c' : Bool) (W : World) : Calls Try.prog 61 #[.agg #[.int .i64 x0, .int .i64 x1, .int .i64 x2], .agg #[.int .i64 x0, .int .i64 x1, .int .i64 x2]] W fun e W' => e = .returned (.bool true) ∧ Below W.heap.size W W' := by
  have ne0 : (x0 != x0) = false := by simp
  have ne1 : (x1 != x1) = false := by simp
  have ne2 : (x2 != x2) = false := by simp
  go_enter Try.func61, Try.ntmps61
  go_wp2
  go_ret
  exact ⟨rfl, by go_grown⟩
set_option maxRecDepth 100000 in
set_option maxHeartbeats 4000000 in
theorem LStepS_eq (a a' : Option Addr) (len cap cap' : Nat) (cs : Nat → Dv) (c c' : Bool) (W : World) (hf : Hid (Fits shLStepS (.l len 3 cs))) (hs : Hid (szD (.l len 3 cs) ≤ 1048576)) (h : Hid (Holds W c (.l len 3 cs) (.slice a len cap))) (h' : Hid (Holds W c' (.l len 3 cs) (.slice a' len cap'))) :
    Calls Try.prog 34 #[.slice a len cap, .slice a' len cap'] W fun e W' => e = .returned (.bool true) ∧ Below W.heap.size W W' := by
  have hlen : len ≤ 1048576 := Nat.le_trans (Nat.le_add_right _ _) hs.out
  go_enter Try.func34, Try.ntmps34
  go_wp2
  go_loopw [5] (fun vi wr => ∃ k : Nat, k ≤ len ∧ vi = .int .i64 k ∧ Hid (Below W.heap.size W wr)) (fun vi _ => len - (intOf vi).toNat)
  case atStart => exact ⟨0, Nat.zero_le _, rfl, Below.refl _ _⟩
  case round =>
    obtain ⟨k, hk, rfl, HB⟩ := hrel
    by_cases hlt : k < len
    rotate_left
    · go_wp2
      go_ret
      exact ⟨rfl, HB.out⟩
    have hltI : (k : Int) < (len : Int) := by omega
    have hkn : (k + 1) * 3 ≤ len * 3 := Nat.mul_le_mul_right _ hlt
    rw [Nat.add_mul] at hkn
    obtain ⟨b, o, ha, hb, hcell⟩ := h.out.cells HB.out (show 0 < len * 3 by omega)
    obtain ⟨b', o', ha', hb', hcell'⟩ := h'.out.cells HB.out (show 0 < len * 3 by omega)
    subst ha ha'
    have hbw : b < wr.heap.size := by have := HB.out.size; omega
    have hbw' : b' < wr.heap.size := by have := HB.out.size; omega
    obtain ⟨u0, d0, q0⟩ := hcell (k * 3) (by omega)
    obtain ⟨v0, g0, r0⟩ := hcell' (k * 3) (by omega)
    obtain ⟨x0, E0⟩ := (hf.out.cell hlt (c := 0) (by decide)).int
    have E0 : cs (k * 3) = .n x0 := E0
    rw [E0] at q0 r0
    have q0 : u0 = .int .i64 x0 := q0
    have r0 : v0 = .int .i64 x0 := r0
    subst q0 r0
    clear E0
    obtain ⟨u1, d1, q1⟩ := hcell (k * 3 + 1) (by omega)
    obtain ⟨v1, g1, r1⟩ := hcell' (k * 3 + 1) (by omega)
    rw [← Nat.add_assoc] at d1 g1
    obtain ⟨x1, E1⟩ := (hf.out.cell hlt (c := 1) (by decide)).int
    have E1 : cs (k * 3 + 1) = .n x1 := E1
    rw [E1] at q1 r1
    have q1 : u1 = .int .i64 x1 := q1
    have r1 : v1 = .int .i64 x1 := r1
    subst q1 r1
    clear E1
    obtain ⟨u2, d2, q2⟩ := hcell (k * 3 + 2) (by omega)
    obtain ⟨v2, g2, r2⟩ := hcell' (k * 3 + 2) (by omega)
    rw [← Nat.add_assoc] at d2 g2
    obtain ⟨x2, E2⟩ := (hf.out.cell hlt (c := 2) (by decide)).int
    have E2 : cs (k * 3 + 2) = .n x2 := E2
    rw [E2] at q2 r2
    have q2 : u2 = .int .i64 x2 := q2
    have r2 : v2 = .int .i64 x2 := r2
    subst q2 r2
    clear E2
    clear hcell hcell'
    have HD : Hid (Below W.heap.size W wr.drew) := HB.out.drew
    go_wp2_with fail
    go_region_with (go_at_call 61; refine (LStep_eq x0 x1 x2 c c' _  ).mono ?_; rintro e w' ⟨rfl, hb⟩; have HX : Hid (Below W.heap.size W w') := HD.out.trans (hb.mono HD.out.size); clear hb)
    all_goals
      go_wp2
      go_roundw
      case rel => exact ⟨k + 1, by omega, by go_num, HX.out⟩
      case measure => simp [intOf]; omega
set_option maxRecDepth 100000 in
set_option maxHeartbeats 4000000 in
theorem LStepS_mark (k0 : Int) (h0 : 0 ≤ k0) (h1 : k0 ≤ 1000000000) (a : Option Addr) (len cap : Nat) (cs : Nat → Dv) (c : Bool) (W : World) (B : Nat) (F : Nat → Prop) (hf : Hid (Fits shLStepS (.l len 3 cs))) (hs : Hid (szD (.l len 3 cs) ≤ 1048576)) (h : Hid (Owns W c B (.l len 3 cs) (.slice a len cap) F)) :
    Calls Try.prog 36 #[.slice a len cap, .int .i64 k0] W fun e W' => e = .returned (.int .i64 (k0 + (cntD (.l len 3 cs) : Nat))) ∧ Owns W' c B (mkD k0 (.l len 3 cs)) (.slice a len cap) F ∧ OnlyF W W' F := by
  have hlen : len ≤ 1048576 := Nat.le_trans (Nat.le_add_right _ _) hs.out
  have hcn : sumTo (fun j => cntD (cs j)) (len * 3) ≤ 8388609 := by have q := cnt_le thin_LStepS hf.out; have q2 := hs.out; simp only [cntD] at q; omega
  have hmo : ∀ m, m ≤ len * 3 → sumTo (fun j => cntD (cs j)) m ≤ 8388609 := fun m hm => Nat.le_trans (sumTo_mono _ _ hm) hcn
  have HMO : Hid (∀ m, m ≤ len * 3 → sumTo (fun j => cntD (cs j)) m ≤ 8388609) := hmo
  clear hcn hmo
  go_enter Try.func36, Try.ntmps36
  go_wp2
  go_loopw [1, 5] (fun vk vi wr => ∃ k : Nat, k ≤ len ∧ vi = .int .i64 k ∧ vk = .int .i64 (k0 + (sumTo (fun j => cntD (cs j)) (k * 3) : Nat)) ∧ Hid (Owns wr c B (.l len 3 (fun j => if j < k * 3 then mkD (k0 + (sumTo (fun j => cntD (cs j)) j : Nat)) (cs j) else cs j)) (.slice a len cap) F) ∧ Hid (OnlyF W wr F)) (fun _ vi _ => len - (intOf vi).toNat)
  case atStart => exact ⟨0, Nat.zero_le _, rfl, by simp [sumTo], h.out.congr (fun i hi => by rw [if_neg (by omega)]), OnlyF.refl _ _⟩
  case round =>
    obtain ⟨k, hk, rfl, rfl, HO, HB⟩ := hrel
    by_cases hlt : k < len
    rotate_left
    · have HK : Hid (k = len) := by show k = len; omega
      go_wp2
      go_ret
      refine ⟨by rw [HK.out]; rfl, ?_, HB.out⟩
      exact HO.out.congr (fun i hi => by rw [if_pos (by rw [HK.out]; exact hi)])
    have hltI : (k : Int) < (len : Int) := by omega
    have hkn : (k + 1) * 3 ≤ len * 3 := Nat.mul_le_mul_right _ hlt
    rw [Nat.add_mul] at hkn
    obtain ⟨b, o, ha, hbw⟩ := HO.out.addr (show 0 < len * 3 by omega)
    subst ha
    have hk1 := HMO.out (k * 3) (by omega)
    obtain ⟨kk, HKK⟩ : ∃ kk : Int, Hid (k0 + (sumTo (fun j => cntD (cs j)) (k * 3) : Nat) = kk) := ⟨_, rfl⟩
    have kk0 : 0 ≤ kk := by have := HKK.out; omega
    have kk1 : kk ≤ 1000000000 + 8388609 := by have := HKK.out; omega
    rw [HKK.out]
    clear hk1
    obtain ⟨x0, E0⟩ := (hf.out.cell hlt (c := 0) (by decide)).int
    have E0 : Hid (cs (k * 3) = .n x0) := E0
    obtain ⟨x1, E1⟩ := (hf.out.cell hlt (c := 1) (by decide)).int
    have E1 : Hid (cs (k * 3 + 1) = .n x1) := E1
    obtain ⟨x2, E2⟩ := (hf.out.cell hlt (c := 2) (by decide)).int
    have E2 : Hid (cs (k * 3 + 2) = .n x2) := E2
    have HO0 : Hid (Owns wr c B (.l len 3 (fun j => if j < k * 3 then mkD (k0 + (sumTo (fun j => cntD (cs j)) j : Nat)) (cs j) else cs j)) (.slice (some ⟨b, o, none⟩) len cap) F) := HO
    clear HO
    obtain ⟨d0, f0, s0⟩ := HO0.out.num (j := k * 3) (y := x0) (by omega) (by show (if _ then _ else _) = _; rw [if_neg (by omega)]; exact E0.out)
    obtain ⟨s0, t0⟩ := s0 (kk)
    have HO1 : Hid (Owns (wr.setCell ⟨b, o + k * 3, none⟩ (.int .i64 (kk))) c B (.l len 3 (updD (fun j => if j < k * 3 then mkD (k0 + (sumTo (fun j => cntD (cs j)) j : Nat)) (cs j) else cs j) (k * 3) (.n (kk)))) (.slice (some ⟨b, o, none⟩) len cap) F) := s0
    have HB1 : Hid (OnlyF W (wr.setCell ⟨b, o + k * 3, none⟩ (.int .i64 (kk))) F) := HB.out.trans t0
    clear s0 t0
    obtain ⟨d1, f1, s1⟩ := HO1.out.num (j := k * 3 + 1) (y := x1) (by omega) (by rw [updD_other _ _ (show k * 3 + 1 ≠ k * 3 by omega)]; show (if _ then _ else _) = _; rw [if_neg (by omega)]; exact E1.out)
    obtain ⟨s1, t1⟩ := s1 (kk + 1)
    rw [← Nat.add_assoc] at d1 f1 s1 t1
    have HO2 : Hid (Owns ((wr.setCell ⟨b, o + k * 3, none⟩ (.int .i64 (kk))).setCell ⟨b, o + k * 3 + 1, none⟩ (.int .i64 (kk + 1))) c B (.l len 3 (updD (updD (fun j => if j < k * 3 then mkD (k0 + (sumTo (fun j => cntD (cs j)) j : Nat)) (cs j) else cs j) (k * 3) (.n (kk))) (k * 3 + 1) (.n (kk + 1)))) (.slice (some ⟨b, o, none⟩) len cap) F) := s1
    have HB2 : Hid (OnlyF W ((wr.setCell ⟨b, o + k * 3, none⟩ (.int .i64 (kk))).setCell ⟨b, o + k * 3 + 1, none⟩ (.int .i64 (kk + 1))) F) := HB1.out.trans t1
    clear s1 t1
    obtain ⟨d2, f2, s2⟩ := HO2.out.num (j := k * 3 + 2) (y := x2) (by omega) (by rw [updD_other _ _ (show k * 3 + 2 ≠ k * 3 + 1 by omega)]; rw [updD_other _ _ (show k * 3 + 2 ≠ k * 3 by omega)]; show (if _ then _ else _) = _; rw [if_neg (by omega)]; exact E2.out)
    obtain ⟨s2, t2⟩ := s2 (kk + 1 + 1)
    rw [← Nat.add_assoc] at d2 f2 s2 t2
    have HO3 : Hid (Owns (((wr.setCell ⟨b, o + k * 3, none⟩ (.int .i64 (kk))).setCell ⟨b, o + k * 3 + 1, none⟩ (.int .i64 (kk + 1))).setCell ⟨b, o + k * 3 + 2, none⟩ (.int .i64 (kk + 1 + 1))) c B (.l len 3 (updD (updD (updD (fun j => if j < k * 3 then mkD (k0 + (sumTo (fun j => cntD (cs j)) j : Nat)) (cs j) else cs j) (k * 3) (.n (kk))) (k * 3 + 1) (.n (kk + 1))) (k * 3 + 2) (.n (kk + 1 + 1)))) (.slice (some ⟨b, o, none⟩) len cap) F) := s2
    have HB3 : Hid (OnlyF W (((wr.setCell ⟨b, o + k * 3, none⟩ (.int .i64 (kk))).setCell ⟨b, o + k * 3 + 1, none⟩ (.int .i64 (kk + 1))).setCell ⟨b, o + k * 3 + 2, none⟩ (.int .i64 (kk + 1 + 1))) F) := HB2.out.trans t2
    clear s2 t2
    go_wp2
    go_roundw
    case rel =>
      have e1 : sumTo (fun j => cntD (cs j)) ((k + 1) * 3) = sumTo (fun j => cntD (cs j)) (k * 3) + cntD (cs (k * 3)) + cntD (cs (k * 3 + 1)) + cntD (cs (k * 3 + 2)) := by rw [show (k + 1) * 3 = k * 3 + 1 + 1 + 1 by omega]; rfl
      have n0 : cntD (cs (k * 3)) = 1 := by rw [E0.out]; exact rfl
      have n1 : cntD (cs (k * 3 + 1)) = 1 := by rw [E1.out]; exact rfl
      have n2 : cntD (cs (k * 3 + 2)) = 1 := by rw [E2.out]; exact rfl
      have m1 : sumTo (fun j => cntD (cs j)) (k * 3 + 1) = sumTo (fun j => cntD (cs j)) (k * 3) + cntD (cs (k * 3)) := rfl
      have m2 : sumTo (fun j => cntD (cs j)) (k * 3 + 2) = sumTo (fun j => cntD (cs j)) (k * 3) + cntD (cs (k * 3)) + cntD (cs (k * 3 + 1)) := rfl
      have hkk := HKK.out
      refine ⟨k + 1, by omega, by go_num, ?_, ?_, HB3⟩
      · rw [e1, n0, n1, n2]
        congr 1
        omega
      · refine HO3.out.congr ?_
        intro j hj
        rcases (show j = k * 3 ∨ j = k * 3 + 1 ∨ j = k * 3 + 2 ∨ j < k * 3 ∨ (k + 1) * 3 ≤ j by omega) with e0 | e0 | e0 | h | h
        · rw [e0, if_pos (show k * 3 < (k + 1) * 3 by omega), updD_other _ _ (show k * 3 ≠ k * 3 + 2 by omega), updD_other _ _ (show k * 3 ≠ k * 3 + 1 by omega), updD_same, E0.out]
          rw [show k0 + (sumTo (fun j => cntD (cs j)) (k * 3) : Nat) = kk by omega]
          rfl
        · rw [e0, if_pos (show k * 3 + 1 < (k + 1) * 3 by omega), updD_other _ _ (show k * 3 + 1 ≠ k * 3 + 2 by omega), updD_same, E1.out]
          rw [show k0 + (sumTo (fun j => cntD (cs j)) (k * 3 + 1) : Nat) = kk + 1 by rw [m1, n0]; omega]
          rfl
        · rw [e0, if_pos (show k * 3 + 2 < (k + 1) * 3 by omega), updD_same, E2.out]
          rw [show k0 + (sumTo (fun j => cntD (cs j)) (k * 3 + 2) : Nat) = kk + 1 + 1 by rw [m2, n0, n1]; omega]
          rfl
        · rw [updD_other _ _ (show j ≠ k * 3 + 2 by omega), updD_other _ _ (show j ≠ k * 3 + 1 by omega), updD_other _ _ (show j ≠ k * 3 by omega), if_pos h, if_pos (show j < (k + 1) * 3 by omega)]
        · rw [updD_other _ _ (show j ≠ k * 3 + 2 by omega), updD_other _ _ (show j ≠ k * 3 + 1 by omega), updD_other _ _ (show j ≠ k * 3 by omega), if_neg (show ¬ j < k * 3 by omega), if_neg (show ¬ j < (k + 1) * 3 by omega)]
    case measure => simp [intOf]; omega
set_option maxRecDepth 100000 in
set_option maxHeartbeats 4000000 in
theorem LStepS_held (k0 : Int) (h0 : 0 ≤ k0) (a : Option Addr) (len cap : Nat) (cs : Nat → Dv) (c : Bool) (W : World) (hf : Hid (Fits shLStepS (.l len 3 cs))) (hs : Hid (szD (.l len 3 cs) ≤ 1048576)) (h1 : k0 + (cntD (.l len 3 cs) : Nat) ≤ 16777216) (h : Hid (Holds W c (mkD k0 (.l len 3 cs)) (.slice a len cap))) :
    Calls Try.prog 38 #[.slice a len cap, .int .i64 k0] W fun e W' => e = .returned (.int .i64 (k0 + (cntD (.l len 3 cs) : Nat))) ∧ W' = W := by
  have hlen : len ≤ 1048576 := Nat.le_trans (Nat.le_add_right _ _) hs.out
  have hmo : ∀ m, m ≤ len * 3 → k0 + (sumTo (fun j => cntD (cs j)) m : Nat) ≤ 16777216 := fun m hm => by have q := sumTo_mono (fun j => cntD (cs j)) _ hm; have q2 : k0 + (sumTo (fun j => cntD (cs j)) (len * 3) : Nat) ≤ 16777216 := h1; omega
  have HMO : Hid (∀ m, m ≤ len * 3 → k0 + (sumTo (fun j => cntD (cs j)) m : Nat) ≤ 16777216) := hmo
  clear hmo h1
  have H : Hid (Holds W c (.l len 3 (fun j => mkD (k0 + (sumTo (fun j => cntD (cs j)) j : Nat)) (cs j))) (.slice a len cap)) := h
  clear h
  go_enter Try.func38, Try.ntmps38
  go_wp2
  go_loop [1, 5] (fun vk vi => ∃ k : Nat, k ≤ len ∧ vi = .int .i64 k ∧ vk = .int .i64 (k0 + (sumTo (fun j => cntD (cs j)) (k * 3) : Nat))) (fun _ vi => len - (intOf vi).toNat)
  case atStart => exact ⟨0, Nat.zero_le _, rfl, by simp [sumTo]⟩
  case round =>
    obtain ⟨k, hk, rfl, rfl⟩ := hrel
    by_cases hlt : k < len
    rotate_left
    · have HK : Hid (k = len) := by show k = len; omega
      go_wp2
      go_ret
      exact ⟨by rw [HK.out]; rfl, rfl⟩
    have hltI : (k : Int) < (len : Int) := by omega
    have hkn : (k + 1) * 3 ≤ len * 3 := Nat.mul_le_mul_right _ hlt
    rw [Nat.add_mul] at hkn
    obtain ⟨b, o, ha, hb, hcell⟩ := H.out.cells (Below.refl _ _) (show 0 < len * 3 by omega)
    subst ha
    have hk1 := HMO.out (k * 3) (by omega)
    have HLAST := HMO.out ((k + 1) * 3) (by omega)
    obtain ⟨kk, HKK⟩ : ∃ kk : Int, Hid (k0 + (sumTo (fun j => cntD (cs j)) (k * 3) : Nat) = kk) := ⟨_, rfl⟩
    have kk0 : 0 ≤ kk := by have := HKK.out; omega
    have kk1 : kk ≤ 16777216 := by have := HKK.out; omega
    rw [HKK.out]
    clear hk1
    have e1 : sumTo (fun j => cntD (cs j)) ((k + 1) * 3) = sumTo (fun j => cntD (cs j)) (k * 3) + cntD (cs (k * 3)) + cntD (cs (k * 3 + 1)) + cntD (cs (k * 3 + 2)) := by rw [show (k + 1) * 3 = k * 3 + 1 + 1 + 1 by omega]; rfl
    obtain ⟨x0, E0⟩ := (hf.out.cell hlt (c := 0) (by decide)).int
    have E0 : cs (k * 3) = .n x0 := E0
    have n0 : cntD (cs (k * 3)) = 1 := by rw [E0]; rfl
    obtain ⟨u0, d0, q0⟩ := hcell (k * 3) (by omega)
    have v0 : k0 + (sumTo (fun j => cntD (cs j)) (k * 3) : Nat) = kk := by have q := HKK.out; exact q
    rw [v0, E0] at q0
    have q0 : u0 = .int .i64 (kk) := q0
    subst q0
    obtain ⟨x1, E1⟩ := (hf.out.cell hlt (c := 1) (by decide)).int
    have E1 : cs (k * 3 + 1) = .n x1 := E1
    have n1 : cntD (cs (k * 3 + 1)) = 1 := by rw [E1]; rfl
    obtain ⟨u1, d1, q1⟩ := hcell (k * 3 + 1) (by omega)
    rw [← Nat.add_assoc] at d1
    have m1 : sumTo (fun j => cntD (cs j)) (k * 3 + 1) = sumTo (fun j => cntD (cs j)) (k * 3) + cntD (cs (k * 3)) := rfl
    have v1 : k0 + (sumTo (fun j => cntD (cs j)) (k * 3 + 1) : Nat) = kk + 1 := by have q := HKK.out; rw [m1, n0]; omega
    rw [v1, E1] at q1
    have q1 : u1 = .int .i64 (kk + 1) := q1
    subst q1
    obtain ⟨x2, E2⟩ := (hf.out.cell hlt (c := 2) (by decide)).int
    have E2 : cs (k * 3 + 2) = .n x2 := E2
    have n2 : cntD (cs (k * 3 + 2)) = 1 := by rw [E2]; rfl
    obtain ⟨u2, d2, q2⟩ := hcell (k * 3 + 2) (by omega)
    rw [← Nat.add_assoc] at d2
    have m2 : sumTo (fun j => cntD (cs j)) (k * 3 + 2) = sumTo (fun j => cntD (cs j)) (k * 3) + cntD (cs (k * 3)) + cntD (cs (k * 3 + 1)) := rfl
    have v2 : k0 + (sumTo (fun j => cntD (cs j)) (k * 3 + 2) : Nat) = kk + 1 + 1 := by have q := HKK.out; rw [m2, n0, n1]; omega
    rw [v2, E2] at q2
    have q2 : u2 = .int .i64 (kk + 1 + 1) := q2
    subst q2
    rw [e1, n0, n1, n2] at HLAST
    have LAST : kk + 1 + 1 + 1 ≤ 16777216 := by have q := HKK.out; omega
    have HE : Hid (kk + 1 + 1 + 1 = k0 + (sumTo (fun j => cntD (cs j)) ((k + 1) * 3) : Nat)) := by show _ = _; rw [e1, n0, n1, n2]; have q := HKK.out; omega
    clear HLAST hcell e1 v0 n0 E0 v1 n1 E1 v2 n2 E2 m1 m2
    go_wp2
    go_round
    case rel => exact ⟨k + 1, by omega, by go_num, by rw [← HE.out]⟩
    case measure => simp [intOf]; omega
set_option maxRecDepth 100000 in
set_option maxHeartbeats 4000000 in
theorem LStepS_size (a : Option Addr) (len cap : Nat) (cs : Nat → Dv) (l : Int) (W : World) (hf : Hid (Fits shLStepS (.l len 3 cs))) (hl : Hid (Lens (.l len 3 cs))) (h0 : 0 ≤ l) (h1 : l ≤ 1048576) :
    Calls Try.prog 40 #[.slice a len cap, .int .i64 l] W fun e W' => e = .returned (.int .i64 (if (szD (.l len 3 cs) : Int) ≤ l then l - (szD (.l len 3 cs) : Int) else -1)) ∧ W' = W := by
  have hc : szD (.l len 3 cs) = len := by
    show len + sumTo _ _ = _
    rw [sz_none (fun i hi => by
      have q := hf.out.2 i hi
      have hm : i % 3 < 3 := Nat.mod_lt _ (by decide)
      generalize i % 3 = m at q hm
      match m, hm, q with
      | 0, _, q => obtain ⟨x, hx⟩ := Fits.int q; rw [hx]; rfl
      | 1, _, q => obtain ⟨x, hx⟩ := Fits.int q; rw [hx]; rfl
      | 2, _, q => obtain ⟨x, hx⟩ := Fits.int q; rw [hx]; rfl
      | m + 3, hm, _ => omega)]; omega
  have hm := hl.out.1
  unfold maxLen at hm
  rw [hc]
  by_cases h : (len : Int) ≤ l
  · rw [if_pos h]
    go_enter Try.func40, Try.ntmps40
    go_wp2
    go_ret
    exact ⟨rfl, rfl⟩
  · rw [if_neg h]
    have h' : l < (len : Int) := by omega
    clear h
    go_enter Try.func40, Try.ntmps40
    go_wp2
    go_ret
    exact ⟨rfl, rfl⟩
def shGuardS : Sh := .l 4 (fun i => match i with | 0 => .n | 1 => .n | 2 => .n | _ => .n)
theorem thin_GuardS : Thin shGuardS := ⟨by decide, fun i => by
  show Thin (match i with | 0 => .n | 1 => .n | 2 => .n | _ => .n)
  split
  · exact trivial
  · exact trivial
  · exact trivial
  · exact trivial⟩
theorem Guard_to (x0 : Int) (x1 : Int) (x2 : Int) (x3 : Int) (W : World) : Calls Try.prog 64 #[.agg #[.int .i64 x0, .int .i64 x1, .int .i64 x2, .int .i64 x3]] W fun e W' => e = .returned (.agg #[.int .i64 x0, .int .i64 x1, .int .i64 x2, .int .i64 x3]) ∧ Below W.heap.size W W' := by
  go_enter Try.func64, Try.ntmps64
  go_wp2
  refine bodyPost_ret (v := .agg #[.int .i64 x0, .int .i64 x1, .int .i64 x2, .int .i64 x3]) (by simp [results, Try.results64, go_sem]) rfl ⟨rfl, by go_grown⟩
theorem GuardS_info : (Try.prog.info? 93).map (fun i => (i.zero, i.size, i.bytes)) = some (some (.agg #[.int .i64 0, .int .i64 0, .int .i64 0, .int .i64 0]), 4, 32) := by kernel_rfl
def GuardS_zero (i : Nat) : Value := rowF [.int .i64 0, .int .i64 0, .int .i64 0, .int .i64 0] i
theorem GuardS_made (n i : Nat) (hi : i < n) : (madeCells #[.int .i64 0, .int .i64 0, .int .i64 0, .int .i64 0] n)[i]? = some (GuardS_zero (i % 4)) := by
  have h : i % 4 < 4 := Nat.mod_lt _ (by decide)
  simp only [madeCells, Array.getElem?_map, Array.getElem?_range, hi, if_true, Option.map_some, GuardS_zero]
  generalize i % 4 = j at h
  congr 1
  match j, h with
  | 0, _ => rfl
  | 1, _ => rfl
  | 2, _ => rfl
  | 3, _ => rfl
  | j + 4, h => omega
set_option maxRecDepth 100000 in
set_option maxHeartbeats 4000000 in
theorem GuardS_to (a : Option Addr) (len cap : Nat) (cs : Nat → Dv) (c : Bool) (W : World) (hf : Hid (Fits shGuardS (.l len 4 cs))) (hs : Hid (szD (.l len 4 cs) ≤ 1048576)) (h : Hid (Holds W c (.l len 4 cs) (.slice a len cap))) :
    Calls Try.prog 45 #[.slice a len cap] W fun e W' => e = .returned (.slice (some ⟨W.heap.size, 0, none⟩) len len) ∧ Owns W' true W.heap.size (.l len 4 cs) (.slice (some ⟨W.heap.size, 0, none⟩) len len) (rng W.heap.size W'.heap.size) ∧ Below W.heap.size W W' := by
  have hlen : len ≤ 1048576 := Nat.le_trans (Nat.le_add_right _ _) hs.out
  obtain ⟨i0, hi, hz0, hz1, hz2⟩ := parts_of GuardS_info
  have hmk : ∀ w : World, (Instr.makeSlice 35 (.int .i64 (len : Int)) (.int .i64 (len : Int))).run Try.prog w = .ok (.slice (some ⟨w.heap.size, 0, none⟩) len len) (w.alloc (.cells (madeCells #[.int .i64 0, .int .i64 0, .int .i64 0, .int .i64 0] (len * 4)) 93)) := by
    intro w
    have hr := run_make (P := Try.prog) w 35 93 i0 _ Try.underlying35 hi hz0 .i64 .i64 (len : Int) (len : Int) (by omega) (Int.le_refl _) (by rw [hz2]; omega) (by omega)
    simp only [Int.toNat_natCast] at hr
    rw [hr, hz1]; rfl
  clear hi hz0 hz1 hz2
  go_enter Try.func45, Try.ntmps45
  go_wp2
  clear hmk
  go_loopw [4] (fun vi wr => ∃ (k : Nat) (U : Nat → Value), k ≤ len ∧ vi = .int .i64 k ∧ Hid (wr.rowIs W.heap.size 93 (len * 4) (fun j => if j < k * 4 then U j else GuardS_zero (j % 4))) ∧ Hid (Rowed wr true W.heap.size cs U (k * 4) (rng (W.heap.size + 1) wr.heap.size)) ∧ Hid (Below W.heap.size W wr)) (fun vi _ => len - (intOf vi).toNat)
  case atStart =>
    refine ⟨0, fun _ => .bool false, Nat.zero_le _, rfl, ?_, ?_, ?_⟩
    · have h := World.rowIs_alloc W (madeCells #[.int .i64 0, .int .i64 0, .int .i64 0, .int .i64 0] (len * 4)) 93 (fun j => GuardS_zero (j % 4)) (fun i hi => GuardS_made _ i (by rw [size_madeCells] at hi; exact hi))
      rw [size_madeCells] at h
      exact h.congr (fun i hi => by rw [if_neg (by omega)])
    · show Rowed _ _ _ _ _ _ _
      rw [Nat.zero_mul]; exact Rowed.nil _ _ _ _ _ _
    · show Below _ _ _
      go_grown
  case round =>
    obtain ⟨k, U, hk, rfl, HR, HO, HB⟩ := hrel
    by_cases hlt : k < len
    rotate_left
    · have HK : Hid (k = len) := by show k = len; omega
      go_wp2
      go_ret
      refine ⟨rfl, ?_, HB.out⟩
      have hr := HR.out.congr (g := U) (fun i hi => by rw [if_pos (by rw [HK.out]; exact hi)])
      have ho := HO.out
      rw [HK.out] at ho
      exact ho.owns hr (Nat.le_refl _) (fun q => by have := q.1; omega) (fun x hx => ⟨by have := hx.1; omega, hx.2⟩) ⟨Nat.le_refl _, HR.out.lt⟩ (fun _ => ⟨Nat.le_refl _, hlen⟩)
    have hltI : (k : Int) < (len : Int) := by omega
    have hkn : (k + 1) * 4 ≤ len * 4 := Nat.mul_le_mul_right _ hlt
    rw [Nat.add_mul] at hkn
    obtain ⟨b, o, ha, hb, hcell⟩ := h.out.cells HB.out (show 0 < len * 4 by omega)
    subst ha
    have hbs : W.heap.size < wr.heap.size := HR.out.lt
    have hbw : b < wr.heap.size := by omega
    obtain ⟨u0, d0, q0⟩ := hcell (k * 4) (by omega)
    obtain ⟨x0, E0⟩ := (hf.out.cell hlt (c := 0) (by decide)).int
    have E0 : Hid (cs (k * 4) = .n x0) := E0
    rw [E0.out] at q0
    have q0 : u0 = .int .i64 x0 := q0
    subst q0
    obtain ⟨u1, d1, q1⟩ := hcell (k * 4 + 1) (by omega)
    rw [← Nat.add_assoc] at d1
    obtain ⟨x1, E1⟩ := (hf.out.cell hlt (c := 1) (by decide)).int
    have E1 : Hid (cs (k * 4 + 1) = .n x1) := E1
    rw [E1.out] at q1
    have q1 : u1 = .int .i64 x1 := q1
    subst q1
    obtain ⟨u2, d2, q2⟩ := hcell (k * 4 + 2) (by omega)
    rw [← Nat.add_assoc] at d2
    obtain ⟨x2, E2⟩ := (hf.out.cell hlt (c := 2) (by decide)).int
    have E2 : Hid (cs (k * 4 + 2) = .n x2) := E2
    rw [E2.out] at q2
    have q2 : u2 = .int .i64 x2 := q2
    subst q2
    obtain ⟨u3, d3, q3⟩ := hcell (k * 4 + 3) (by omega)
    rw [← Nat.add_assoc] at d3
    obtain ⟨x3, E3⟩ := (hf.out.cell hlt (c := 3) (by decide)).int
    have E3 : Hid (cs (k * 4 + 3) = .n x3) := E3
    rw [E3.out] at q3
    have q3 : u3 = .int .i64 x3 := q3
    subst q3
    clear hcell
    have hB0 : Hid (Below wr.heap.size wr wr) := Below.refl _ _
    go_wp2_with fail
    refine (Guard_to x0 x1 x2 x3 _).mono ?_
    rintro e w1 ⟨rfl, hB1⟩
    have HC1 : Hid (w1.rowIs W.heap.size 93 (len * 4) (fun j => if j < k * 4 then U j else GuardS_zero (j % 4))) := HR.out.of_block (hB1.block _ hbs)
    have HO1 : Hid (Rowed w1 true W.heap.size cs U (k * 4) (rng (W.heap.size + 1) wr.heap.size)) := HO.out.kept hB1
    have HB1 : Hid (Below W.heap.size W w1) := HB.out.trans (hB1.mono HB.out.size)
    have hws : wr.heap.size ≤ w1.heap.size := hB1.size
    clear hB1 HR HO
    have d0' := HC1.out.cell (i := k * 4) (by omega)
    have f0' := HC1.out.frozen (k * 4)
    rw [if_neg (by omega)] at d0'
    rw [show (k * 4) % 4 = 0 by omega] at d0'
    have d0' : w1.cell? ⟨W.heap.size, k * 4, none⟩ = some (.int .i64 0) := d0'
    have d1' := HC1.out.cell (i := k * 4 + 1) (by omega)
    have f1' := HC1.out.frozen (k * 4 + 1)
    rw [if_neg (by omega)] at d1'
    rw [show (k * 4 + 1) % 4 = 1 by omega] at d1'
    have d1' : w1.cell? ⟨W.heap.size, k * 4 + 1, none⟩ = some (.int .i64 0) := d1'
    have d2' := HC1.out.cell (i := k * 4 + 2) (by omega)
    have f2' := HC1.out.frozen (k * 4 + 2)
    rw [if_neg (by omega)] at d2'
    rw [show (k * 4 + 2) % 4 = 2 by omega] at d2'
    have d2' : w1.cell? ⟨W.heap.size, k * 4 + 2, none⟩ = some (.int .i64 0) := d2'
    have d3' := HC1.out.cell (i := k * 4 + 3) (by omega)
    have f3' := HC1.out.frozen (k * 4 + 3)
    rw [if_neg (by omega)] at d3'
    rw [show (k * 4 + 3) % 4 = 3 by omega] at d3'
    have d3' : w1.cell? ⟨W.heap.size, k * 4 + 3, none⟩ = some (.int .i64 0) := d3'
    go_wp2
    go_roundw
    case rel =>
      obtain ⟨V, hV⟩ : ∃ V : Nat → Value, V = fun j => if j = k * 4 then .int .i64 x0 else if j = k * 4 + 1 then .int .i64 x1 else if j = k * 4 + 2 then .int .i64 x2 else if j = k * 4 + 3 then .int .i64 x3 else U j := ⟨_, rfl⟩
      have uk : ∀ j, j < k * 4 → U j = V j := fun j hj => by rw [hV]; simp only []; rw [if_neg (show ¬ j = k * 4 by omega), if_neg (show ¬ j = k * 4 + 1 by omega), if_neg (show ¬ j = k * 4 + 2 by omega), if_neg (show ¬ j = k * 4 + 3 by omega)]
      have u0' : V (k * 4) = .int .i64 x0 := by rw [hV]; simp
      have u1' : V (k * 4 + 1) = .int .i64 x1 := by rw [hV]; simp
      have u2' : V (k * 4 + 2) = .int .i64 x2 := by rw [hV]; simp
      have u3' : V (k * 4 + 3) = .int .i64 x3 := by rw [hV]; simp
      refine ⟨k + 1, V, by omega, by go_num, ?_, ?_, ?_⟩
      · refine World.rowIs.congr ((((HC1.out.set (k * 4) (.int .i64 x0)).set (k * 4 + 1) (.int .i64 x1)).set (k * 4 + 2) (.int .i64 x2)).set (k * 4 + 3) (.int .i64 x3)) ?_
        intro j hj
        rcases (show j = k * 4 ∨ j = k * 4 + 1 ∨ j = k * 4 + 2 ∨ j = k * 4 + 3 ∨ j < k * 4 ∨ (k + 1) * 4 ≤ j by omega) with rfl | rfl | rfl | rfl | h | h
        · rw [if_pos (show k * 4 < (k + 1) * 4 by omega), u0']; simp
        · rw [if_pos (show k * 4 + 1 < (k + 1) * 4 by omega), u1']; simp
        · rw [if_pos (show k * 4 + 2 < (k + 1) * 4 by omega), u2']; simp
        · rw [if_pos (show k * 4 + 3 < (k + 1) * 4 by omega), u3']; simp
        · rw [if_pos (show j < (k + 1) * 4 by omega), if_neg (show ¬ j = k * 4 + 3 by omega), if_neg (show ¬ j = k * 4 + 2 by omega), if_neg (show ¬ j = k * 4 + 1 by omega), if_neg (show ¬ j = k * 4 by omega), if_pos h, uk j h]
        · rw [if_neg (show ¬ j < (k + 1) * 4 by omega), if_neg (show ¬ j = k * 4 + 3 by omega), if_neg (show ¬ j = k * 4 + 2 by omega), if_neg (show ¬ j = k * 4 + 1 by omega), if_neg (show ¬ j = k * 4 by omega), if_neg (show ¬ j < k * 4 by omega)]
      · show Rowed _ _ _ _ _ _ _
        have hr : Rowed w1 true W.heap.size cs V (k * 4) (rng (W.heap.size + 1) w1.heap.size) := (HO1.out.congr uk).more (fun x hx => ⟨hx.1, by have := hx.2; omega⟩)
        have hr0 := hr.flat (by rw [u0', E0.out]; exact rfl)
        have hr1 := hr0.flat (by rw [u1', E1.out]; exact rfl)
        have hr2 := hr1.flat (by rw [u2', E2.out]; exact rfl)
        have hr3 := hr2.flat (by rw [u3', E3.out]; exact rfl)
        rw [show (k + 1) * 4 = k * 4 + 1 + 1 + 1 + 1 by omega]
        refine Rowed.more (hr3.agree (by simp [World.setCell]) (fun b hb _ => ?_)) (fun x hx => ⟨hx.1, by have := hx.2; simpa [World.setCell] using this⟩)
        have hne : b ≠ W.heap.size := by have := hb.1; omega
        iterate 4 rw [Below.heap_setCell _ _ _ _ (show b ≠ W.heap.size from hne)]
      · show Below _ _ _
        refine Below.trans HB1.out ?_
        go_grown
    case measure => simp [intOf]; omega
set_option maxRecDepth 100000 in
set_option maxHeartbeats 4000000 in
theorem Guard_eq (x0 : Int) (x1 : Int) (x2 : Int) (x3 : Int) (c c' : Bool) (W : World) : Calls Try.prog 62 #[.agg #[.int .i64 x0, .int .i64 x1, .int .i64 x2, .int .i64 x3], .agg #[.int .i64 x0, .int .i64 x1, .int .i64 x2, .int .i64 x3]] W fun e W' => e = .returned (.bool true) ∧ Below W.heap.size W W' := by
  have ne0 : (x0 != x0) = false := by simp
  have ne1 : (x1 != x1) = false := by simp
  have ne2 : (x2 != x2) = false := by simp
  have ne3 : (x3 != x3) = false := by simp
  go_enter Try.func62, Try.ntmps62
  go_wp2
  go_ret
  exact ⟨rfl, by go_grown⟩
set_option maxRecDepth 100000 in
set_option maxHeartbeats 4000000 in
theorem GuardS_eq (a a' : Option Addr) (len cap cap' : Nat) (cs : Nat → Dv) (c c' : Bool) (W : World) (hf : Hid (Fits shGuardS (.l len 4 cs))) (hs : Hid (szD (.l len 4 cs) ≤ 1048576)) (h : Hid (Holds W c (.l len 4 cs) (.slice a len cap))) (h' : Hid (Holds W c' (.l len 4 cs) (.slice a' len cap'))) :
    Calls Try.prog 35 #[.slice a len cap, .slice a' len cap'] W fun e W' => e = .returned (.bool true) ∧ Below W.heap.size W W' := by
  have hlen : len ≤ 1048576 := Nat.le_trans (Nat.le_add_right _ _) hs.out
  go_enter Try.func35, Try.ntmps35
  go_wp2
  go_loopw [5] (fun vi wr => ∃ k : Nat, k ≤ len ∧ vi = .int .i64 k ∧ Hid (Below W.heap.size W wr)) (fun vi _ => len - (intOf vi).toNat)
  case atStart => exact ⟨0, Nat.zero_le _, rfl, Below.refl _ _⟩
  case round =>
    obtain ⟨k, hk, rfl, HB⟩ := hrel
    by_cases hlt : k < len
    rotate_left
    · go_wp2
      go_ret
      exact ⟨rfl, HB.out⟩
    have hltI : (k : Int) < (len : Int) := by omega
    have hkn : (k + 1) * 4 ≤ len * 4 := Nat.mul_le_mul_right _ hlt
    rw [Nat.add_mul] at hkn
    obtain ⟨b, o, ha, hb, hcell⟩ := h.out.cells HB.out (show 0 < len * 4 by omega)
    obtain ⟨b', o', ha', hb', hcell'⟩ := h'.out.cells HB.out (show 0 < len * 4 by omega)
    subst ha ha'
    have hbw : b < wr.heap.size := by have := HB.out.size; omega
    have hbw' : b' < wr.heap.size := by have := HB.out.size; omega
    obtain ⟨u0, d0, q0⟩ := hcell (k * 4) (by omega)
    obtain ⟨v0, g0, r0⟩ := hcell' (k * 4) (by omega)
    obtain ⟨x0, E0⟩ := (hf.out.cell hlt (c := 0) (by decide)).int
    have E0 : cs (k * 4) = .n x0 := E0
    rw [E0] at q0 r0
    have q0 : u0 = .int .i64 x0 := q0
    have r0 : v0 = .int .i64 x0 := r0
    subst q0 r0
    clear E0
    obtain ⟨u1, d1, q1⟩ := hcell (k * 4 + 1) (by omega)
    obtain ⟨v1, g1, r1⟩ := hcell' (k * 4 + 1) (by omega)
    rw [← Nat.add_assoc] at d1 g1
    obtain ⟨x1, E1⟩ := (hf.out.cell hlt (c := 1) (by decide)).int
    have E1 : cs (k * 4 + 1) = .n x1 := E1
    rw [E1] at q1 r1
    have q1 : u1 = .int .i64 x1 := q1
    have r1 : v1 = .int .i64 x1 := r1
    subst q1 r1
    clear E1
    obtain ⟨u2, d2, q2⟩ := hcell (k * 4 + 2) (by omega)
    obtain ⟨v2, g2, r2⟩ := hcell' (k * 4 + 2) (by omega)
    rw [← Nat.add_assoc] at d2 g2
    obtain ⟨x2, E2⟩ := (hf.out.cell hlt (c := 2) (by decide)).int
    have E2 : cs (k * 4 + 2) = .n x2 := E2
    rw [E2] at q2 r2
    have q2 : u2 = .int .i64 x2 := q2
    have r2 : v2 = .int .i64 x2 := r2
    subst q2 r2
    clear E2
    obtain ⟨u3, d3, q3⟩ := hcell (k * 4 + 3) (by omega)
    obtain ⟨v3, g3, r3⟩ := hcell' (k * 4 + 3) (by omega)
    rw [← Nat.add_assoc] at d3 g3
    obtain ⟨x3, E3⟩ := (hf.out.cell hlt (c := 3) (by decide)).int
    have E3 : cs (k * 4 + 3) = .n x3 := E3
    rw [E3] at q3 r3
    have q3 : u3 = .int .i64 x3 := q3
    have r3 : v3 = .int .i64 x3 := r3
    subst q3 r3
    clear E3
    clear hcell hcell'
    have HD : Hid (Below W.heap.size W wr.drew) := HB.out.drew
    go_wp2_with fail
    go_region_with (go_at_call 62; refine (Guard_eq x0 x1 x2 x3 c c' _  ).mono ?_; rintro e w' ⟨rfl, hb⟩; have HX : Hid (Below W.heap.size W w') := HD.out.trans (hb.mono HD.out.size); clear hb)
    all_goals
      go_wp2
      go_roundw
      case rel => exact ⟨k + 1, by omega, by go_num, HX.out⟩
      case measure => simp [intOf]; omega
set_option maxRecDepth 100000 in
set_option maxHeartbeats 4000000 in
theorem GuardS_mark (k0 : Int) (h0 : 0 ≤ k0) (h1 : k0 ≤ 1000000000) (a : Option Addr) (len cap : Nat) (cs : Nat → Dv) (c : Bool) (W : World) (B : Nat) (F : Nat → Prop) (hf : Hid (Fits shGuardS (.l len 4 cs))) (hs : Hid (szD (.l len 4 cs) ≤ 1048576)) (h : Hid (Owns W c B (.l len 4 cs) (.slice a len cap) F)) :
    Calls Try.prog 37 #[.slice a len cap, .int .i64 k0] W fun e W' => e = .returned (.int .i64 (k0 + (cntD (.l len 4 cs) : Nat))) ∧ Owns W' c B (mkD k0 (.l len 4 cs)) (.slice a len cap) F ∧ OnlyF W W' F := by
  have hlen : len ≤ 1048576 := Nat.le_trans (Nat.le_add_right _ _) hs.out
  have hcn : sumTo (fun j => cntD (cs j)) (len * 4) ≤ 8388609 := by have q := cnt_le thin_GuardS hf.out; have q2 := hs.out; simp only [cntD] at q; omega
  have hmo : ∀ m, m ≤ len * 4 → sumTo (fun j => cntD (cs j)) m ≤ 8388609 := fun m hm => Nat.le_trans (sumTo_mono _ _ hm) hcn
  have HMO : Hid (∀ m, m ≤ len * 4 → sumTo (fun j => cntD (cs j)) m ≤ 8388609) := hmo
  clear hcn hmo
  go_enter Try.func37, Try.ntmps37
  go_wp2
  go_loopw [1, 5] (fun vk vi wr => ∃ k : Nat, k ≤ len ∧ vi = .int .i64 k ∧ vk = .int .i64 (k0 + (sumTo (fun j => cntD (cs j)) (k * 4) : Nat)) ∧ Hid (Owns wr c B (.l len 4 (fun j => if j < k * 4 then mkD (k0 + (sumTo (fun j => cntD (cs j)) j : Nat)) (cs j) else cs j)) (.slice a len cap) F) ∧ Hid (OnlyF W wr F)) (fun _ vi _ => len - (intOf vi).toNat)
  case atStart => exact ⟨0, Nat.zero_le _, rfl, by simp [sumTo], h.out.congr (fun i hi => by rw [if_neg (by omega)]), OnlyF.refl _ _⟩
  case round =>
    obtain ⟨k, hk, rfl, rfl, HO, HB⟩ := hrel
    by_cases hlt : k < len
    rotate_left
    · have HK : Hid (k = len) := by show k = len; omega
      go_wp2
      go_ret
      refine ⟨by rw [HK.out]; rfl, ?_, HB.out⟩
      exact HO.out.congr (fun i hi => by rw [if_pos (by rw [HK.out]; exact hi)])
    have hltI : (k : Int) < (len : Int) := by omega
    have hkn : (k + 1) * 4 ≤ len * 4 := Nat.mul_le_mul_right _ hlt
    rw [Nat.add_mul] at hkn
    obtain ⟨b, o, ha, hbw⟩ := HO.out.addr (show 0 < len * 4 by omega)
    subst ha
    have hk1 := HMO.out (k * 4) (by omega)
    obtain ⟨kk, HKK⟩ : ∃ kk : Int, Hid (k0 + (sumTo (fun j => cntD (cs j)) (k * 4) : Nat) = kk) := ⟨_, rfl⟩
    have kk0 : 0 ≤ kk := by have := HKK.out; omega
    have kk1 : kk ≤ 1000000000 + 8388609 := by have := HKK.out; omega
    rw [HKK.out]
    clear hk1
    obtain ⟨x0, E0⟩ := (hf.out.cell hlt (c := 0) (by decide)).int
    have E0 : Hid (cs (k * 4) = .n x0) := E0
    obtain ⟨x1, E1⟩ := (hf.out.cell hlt (c := 1) (by decide)).int
    have E1 : Hid (cs (k * 4 + 1) = .n x1) := E1
    obtain ⟨x2, E2⟩ := (hf.out.cell hlt (c := 2) (by decide)).int
    have E2 : Hid (cs (k * 4 + 2) = .n x2) := E2
    obtain ⟨x3, E3⟩ := (hf.out.cell hlt (c := 3) (by decide)).int
    have E3 : Hid (cs (k * 4 + 3) = .n x3) := E3
    have HO0 : Hid (Owns wr c B (.l len 4 (fun j => if j < k * 4 then mkD (k0 + (sumTo (fun j => cntD (cs j)) j : Nat)) (cs j) else cs j)) (.slice (some ⟨b, o, none⟩) len cap) F) := HO
    clear HO
    obtain ⟨d0, f0, s0⟩ := HO0.out.num (j := k * 4) (y := x0) (by omega) (by show (if _ then _ else _) = _; rw [if_neg (by omega)]; exact E0.out)
    obtain ⟨s0, t0⟩ := s0 (kk)
    have HO1 : Hid (Owns (wr.setCell ⟨b, o + k * 4, none⟩ (.int .i64 (kk))) c B (.l len 4 (updD (fun j => if j < k * 4 then mkD (k0 + (sumTo (fun j => cntD (cs j)) j : Nat)) (cs j) else cs j) (k * 4) (.n (kk)))) (.slice (some ⟨b, o, none⟩) len cap) F) := s0
    have HB1 : Hid (OnlyF W (wr.setCell ⟨b, o + k * 4, none⟩ (.int .i64 (kk))) F) := HB.out.trans t0
    clear s0 t0
    obtain ⟨d1, f1, s1⟩ := HO1.out.num (j := k * 4 + 1) (y := x1) (by omega) (by rw [updD_other _ _ (show k * 4 + 1 ≠ k * 4 by omega)]; show (if _ then _ else _) = _; rw [if_neg (by omega)]; exact E1.out)
    obtain ⟨s1, t1⟩ := s1 (kk + 1)
    rw [← Nat.add_assoc] at d1 f1 s1 t1
    have HO2 : Hid (Owns ((wr.setCell ⟨b, o + k * 4, none⟩ (.int .i64 (kk))).setCell ⟨b, o + k * 4 + 1, none⟩ (.int .i64 (kk + 1))) c B (.l len 4 (updD (updD (fun j => if j < k * 4 then mkD (k0 + (sumTo (fun j => cntD (cs j)) j : Nat)) (cs j) else cs j) (k * 4) (.n (kk))) (k * 4 + 1) (.n (kk + 1)))) (.slice (some ⟨b, o, none⟩) len cap) F) := s1
    have HB2 : Hid (OnlyF W ((wr.setCell ⟨b, o + k * 4, none⟩ (.int .i64 (kk))).setCell ⟨b, o + k * 4 + 1, none⟩ (.int .i64 (kk + 1))) F) := HB1.out.trans t1
    clear s1 t1
    obtain ⟨d2, f2, s2⟩ := HO2.out.num (j := k * 4 + 2) (y := x2) (by omega) (by rw [updD_other _ _ (show k * 4 + 2 ≠ k * 4 + 1 by omega)]; rw [updD_other _ _ (show k * 4 + 2 ≠ k * 4 by omega)]; show (if _ then _ else _) = _; rw [if_neg (by omega)]; exact E2.out)
    obtain ⟨s2, t2⟩ := s2 (kk + 1 + 1)
    rw [← Nat.add_assoc] at d2 f2 s2 t2
    have HO3 : Hid (Owns (((wr.setCell ⟨b, o + k * 4, none⟩ (.int .i64 (kk))).setCell ⟨b, o + k * 4 + 1, none⟩ (.int .i64 (kk + 1))).setCell ⟨b, o + k * 4 + 2, none⟩ (.int .i64 (kk + 1 + 1))) c B (.l len 4 (updD (updD (updD (fun j => if j < k * 4 then mkD (k0 + (sumTo (fun j => cntD (cs j)) j : Nat)) (cs j) else cs j) (k * 4) (.n (kk))) (k * 4 + 1) (.n (kk + 1))) (k * 4 + 2) (.n (kk + 1 + 1)))) (.slice (some ⟨b, o, none⟩) len cap) F) := s2
    have HB3 : Hid (OnlyF W (((wr.setCell ⟨b, o + k * 4, none⟩ (.int .i64 (kk))).setCell ⟨b, o + k * 4 + 1, none⟩ (.int .i64 (kk + 1))).setCell ⟨b, o + k * 4 + 2, none⟩ (.int .i64 (kk + 1 + 1))) F) := HB2.out.trans t2
    clear s2 t2
    obtain ⟨d3, f3, s3⟩ := HO3.out.num (j := k * 4 + 3) (y := x3) (by omega) (by rw [updD_other _ _ (show k * 4 + 3 ≠ k * 4 + 2 by omega)]; rw [updD_other _ _ (show k * 4 + 3 ≠ k * 4 + 1 by omega)]; rw [updD_other _ _ (show k * 4 + 3 ≠ k * 4 by omega)]; show (if _ then _ else _) = _; rw [if_neg (by omega)]; exact E3.out)
    obtain ⟨s3, t3⟩ := s3 (kk + 1 + 1 + 1)
    rw [← Nat.add_assoc] at d3 f3 s3 t3
    have HO4 : Hid (Owns ((((wr.setCell ⟨b, o + k * 4, none⟩ (.int .i64 (kk))).setCell ⟨b, o + k * 4 + 1, none⟩ (.int .i64 (kk + 1))).setCell ⟨b, o + k * 4 + 2, none⟩ (.int .i64 (kk + 1 + 1))).setCell ⟨b, o + k * 4 + 3, none⟩ (.int .i64 (kk + 1 + 1 + 1))) c B (.l len 4 (updD (updD (updD (updD (fun j => if j < k * 4 then mkD (k0 + (sumTo (fun j => cntD (cs j)) j : Nat)) (cs j) else cs j) (k * 4) (.n (kk))) (k * 4 + 1) (.n (kk + 1))) (k * 4 + 2) (.n (kk + 1 + 1))) (k * 4 + 3) (.n (kk + 1 + 1 + 1)))) (.slice (some ⟨b, o, none⟩) len cap) F) := s3
    have HB4 : Hid (OnlyF W ((((wr.setCell ⟨b, o + k * 4, none⟩ (.int .i64 (kk))).setCell ⟨b, o + k * 4 + 1, none⟩ (.int .i64 (kk + 1))).setCell ⟨b, o + k * 4 + 2, none⟩ (.int .i64 (kk + 1 + 1))).setCell ⟨b, o + k * 4 + 3, none⟩ (.int .i64 (kk + 1 + 1 + 1))) F) := HB3.out.trans t3
    clear s3 t3
    go_wp2
    go_roundw
    case rel =>
      have e1 : sumTo (fun j => cntD (cs j)) ((k + 1) * 4) = sumTo (fun j => cntD (cs j)) (k * 4) + cntD (cs (k * 4)) + cntD (cs (k * 4 + 1)) + cntD (cs (k * 4 + 2)) + cntD (cs (k * 4 + 3)) := by rw [show (k + 1) * 4 = k * 4 + 1 + 1 + 1 + 1 by omega]; rfl
      have n0 : cntD (cs (k * 4)) = 1 := by rw [E0.out]; exact rfl
      have n1 : cntD (cs (k * 4 + 1)) = 1 := by rw [E1.out]; exact rfl
      have n2 : cntD (cs (k * 4 + 2)) = 1 := by rw [E2.out]; exact rfl
      have n3 : cntD (cs (k * 4 + 3)) = 1 := by rw [E3.out]; exact rfl
      have m1 : sumTo (fun j => cntD (cs j)) (k * 4 + 1) = sumTo (fun j => cntD (cs j)) (k * 4) + cntD (cs (k * 4)) := rfl
      have m2 : sumTo (fun j => cntD (cs j)) (k * 4 + 2) = sumTo (fun j => cntD (cs j)) (k * 4) + cntD (cs (k * 4)) + cntD (cs (k * 4 + 1)) := rfl
      have m3 : sumTo (fun j => cntD (cs j)) (k * 4 + 3) = sumTo (fun j => cntD (cs j)) (k * 4) + cntD (cs (k * 4)) + cntD (cs (k * 4 + 1)) + cntD (cs (k * 4 + 2)) := rfl
      have hkk := HKK.out
      refine ⟨k + 1, by omega, by go_num, ?_, ?_, HB4⟩
      · rw [e1, n0, n1, n2, n3]
        congr 1
        omega
      · refine HO4.out.congr ?_
        intro j hj
        rcases (show j = k * 4 ∨ j = k * 4 + 1 ∨ j = k * 4 + 2 ∨ j = k * 4 + 3 ∨ j < k * 4 ∨ (k + 1) * 4 ≤ j by omega) with e0 | e0 | e0 | e0 | h | h
        · rw [e0, if_pos (show k * 4 < (k + 1) * 4 by omega), updD_other _ _ (show k * 4 ≠ k * 4 + 3 by omega), updD_other _ _ (show k * 4 ≠ k * 4 + 2 by omega), updD_other _ _ (show k * 4 ≠ k * 4 + 1 by omega), updD_same, E0.out]
          rw [show k0 + (sumTo (fun j => cntD (cs j)) (k * 4) : Nat) = kk by omega]
          rfl
        · rw [e0, if_pos (show k * 4 + 1 < (k + 1) * 4 by omega), updD_other _ _ (show k * 4 + 1 ≠ k * 4 + 3 by omega), updD_other _ _ (show k * 4 + 1 ≠ k * 4 + 2 by omega), updD_same, E1.out]
          rw [show k0 + (sumTo (fun j => cntD (cs j)) (k * 4 + 1) : Nat) = kk + 1 by rw [m1, n0]; omega]
          rfl
        · rw [e0, if_pos (show k * 4 + 2 < (k + 1) * 4 by omega), updD_other _ _ (show k * 4 + 2 ≠ k * 4 + 3 by omega), updD_same, E2.out]
          rw [show k0 + (sumTo (fun j => cntD (cs j)) (k * 4 + 2) : Nat) = kk + 1 + 1 by rw [m2, n0, n1]; omega]
          rfl
        · rw [e0, if_pos (show k * 4 + 3 < (k + 1) * 4 by omega), updD_same, E3.out]
          rw [show k0 + (sumTo (fun j => cntD (cs j)) (k * 4 + 3) : Nat) = kk + 1 + 1 + 1 by rw [m3, n0, n1, n2]; omega]
          rfl
        · rw [updD_other _ _ (show j ≠ k * 4 + 3 by omega), updD_other _ _ (show j ≠ k * 4 + 2 by omega), updD_other _ _ (show j ≠ k * 4 + 1 by omega), updD_other _ _ (show j ≠ k * 4 by omega), if_pos h, if_pos (show j < (k + 1) * 4 by omega)]
        · rw [updD_other _ _ (show j ≠ k * 4 + 3 by omega), updD_other _ _ (show j ≠ k * 4 + 2 by omega), updD_other _ _ (show j ≠ k * 4 + 1 by omega), updD_other _ _ (show j ≠ k * 4 by omega), if_neg (show ¬ j < k * 4 by omega), if_neg (show ¬ j < (k + 1) * 4 by omega)]
    case measure => simp [intOf]; omega
set_option maxRecDepth 100000 in
set_option maxHeartbeats 4000000 in
theorem GuardS_held (k0 : Int) (h0 : 0 ≤ k0) (a : Option Addr) (len cap : Nat) (cs : Nat → Dv) (c : Bool) (W : World) (hf : Hid (Fits shGuardS (.l len 4 cs))) (hs : Hid (szD (.l len 4 cs) ≤ 1048576)) (h1 : k0 + (cntD (.l len 4 cs) : Nat) ≤ 16777216) (h : Hid (Holds W c (mkD k0 (.l len 4 cs)) (.slice a len cap))) :
    Calls Try.prog 39 #[.slice a len cap, .int .i64 k0] W fun e W' => e = .returned (.int .i64 (k0 + (cntD (.l len 4 cs) : Nat))) ∧ W' = W := by
  have hlen : len ≤ 1048576 := Nat.le_trans (Nat.le_add_right _ _) hs.out
  have hmo : ∀ m, m ≤ len * 4 → k0 + (sumTo (fun j => cntD (cs j)) m : Nat) ≤ 16777216 := fun m hm => by have q := sumTo_mono (fun j => cntD (cs j)) _ hm; have q2 : k0 + (sumTo (fun j => cntD (cs j)) (len * 4) : Nat) ≤ 16777216 := h1; omega
  have HMO : Hid (∀ m, m ≤ len * 4 → k0 + (sumTo (fun j => cntD (cs j)) m : Nat) ≤ 16777216) := hmo
  clear hmo h1
  have H : Hid (Holds W c (.l len 4 (fun j => mkD (k0 + (sumTo (fun j => cntD (cs j)) j : Nat)) (cs j))) (.slice a len cap)) := h
  clear h
  go_enter Try.func39, Try.ntmps39
  go_wp2
  go_loop [1, 5] (fun vk vi => ∃ k : Nat, k ≤ len ∧ vi = .int .i64 k ∧ vk = .int .i64 (k0 + (sumTo (fun j => cntD (cs j)) (k * 4) : Nat))) (fun _ vi => len - (intOf vi).toNat)
  case atStart => exact ⟨0, Nat.zero_le _, rfl, by simp [sumTo]⟩
  case round =>
    obtain ⟨k, hk, rfl, rfl⟩ := hrel
    by_cases hlt : k < len
    rotate_left
    · have HK : Hid (k = len) := by show k = len; omega
      go_wp2
      go_ret
      exact ⟨by rw [HK.out]; rfl, rfl⟩
    have hltI : (k : Int) < (len : Int) := by omega
    have hkn : (k + 1) * 4 ≤ len * 4 := Nat.mul_le_mul_right _ hlt
    rw [Nat.add_mul] at hkn
    obtain ⟨b, o, ha, hb, hcell⟩ := H.out.cells (Below.refl _ _) (show 0 < len * 4 by omega)
    subst ha
    have hk1 := HMO.out (k * 4) (by omega)
    have HLAST := HMO.out ((k + 1) * 4) (by omega)
    obtain ⟨kk, HKK⟩ : ∃ kk : Int, Hid (k0 + (sumTo (fun j => cntD (cs j)) (k * 4) : Nat) = kk) := ⟨_, rfl⟩
    have kk0 : 0 ≤ kk := by have := HKK.out; omega
    have kk1 : kk ≤ 16777216 := by have := HKK.out; omega
    rw [HKK.out]
    clear hk1
    have e1 : sumTo (fun j => cntD (cs j)) ((k + 1) * 4) = sumTo (fun j => cntD (cs j)) (k * 4) + cntD (cs (k * 4)) + cntD (cs (k * 4 + 1)) + cntD (cs (k * 4 + 2)) + cntD (cs (k * 4 + 3)) := by rw [show (k + 1) * 4 = k * 4 + 1 + 1 + 1 + 1 by omega]; rfl
    obtain ⟨x0, E0⟩ := (hf.out.cell hlt (c := 0) (by decide)).int
    have E0 : cs (k * 4) = .n x0 := E0
    have n0 : cntD (cs (k * 4)) = 1 := by rw [E0]; rfl
    obtain ⟨u0, d0, q0⟩ := hcell (k * 4) (by omega)
    have v0 : k0 + (sumTo (fun j => cntD (cs j)) (k * 4) : Nat) = kk := by have q := HKK.out; exact q
    rw [v0, E0] at q0
    have q0 : u0 = .int .i64 (kk) := q0
    subst q0
    obtain ⟨x1, E1⟩ := (hf.out.cell hlt (c := 1) (by decide)).int
    have E1 : cs (k * 4 + 1) = .n x1 := E1
    have n1 : cntD (cs (k * 4 + 1)) = 1 := by rw [E1]; rfl
    obtain ⟨u1, d1, q1⟩ := hcell (k * 4 + 1) (by omega)
    rw [← Nat.add_assoc] at d1
    have m1 : sumTo (fun j => cntD (cs j)) (k * 4 + 1) = sumTo (fun j => cntD (cs j)) (k * 4) + cntD (cs (k * 4)) := rfl
    have v1 : k0 + (sumTo (fun j => cntD (cs j)) (k * 4 + 1) : Nat) = kk + 1 := by have q := HKK.out; rw [m1, n0]; omega
    rw [v1, E1] at q1
    have q1 : u1 = .int .i64 (kk + 1) := q1
    subst q1
    obtain ⟨x2, E2⟩ := (hf.out.cell hlt (c := 2) (by decide)).int
    have E2 : cs (k * 4 + 2) = .n x2 := E2
    have n2 : cntD (cs (k * 4 + 2)) = 1 := by rw [E2]; rfl
    obtain ⟨u2, d2, q2⟩ := hcell (k * 4 + 2) (by omega)
    rw [← Nat.add_assoc] at d2
    have m2 : sumTo (fun j => cntD (cs j)) (k * 4 + 2) = sumTo (fun j => cntD (cs j)) (k * 4) + cntD (cs (k * 4)) + cntD (cs (k * 4 + 1)) := rfl
    have v2 : k0 + (sumTo (fun j => cntD (cs j)) (k * 4 + 2) : Nat) = kk + 1 + 1 := by have q := HKK.out; rw [m2, n0, n1]; omega
    rw [v2, E2] at q2
    have q2 : u2 = .int .i64 (kk + 1 + 1) := q2
    subst q2
    obtain ⟨x3, E3⟩ := (hf.out.cell hlt (c := 3) (by decide)).int
    have E3 : cs (k * 4 + 3) = .n x3 := E3
    have n3 : cntD (cs (k * 4 + 3)) = 1 := by rw [E3]; rfl
    obtain ⟨u3, d3, q3⟩ := hcell (k * 4 + 3) (by omega)
    rw [← Nat.add_assoc] at d3
    have m3 : sumTo (fun j => cntD (cs j)) (k * 4 + 3) = sumTo (fun j => cntD (cs j)) (k * 4) + cntD (cs (k * 4)) + cntD (cs (k * 4 + 1)) + cntD (cs (k * 4 + 2)) := rfl
    have v3 : k0 + (sumTo (fun j => cntD (cs j)) (k * 4 + 3) : Nat) = kk + 1 + 1 + 1 := by have q := HKK.out; rw [m3, n0, n1, n2]; omega
    rw [v3, E3] at q3
    have q3 : u3 = .int .i64 (kk + 1 + 1 + 1) := q3
    subst q3
    rw [e1, n0, n1, n2, n3] at HLAST
    have LAST : kk + 1 + 1 + 1 + 1 ≤ 16777216 := by have q := HKK.out; omega
    have HE : Hid (kk + 1 + 1 + 1 + 1 = k0 + (sumTo (fun j => cntD (cs j)) ((k + 1) * 4) : Nat)) := by show _ = _; rw [e1, n0, n1, n2, n3]; have q := HKK.out; omega
    clear HLAST hcell e1 v0 n0 E0 v1 n1 E1 v2 n2 E2 v3 n3 E3 m1 m2 m3
    go_wp2
    go_round
    case rel => exact ⟨k + 1, by omega, by go_num, by rw [← HE.out]⟩
    case measure => simp [intOf]; omega
set_option maxRecDepth 100000 in
set_option maxHeartbeats 4000000 in
theorem GuardS_size (a : Option Addr) (len cap : Nat) (cs : Nat → Dv) (l : Int) (W : World) (hf : Hid (Fits shGuardS (.l len 4 cs))) (hl : Hid (Lens (.l len 4 cs))) (h0 : 0 ≤ l) (h1 : l ≤ 1048576) :
    Calls Try.prog 41 #[.slice a len cap, .int .i64 l] W fun e W' => e = .returned (.int .i64 (if (szD (.l len 4 cs) : Int) ≤ l then l - (szD (.l len 4 cs) : Int) else -1)) ∧ W' = W := by
  have hc : szD (.l len 4 cs) = len := by
    show len + sumTo _ _ = _
    rw [sz_none (fun i hi => by
      have q := hf.out.2 i hi
      have hm : i % 4 < 4 := Nat.mod_lt _ (by decide)
      generalize i % 4 = m at q hm
      match m, hm, q with
      | 0, _, q => obtain ⟨x, hx⟩ := Fits.int q; rw [hx]; rfl
      | 1, _, q => obtain ⟨x, hx⟩ := Fits.int q; rw [hx]; rfl
      | 2, _, q => obtain ⟨x, hx⟩ := Fits.int q; rw [hx]; rfl
      | 3, _, q => obtain ⟨x, hx⟩ := Fits.int q; rw [hx]; rfl
      | m + 4, hm, _ => omega)]; omega
  have hm := hl.out.1
  unfold maxLen at hm
  rw [hc]
  by_cases h : (len : Int) ≤ l
  · rw [if_pos h]
    go_enter Try.func41, Try.ntmps41
    go_wp2
    go_ret
    exact ⟨rfl, rfl⟩
  · rw [if_neg h]
    have h' : l < (len : Int) := by omega
    clear h
    go_enter Try.func41, Try.ntmps41
    go_wp2
    go_ret
    exact ⟨rfl, rfl⟩
set_option maxRecDepth 100000 in
set_option maxHeartbeats 4000000 in
theorem Lined_to (a0 : Option Addr) (l0 c0 : Nat) (cs0 : Nat → Dv) (a1 : Option Addr) (l1 c1 : Nat) (cs1 : Nat → Dv) (c : Bool) (W : World) (hf0 : Hid (Fits shLStepS (.l l0 3 cs0))) (hs0 : Hid (szD (.l l0 3 cs0) ≤ 1048576)) (h0 : Hid (Holds W c (.l l0 3 cs0) (.slice a0 l0 c0))) (hf1 : Hid (Fits shGuardS (.l l1 4 cs1))) (hs1 : Hid (szD (.l l1 4 cs1) ≤ 1048576)) (h1 : Hid (Holds W c (.l l1 4 cs1) (.slice a1 l1 c1))) : Calls Try.prog 22 #[.agg #[.slice a0 l0 c0, .slice a1 l1 c1]] W fun e W' => ∃ g0 g1 p1, e = .returned (.agg #[.slice (some ⟨g0, 0, none⟩) l0 l0, .slice (some ⟨g1, 0, none⟩) l1 l1]) ∧ Owns W' true W.heap.size (.l l0 3 cs0) (.slice (some ⟨g0, 0, none⟩) l0 l0) (rng W.heap.size p1) ∧ Owns W' true W.heap.size (.l l1 4 cs1) (.slice (some ⟨g1, 0, none⟩) l1 l1) (rng p1 W'.heap.size) ∧ W.heap.size ≤ p1 ∧ p1 ≤ W'.heap.size ∧ Below W.heap.size W W' := by
  go_enter Try.func22, Try.ntmps22
  obtain ⟨X0, EX0⟩ : ∃ X, X = ((W.alloc (.cells #[.slice a0 l0 c0, .slice a1 l1 c1] 45)).alloc (.cells #[.slice none 0 0, .slice none 0 0] 37)).alloc (.cells #[.slice none 0 0, .slice none 0 0] 37) := ⟨_, rfl⟩
  have RA : Hid (X0.rowIs W.heap.size 45 2 (rowF [.slice a0 l0 c0, .slice a1 l1 c1])) := by rw [EX0]; exact ((row_of W #[.slice a0 l0 c0, .slice a1 l1 c1] 45).alloc _).alloc _
  have RR : Hid (X0.rowIs (W.heap.size + 1) 37 2 (rowF [.slice none 0 0, .slice none 0 0])) := by
    rw [EX0]
    have q := (row_of (W.alloc (.cells #[.slice a0 l0 c0, .slice a1 l1 c1] 45)) #[.slice none 0 0, .slice none 0 0] 37)
    rw [show (W.alloc (.cells #[.slice a0 l0 c0, .slice a1 l1 c1] 45)).heap.size = W.heap.size + 1 by simp] at q
    exact q.alloc _
  have RO : Hid (X0.rowIs (W.heap.size + 1 + 1) 37 2 (rowF [.slice none 0 0, .slice none 0 0])) := by
    rw [EX0]
    have q := (row_of ((W.alloc (.cells #[.slice a0 l0 c0, .slice a1 l1 c1] 45)).alloc (.cells #[.slice none 0 0, .slice none 0 0] 37)) #[.slice none 0 0, .slice none 0 0] 37)
    rw [show ((W.alloc (.cells #[.slice a0 l0 c0, .slice a1 l1 c1] 45)).alloc (.cells #[.slice none 0 0, .slice none 0 0] 37)).heap.size = W.heap.size + 1 + 1 by simp] at q
    exact q
  have B0 : Hid (Below W.heap.size W X0) := by rw [EX0]; show Below _ _ _; go_grown
  have s0 : X0.heap.size = W.heap.size + 1 + 1 + 1 := by rw [EX0]; simp
  have x_0 : X0.cell? ⟨W.heap.size, 0, none⟩ = some (.slice a0 l0 c0) := RA.out.cell (i := 0) (by decide)
  have x_1 : X0.cell? ⟨W.heap.size, 1, none⟩ = some (.slice a1 l1 c1) := RA.out.cell (i := 1) (by decide)
  have o_0 : X0.cell? ⟨W.heap.size + 1 + 1, 0, none⟩ = some (.slice none 0 0) := RO.out.cell (i := 0) (by decide)
  have p_0 : X0.frozen? ⟨W.heap.size + 1 + 1, 0, none⟩ = false := RO.out.frozen 0
  have o_1 : X0.cell? ⟨W.heap.size + 1 + 1, 1, none⟩ = some (.slice none 0 0) := RO.out.cell (i := 1) (by decide)
  have p_1 : X0.frozen? ⟨W.heap.size + 1 + 1, 1, none⟩ = false := RO.out.frozen 1
  go_wp2_with fail
  rw [← EX0]
  clear x_0 o_0 p_0 x_1 o_1 p_1
  refine (LStepS_to _ _ _ cs0 c _ hf0 hs0 (h0.out.kept B0.out)).mono ?_
  rintro e w0 ⟨rfl, hO, hB⟩
  have O0 : Hid (Owns w0 true X0.heap.size (.l l0 3 cs0) (.slice (some ⟨X0.heap.size, 0, none⟩) l0 l0) (rng X0.heap.size w0.heap.size)) := hO
  have sz0 : X0.heap.size ≤ w0.heap.size := hB.size
  have HA0 : Hid (w0.rowIs W.heap.size 45 2 (rowF [.slice a0 l0 c0, .slice a1 l1 c1])) := RA.out.of_block (hB.block _ RA.out.lt)
  have HR0 : Hid (w0.rowIs (W.heap.size + 1) 37 2 (rowF [.slice none 0 0, .slice none 0 0])) := RR.out.of_block (hB.block _ RR.out.lt)
  have HO0 : Hid (w0.rowIs (W.heap.size + 1 + 1) 37 2 (rowF [.slice none 0 0, .slice none 0 0])) := RO.out.of_block (hB.block _ RO.out.lt)
  have BB0 : Hid (Below W.heap.size W w0) := B0.out.trans (hB.mono B0.out.size)
  have lt0 : W.heap.size + 1 + 1 < w0.heap.size := HO0.out.lt
  have wl0 : W.heap.size + 1 + 1 < X0.heap.size := RO.out.lt
  obtain ⟨G0, hG0⟩ : ∃ g, X0.heap.size = g := ⟨_, rfl⟩
  rw [hG0] at O0 sz0 wl0 ⊢
  clear hO hB
  have x_dummy := True.intro
  have x_1 : w0.cell? ⟨W.heap.size, 1, none⟩ = some (.slice a1 l1 c1) := HA0.out.cell (i := 1) (by decide)
  have o_0 : w0.cell? ⟨W.heap.size + 1 + 1, 0, none⟩ = some (.slice none 0 0) := HO0.out.cell (i := 0) (by decide)
  have p_0 : w0.frozen? ⟨W.heap.size + 1 + 1, 0, none⟩ = false := HO0.out.frozen 0
  have o_1 : w0.cell? ⟨W.heap.size + 1 + 1, 1, none⟩ = some (.slice none 0 0) := HO0.out.cell (i := 1) (by decide)
  have p_1 : w0.frozen? ⟨W.heap.size + 1 + 1, 1, none⟩ = false := HO0.out.frozen 1
  go_wp2_with fail
  obtain ⟨Y0, EY0⟩ : ∃ X, X = (w0.setCell ⟨W.heap.size + 1 + 1, 0, none⟩ (.slice (some ⟨G0, 0, none⟩) l0 l0)) := ⟨_, rfl⟩
  rw [← EY0]
  have RA0' : Hid (Y0.rowIs W.heap.size 45 2 (rowF [.slice a0 l0 c0, .slice a1 l1 c1])) := by rw [EY0]; exact (HA0.out.setOther (by show W.heap.size ≠ W.heap.size + 1 + 1; omega) _)
  have RR0' : Hid (Y0.rowIs (W.heap.size + 1) 37 2 (rowF [.slice none 0 0, .slice none 0 0])) := by rw [EY0]; exact (HR0.out.setOther (by show W.heap.size + 1 ≠ W.heap.size + 1 + 1; omega) _)
  have RO0' : Hid (Y0.rowIs (W.heap.size + 1 + 1) 37 2 (rowF [.slice (some ⟨G0, 0, none⟩) l0 l0, .slice none 0 0])) := by
    rw [EY0]
    refine World.rowIs.congr (HO0.out.set 0 (.slice (some ⟨G0, 0, none⟩) l0 l0)) (fun j hj => ?_)
    match j, hj with
    | 0, _ => rfl
    | 1, _ => rfl
    | j + 2, h => omega
  have BY0 : Hid (Below W.heap.size W Y0) := by
    rw [EY0]
    show Below _ _ _
    iterate 1 refine Below.setCell ?_ (by simp; try omega) _
    exact BB0.out
  have szY0 : Y0.heap.size = w0.heap.size := by rw [EY0]; simp [World.setCell]
  obtain ⟨N0, hN0⟩ : ∃ g, w0.heap.size = g := ⟨_, rfl⟩
  rw [hN0] at O0 sz0 lt0 szY0
  have O0 : Hid (Owns Y0 true G0 (.l l0 3 cs0) (.slice (some ⟨G0, 0, none⟩) l0 l0) (rng G0 N0)) := by
    rw [EY0]
    show Owns _ _ _ _ _ _
    iterate 1 refine far_set (by omega) ?_
    exact O0.out
  clear x_dummy o_0 p_0 o_1 p_1 x_1 HA0 HR0 HO0 BB0 EY0 hN0
  refine (GuardS_to _ _ _ cs1 c _ hf1 hs1 (h1.out.kept BY0.out)).mono ?_
  rintro e w1 ⟨rfl, hO, hB⟩
  have O1 : Hid (Owns w1 true Y0.heap.size (.l l1 4 cs1) (.slice (some ⟨Y0.heap.size, 0, none⟩) l1 l1) (rng Y0.heap.size w1.heap.size)) := hO
  have sz1 : Y0.heap.size ≤ w1.heap.size := hB.size
  have HA1 : Hid (w1.rowIs W.heap.size 45 2 (rowF [.slice a0 l0 c0, .slice a1 l1 c1])) := RA0'.out.of_block (hB.block _ RA0'.out.lt)
  have HR1 : Hid (w1.rowIs (W.heap.size + 1) 37 2 (rowF [.slice none 0 0, .slice none 0 0])) := RR0'.out.of_block (hB.block _ RR0'.out.lt)
  have HO1 : Hid (w1.rowIs (W.heap.size + 1 + 1) 37 2 (rowF [.slice (some ⟨G0, 0, none⟩) l0 l0, .slice none 0 0])) := RO0'.out.of_block (hB.block _ RO0'.out.lt)
  have O0 : Hid (Owns w1 true G0 (.l l0 3 cs0) (.slice (some ⟨G0, 0, none⟩) l0 l0) (rng G0 N0)) := O0.out.kept hB
  have BB1 : Hid (Below W.heap.size W w1) := BY0.out.trans (hB.mono BY0.out.size)
  have lt1 : W.heap.size + 1 + 1 < w1.heap.size := HO1.out.lt
  have wl1 : W.heap.size + 1 + 1 < Y0.heap.size := RO0'.out.lt
  obtain ⟨G1, hG1⟩ : ∃ g, Y0.heap.size = g := ⟨_, rfl⟩
  rw [hG1] at O1 sz1 wl1 ⊢
  clear hO hB
  have x_dummy := True.intro
  have o_0 : w1.cell? ⟨W.heap.size + 1 + 1, 0, none⟩ = some (.slice (some ⟨G0, 0, none⟩) l0 l0) := HO1.out.cell (i := 0) (by decide)
  have p_0 : w1.frozen? ⟨W.heap.size + 1 + 1, 0, none⟩ = false := HO1.out.frozen 0
  have o_1 : w1.cell? ⟨W.heap.size + 1 + 1, 1, none⟩ = some (.slice none 0 0) := HO1.out.cell (i := 1) (by decide)
  have p_1 : w1.frozen? ⟨W.heap.size + 1 + 1, 1, none⟩ = false := HO1.out.frozen 1
  have r_0 : w1.cell? ⟨W.heap.size + 1, 0, none⟩ = some (.slice none 0 0) := HR1.out.cell (i := 0) (by decide)
  have t_0 : w1.frozen? ⟨W.heap.size + 1, 0, none⟩ = false := HR1.out.frozen 0
  have r_1 : w1.cell? ⟨W.heap.size + 1, 1, none⟩ = some (.slice none 0 0) := HR1.out.cell (i := 1) (by decide)
  have t_1 : w1.frozen? ⟨W.heap.size + 1, 1, none⟩ = false := HR1.out.frozen 1
  go_wp2
  skip
  refine bodyPost_ret (v := .agg #[.slice (some ⟨G0, 0, none⟩) l0 l0, .slice (some ⟨G1, 0, none⟩) l1 l1]) (by simp only [results, Try.results22]; go_simp) rfl ⟨G0, G1, N0, rfl, ?_, ?_, ?_, ?_, ?_⟩
  · refine Owns.more (F := rng G0 N0) ?_ (fun x hx => ⟨by have := hx.1; omega, hx.2⟩)
    iterate 3 refine far_set (by omega) ?_
    exact O0.out.low (by omega)
  · refine Owns.more (F := rng G1 w1.heap.size) ?_ (fun x hx => ⟨by have := hx.1; omega, by have := hx.2; simpa [World.setCell] using this⟩)
    iterate 3 refine far_set (by omega) ?_
    exact O1.out.low (by omega)
  · omega
  · simp [World.setCell]; omega
  · refine Below.trans BB1.out ?_
    iterate 3 refine Below.setCell ?_ (by simp; try omega) _
    exact Below.refl _ _
set_option maxRecDepth 100000 in
set_option maxHeartbeats 4000000 in
theorem Lined_eq (a0 : Option Addr) (l0 c0 : Nat) (cs0 : Nat → Dv) (a1 : Option Addr) (l1 c1 : Nat) (cs1 : Nat → Dv) (b0 : Option Addr) (e0 : Nat) (b1 : Option Addr) (e1 : Nat) (c c' : Bool) (W : World) (hf0 : Hid (Fits shLStepS (.l l0 3 cs0))) (hs0 : Hid (szD (.l l0 3 cs0) ≤ 1048576)) (h0 : Hid (Holds W c (.l l0 3 cs0) (.slice a0 l0 c0))) (hf1 : Hid (Fits shGuardS (.l l1 4 cs1))) (hs1 : Hid (szD (.l l1 4 cs1) ≤ 1048576)) (h1 : Hid (Holds W c (.l l1 4 cs1) (.slice a1 l1 c1))) (g0 : Hid (Holds W c' (.l l0 3 cs0) (.slice b0 l0 e0))) (g1 : Hid (Holds W c' (.l l1 4 cs1) (.slice b1 l1 e1))) : Calls Try.prog 17 #[.agg #[.slice a0 l0 c0, .slice a1 l1 c1], .agg #[.slice b0 l0 e0, .slice b1 l1 e1]] W fun e W' => e = .returned (.bool true) ∧ Below W.heap.size W W' := by
  go_enter Try.func17, Try.ntmps17
  obtain ⟨X0, EX0⟩ : ∃ X, X = (W.alloc (.cells #[.slice a0 l0 c0, .slice a1 l1 c1] 37)).alloc (.cells #[.slice b0 l0 e0, .slice b1 l1 e1] 37) := ⟨_, rfl⟩
  have RA : Hid (X0.rowIs W.heap.size 37 2 (rowF [.slice a0 l0 c0, .slice a1 l1 c1])) := by rw [EX0]; exact (row_of W #[.slice a0 l0 c0, .slice a1 l1 c1] 37).alloc _
  have RB : Hid (X0.rowIs (W.heap.size + 1) 37 2 (rowF [.slice b0 l0 e0, .slice b1 l1 e1])) := by
    rw [EX0]
    have q := row_of (W.alloc (.cells #[.slice a0 l0 c0, .slice a1 l1 c1] 37)) #[.slice b0 l0 e0, .slice b1 l1 e1] 37
    rw [show (W.alloc (.cells #[.slice a0 l0 c0, .slice a1 l1 c1] 37)).heap.size = W.heap.size + 1 by simp] at q
    exact q
  have B0 : Hid (Below W.heap.size W X0) := by rw [EX0]; show Below _ _ _; go_grown
  go_wp2_with fail
  rw [← EX0]
  clear EX0
  refine (LStepS_eq _ _ _ _ _ cs0 c c' _ hf0 hs0 (h0.out.kept B0.out) (g0.out.kept B0.out)).mono ?_
  rintro e w0 ⟨rfl, hB⟩
  have A0 : Hid (w0.rowIs W.heap.size 37 2 (rowF [.slice a0 l0 c0, .slice a1 l1 c1])) := RA.out.of_block (hB.block _ RA.out.lt)
  have C0 : Hid (w0.rowIs (W.heap.size + 1) 37 2 (rowF [.slice b0 l0 e0, .slice b1 l1 e1])) := RB.out.of_block (hB.block _ RB.out.lt)
  have BB0 : Hid (Below W.heap.size W w0) := B0.out.trans (hB.mono B0.out.size)
  clear hB B0 RA RB
  have y_1 : w0.cell? ⟨W.heap.size, 1, none⟩ = some (.slice a1 l1 c1) := A0.out.cell (i := 1) (by decide)
  have z_1 : w0.cell? ⟨W.heap.size + 1, 1, none⟩ = some (.slice b1 l1 e1) := C0.out.cell (i := 1) (by decide)
  go_wp2_with fail
  clear y_1 z_1
  refine (GuardS_eq _ _ _ _ _ cs1 c c' _ hf1 hs1 (h1.out.kept BB0.out) (g1.out.kept BB0.out)).mono ?_
  rintro e w1 ⟨rfl, hB⟩
  have A1 : Hid (w1.rowIs W.heap.size 37 2 (rowF [.slice a0 l0 c0, .slice a1 l1 c1])) := A0.out.of_block (hB.block _ A0.out.lt)
  have C1 : Hid (w1.rowIs (W.heap.size + 1) 37 2 (rowF [.slice b0 l0 e0, .slice b1 l1 e1])) := C0.out.of_block (hB.block _ C0.out.lt)
  have BB1 : Hid (Below W.heap.size W w1) := BB0.out.trans (hB.mono BB0.out.size)
  clear hB BB0 A0 C0
  go_wp2
  go_ret
  exact ⟨rfl, BB1.out⟩
set_option maxRecDepth 100000 in
set_option maxHeartbeats 4000000 in
theorem Lined_mark (k0 : Int) (h0k : 0 ≤ k0) (h1k : k0 ≤ 100000000) (a0 : Option Addr) (l0 c0 : Nat) (cs0 : Nat → Dv) (a1 : Option Addr) (l1 c1 : Nat) (cs1 : Nat → Dv) (c : Bool) (W : World) (B : Nat) (F0 : Nat → Prop) (F1 : Nat → Prop) (hf0 : Hid (Fits shLStepS (.l l0 3 cs0))) (hs0 : Hid (szD (.l l0 3 cs0) ≤ 1048576)) (h0 : Hid (Owns W c B (.l l0 3 cs0) (.slice a0 l0 c0) F0)) (u0 : Hid (∀ x, F0 x → x < W.heap.size)) (hf1 : Hid (Fits shGuardS (.l l1 4 cs1))) (hs1 : Hid (szD (.l l1 4 cs1) ≤ 1048576)) (h1 : Hid (Owns W c B (.l l1 4 cs1) (.slice a1 l1 c1) F1)) (u1 : Hid (∀ x, F1 x → x < W.heap.size)) (D01 : ∀ x, F0 x → ¬ F1 x) : Calls Try.prog 18 #[.agg #[.slice a0 l0 c0, .slice a1 l1 c1], .int .i64 k0] W fun e W' => e = .returned (.int .i64 (k0 + (cntD (.l l0 3 cs0) : Nat) + (cntD (.l l1 4 cs1) : Nat))) ∧ Owns W' c B (mkD (k0) (.l l0 3 cs0)) (.slice a0 l0 c0) F0 ∧ Owns W' c B (mkD (k0 + (cntD (.l l0 3 cs0) : Nat)) (.l l1 4 cs1)) (.slice a1 l1 c1) F1 ∧ OnlyF W W' (fun x => F0 x ∨ F1 x) := by
  go_enter Try.func18, Try.ntmps18
  obtain ⟨X0, EX0⟩ : ∃ X, X = W.alloc (.cells #[.slice a0 l0 c0, .slice a1 l1 c1] 37) := ⟨_, rfl⟩
  have RA : Hid (X0.rowIs W.heap.size 37 2 (rowF [.slice a0 l0 c0, .slice a1 l1 c1])) := by rw [EX0]; exact row_of W #[.slice a0 l0 c0, .slice a1 l1 c1] 37
  have B0 : Below W.heap.size W X0 := by rw [EX0]; show Below _ _ _; go_grown
  have O0 : Hid (Owns X0 c B (.l l0 3 cs0) (.slice a0 l0 c0) F0) := h0.out.kept B0
  have O1 : Hid (Owns X0 c B (.l l1 4 cs1) (.slice a1 l1 c1) F1) := h1.out.kept B0
  have ON : Hid (OnlyF W X0 (fun x => F0 x ∨ F1 x)) := OnlyF.of_below B0
  clear B0
  have hc0 := cnt_le thin_LStepS hf0.out
  have HC0 : Hid (cntD (.l l0 3 cs0) ≤ 8388609) := by have q := hs0.out; show _ ≤ _; omega
  clear hc0
  have hc1 := cnt_le thin_GuardS hf1.out
  have HC1 : Hid (cntD (.l l1 4 cs1) ≤ 8388609) := by have q := hs1.out; show _ ≤ _; omega
  clear hc1
  go_wp2_with fail
  rw [← EX0]
  clear EX0
  refine (LStepS_mark (k0) (by omega) (by omega) _ _ _ cs0 c _ B F0 hf0 hs0 O0).mono ?_
  obtain ⟨N0, HN0⟩ : ∃ N, Hid (cntD (.l l0 3 cs0) = N) := ⟨_, rfl⟩
  have hN0 : N0 ≤ 8388609 := by have q := HC0.out; rw [HN0.out] at q; exact q
  rw [HN0.out]
  rintro e w0 ⟨rfl, hO, hF⟩
  have P0 : Hid (Owns w0 c B (mkD (k0) (.l l0 3 cs0)) (.slice a0 l0 c0) F0) := hO
  have O1 : Hid (Owns w0 c B (.l l1 4 cs1) (.slice a1 l1 c1) F1) := hF.owns (fun x hx hy => D01 x hy hx) O1.out
  have ON0 : Hid (OnlyF W w0 (fun x => F0 x ∨ F1 x)) := ON.out.trans (hF.more (fun x hx => Or.inl hx))
  have RA0 : Hid (w0.rowIs W.heap.size 37 2 (rowF [.slice a0 l0 c0, .slice a1 l1 c1])) := RA.out.of_block (hF.block _ RA.out.lt (fun q => by have := u0.out _ q; omega))
  clear hF hO
  have y_1 : w0.cell? ⟨W.heap.size, 1, none⟩ = some (.slice a1 l1 c1) := RA0.out.cell (i := 1) (by decide)
  go_wp2_with fail
  clear y_1
  refine (GuardS_mark (k0 + (N0 : Int)) (by omega) (by omega) _ _ _ cs1 c _ B F1 hf1 hs1 O1).mono ?_
  obtain ⟨N1, HN1⟩ : ∃ N, Hid (cntD (.l l1 4 cs1) = N) := ⟨_, rfl⟩
  have hN1 : N1 ≤ 8388609 := by have q := HC1.out; rw [HN1.out] at q; exact q
  rw [HN1.out]
  rintro e w1 ⟨rfl, hO, hF⟩
  have P0 : Hid (Owns w1 c B (mkD (k0) (.l l0 3 cs0)) (.slice a0 l0 c0) F0) := hF.owns (fun x hx hy => D01 x hx hy) P0.out
  have P1 : Hid (Owns w1 c B (mkD (k0 + (N0 : Int)) (.l l1 4 cs1)) (.slice a1 l1 c1) F1) := hO
  have ON1 : Hid (OnlyF W w1 (fun x => F0 x ∨ F1 x)) := ON0.out.trans (hF.more (fun x hx => Or.inr (hx)))
  clear hF hO
  go_wp2
  go_ret
  refine ⟨by rw [HN0.out, HN1.out]; rfl, (by have q := P0.out; exact q), (by have q := P1.out; rw [HN0.out]; exact q), ON1.out⟩
set_option maxRecDepth 100000 in
set_option maxHeartbeats 4000000 in
theorem Lined_held (k0 : Int) (h0k : 0 ≤ k0) (a0 : Option Addr) (l0 c0 : Nat) (cs0 : Nat → Dv) (a1 : Option Addr) (l1 c1 : Nat) (cs1 : Nat → Dv) (c : Bool) (W : World) (hf0 : Hid (Fits shLStepS (.l l0 3 cs0))) (hs0 : Hid (szD (.l l0 3 cs0) ≤ 1048576)) (hf1 : Hid (Fits shGuardS (.l l1 4 cs1))) (hs1 : Hid (szD (.l l1 4 cs1) ≤ 1048576)) (h1k : k0 + (cntD (.l l0 3 cs0) : Nat) + (cntD (.l l1 4 cs1) : Nat) ≤ 16777216) (h0 : Hid (Holds W c (mkD (k0) (.l l0 3 cs0)) (.slice a0 l0 c0))) (h1 : Hid (Holds W c (mkD (k0 + (cntD (.l l0 3 cs0) : Nat)) (.l l1 4 cs1)) (.slice a1 l1 c1))) : Calls Try.prog 19 #[.agg #[.slice a0 l0 c0, .slice a1 l1 c1], .int .i64 k0] W fun e W' => e = .returned (.int .i64 (k0 + (cntD (.l l0 3 cs0) : Nat) + (cntD (.l l1 4 cs1) : Nat))) ∧ Below W.heap.size W W' := by
  obtain ⟨N0, HN0⟩ : ∃ N, Hid (cntD (.l l0 3 cs0) = N) := ⟨_, rfl⟩
  obtain ⟨N1, HN1⟩ : ∃ N, Hid (cntD (.l l1 4 cs1) = N) := ⟨_, rfl⟩
  rw [HN0.out, HN1.out] at h1k
  go_enter Try.func19, Try.ntmps19
  obtain ⟨X0, EX0⟩ : ∃ X, X = W.alloc (.cells #[.slice a0 l0 c0, .slice a1 l1 c1] 37) := ⟨_, rfl⟩
  have RA : Hid (X0.rowIs W.heap.size 37 2 (rowF [.slice a0 l0 c0, .slice a1 l1 c1])) := by rw [EX0]; exact row_of W #[.slice a0 l0 c0, .slice a1 l1 c1] 37
  have B0 : Hid (Below W.heap.size W X0) := by rw [EX0]; show Below _ _ _; go_grown
  have H0 : Hid (Holds X0 c (mkD (k0) (.l l0 3 cs0)) (.slice a0 l0 c0)) := by have q := h0.out.kept B0.out; exact q
  have H1 : Hid (Holds X0 c (mkD (k0 + (N0 : Int)) (.l l1 4 cs1)) (.slice a1 l1 c1)) := by have q := h1.out.kept B0.out; rw [HN0.out] at q; exact q
  have y_1 : X0.cell? ⟨W.heap.size, 1, none⟩ = some (.slice a1 l1 c1) := RA.out.cell (i := 1) (by decide)
  go_wp2_with fail
  rw [← EX0]
  clear EX0
  refine (LStepS_held (k0) (by omega) _ _ _ cs0 c _ hf0 hs0 (by rw [HN0.out]; omega) H0).mono ?_
  rw [HN0.out]
  rintro e w' ⟨rfl, hw⟩
  rw [hw]
  clear hw w'
  have kp0 : 0 ≤ k0 + (N0 : Int) := by omega
  go_wp2_with fail
  refine (GuardS_held (k0 + (N0 : Int)) (by omega) _ _ _ cs1 c _ hf1 hs1 (by rw [HN1.out]; omega) H1).mono ?_
  rw [HN1.out]
  rintro e w' ⟨rfl, hw⟩
  rw [hw]
  clear hw w'
  have kp1 : 0 ≤ k0 + (N0 : Int) + (N1 : Int) := by omega
  go_wp2
  go_ret
  exact ⟨by rw [HN0.out, HN1.out]; rfl, B0.out⟩
set_option maxRecDepth 100000 in
set_option maxHeartbeats 4000000 in
theorem Lined_size (a0 : Option Addr) (l0 c0 : Nat) (cs0 : Nat → Dv) (a1 : Option Addr) (l1 c1 : Nat) (cs1 : Nat → Dv) (l : Int) (c : Bool) (W : World) (hf0 : Hid (Fits shLStepS (.l l0 3 cs0))) (hl0 : Hid (Lens (.l l0 3 cs0))) (h0 : Hid (Holds W c (.l l0 3 cs0) (.slice a0 l0 c0))) (hf1 : Hid (Fits shGuardS (.l l1 4 cs1))) (hl1 : Hid (Lens (.l l1 4 cs1))) (h1 : Hid (Holds W c (.l l1 4 cs1) (.slice a1 l1 c1))) (hq0 : 0 ≤ l) (hq1 : l ≤ 1048576) : Calls Try.prog 20 #[.agg #[.slice a0 l0 c0, .slice a1 l1 c1], .int .i64 l] W fun e W' => e = .returned (.int .i64 (if (szD (.l l0 3 cs0) : Int) + (szD (.l l1 4 cs1) : Int) ≤ l then l - ((szD (.l l0 3 cs0) : Int) + (szD (.l l1 4 cs1) : Int)) else -1)) ∧ Below W.heap.size W W' := by
  obtain ⟨N0, HN0⟩ : ∃ N, Hid (szD (.l l0 3 cs0) = N) := ⟨_, rfl⟩
  rw [HN0.out]
  obtain ⟨N1, HN1⟩ : ∃ N, Hid (szD (.l l1 4 cs1) = N) := ⟨_, rfl⟩
  rw [HN1.out]
  obtain ⟨R, HR⟩ : ∃ R : Int, Hid ((if (N0 : Int) + (N1 : Int) ≤ l then l - ((N0 : Int) + (N1 : Int)) else -1) = R) := ⟨_, rfl⟩
  rw [HR.out]
  have HRN : Hid (¬ ((N0 : Int) + (N1 : Int) ≤ l) → R = -1) := fun q => by rw [← HR.out, if_neg q]
  have HRP : Hid ((N0 : Int) + (N1 : Int) ≤ l → R = l - ((N0 : Int) + (N1 : Int))) := fun q => by rw [← HR.out, if_pos q]
  clear HR
  go_enter Try.func20, Try.ntmps20
  obtain ⟨X0, EX0⟩ : ∃ X, X = W.alloc (.cells #[.slice a0 l0 c0, .slice a1 l1 c1] 45) := ⟨_, rfl⟩
  have RA : Hid (X0.rowIs W.heap.size 45 2 (rowF [.slice a0 l0 c0, .slice a1 l1 c1])) := by rw [EX0]; exact row_of W #[.slice a0 l0 c0, .slice a1 l1 c1] 45
  have B0 : Hid (Below W.heap.size W X0) := by rw [EX0]; show Below _ _ _; go_grown
  go_wp2_with fail
  rw [← EX0]
  clear EX0
  refine (LStepS_size _ _ _ cs0 (l) _ hf0 hl0 (by omega) (by omega)).mono ?_
  rw [HN0.out]
  rintro e w0 ⟨rfl, hE⟩
  have hB : Below X0.heap.size X0 w0 := by rw [hE]; exact Below.refl _ _
  clear hE
  have A0 : Hid (w0.rowIs W.heap.size 45 2 (rowF [.slice a0 l0 c0, .slice a1 l1 c1])) := RA.out.of_block (hB.block _ RA.out.lt)
  have BB0 : Hid (Below W.heap.size W w0) := B0.out.trans (hB.mono B0.out.size)
  clear hB RA B0
  by_cases q0 : (N0 : Int) ≤ l
  rotate_left
  · rw [if_neg q0]
    have HM : Hid (R = -1) := HRN.out (by omega)
    go_wp2
    go_ret
    exact ⟨by rw [HM.out]; rfl, BB0.out⟩
  rw [if_pos q0]
  have le0 : 0 ≤ l - (N0 : Int) := by omega
  have y_1 : w0.cell? ⟨W.heap.size, 1, none⟩ = some (.slice a1 l1 c1) := A0.out.cell (i := 1) (by decide)
  go_wp2_with fail
  clear y_1
  refine (GuardS_size _ _ _ cs1 (l - (N0 : Int)) _ hf1 hl1 (by omega) (by omega)).mono ?_
  rw [HN1.out]
  rintro e w1 ⟨rfl, hE⟩
  have hB : Below w0.heap.size w0 w1 := by rw [hE]; exact Below.refl _ _
  clear hE
  have A1 : Hid (w1.rowIs W.heap.size 45 2 (rowF [.slice a0 l0 c0, .slice a1 l1 c1])) := A0.out.of_block (hB.block _ A0.out.lt)
  have BB1 : Hid (Below W.heap.size W w1) := BB0.out.trans (hB.mono BB0.out.size)
  clear hB A0 BB0
  by_cases q1 : (N1 : Int) ≤ l - (N0 : Int)
  rotate_left
  · rw [if_neg q1]
    have HM : Hid (R = -1) := HRN.out (by omega)
    go_wp2
    go_ret
    exact ⟨by rw [HM.out]; rfl, BB1.out⟩
  rw [if_pos q1]
  have le1 : 0 ≤ l - (N0 : Int) - (N1 : Int) := by omega
  have HE : Hid (R = l - (N0 : Int) - (N1 : Int)) := by have q := HRP.out (by omega); show _ = _; omega
  go_wp2
  go_ret
  exact ⟨by rw [HE.out]; rfl, BB1.out⟩
end Go.Proofs.Ytlocdlgbjjbnoaa.deep
