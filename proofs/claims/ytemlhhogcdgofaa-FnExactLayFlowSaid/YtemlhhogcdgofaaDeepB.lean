/-
  What the laws' own helpers do on data: EdgeS, InstrS, BlockS, IntSS.
-/
import Derived.Test.YtemlhhogcdgofaaProg
import Derived.Test.YtemlhhogcdgofaaDeep
import Derived.Test.YtemlhhogcdgofaaDeepOpen
import Derived.Test.YtemlhhogcdgofaaDeepRow
import Derived.WalkKit
import Derived.WalkSpells
import Derived.Below
import Derived.Handy
import Derived.Deep.OwnRows
import Derived.Deep.RegionWith
import Derived.Laws.MakeOwn
namespace Go.Proofs.Ytemlhhogcdgofaa.deep
open Go.RowKit Go.Proofs.Ytemlhhogcdgofaa.ints
set_option linter.unusedVariables false

def shEdgeS : Sh := .l 3 (fun i => match i with | 0 => .n | 1 => .n | _ => .n)
theorem thin_EdgeS : Thin shEdgeS := ⟨by decide, fun i => by
  show Thin (match i with | 0 => .n | 1 => .n | _ => .n)
  split
  · exact trivial
  · exact trivial
  · exact trivial⟩
def shInstrS : Sh := .l 5 (fun i => match i with | 0 => .n | 1 => .n | 2 => .n | 3 => .n | _ => .n)
theorem thin_InstrS : Thin shInstrS := ⟨by decide, fun i => by
  show Thin (match i with | 0 => .n | 1 => .n | 2 => .n | 3 => .n | _ => .n)
  split
  · exact trivial
  · exact trivial
  · exact trivial
  · exact trivial
  · exact trivial⟩
theorem Instr_to (x0 : Int) (x1 : Int) (x2 : Int) (x3 : Int) (x4 : Int) (W : World) : Calls Try.prog 49 #[.agg #[.int .i64 x0, .int .i64 x1, .int .i64 x2, .int .i64 x3, .int .i64 x4]] W fun e W' => e = .returned (.agg #[.int .i64 x0, .int .i64 x1, .int .i64 x2, .int .i64 x3, .int .i64 x4]) ∧ Below W.heap.size W W' := by
  go_enter Try.func49, Try.ntmps49
  go_wp2
  refine bodyPost_ret (v := .agg #[.int .i64 x0, .int .i64 x1, .int .i64 x2, .int .i64 x3, .int .i64 x4]) (by simp [results, Try.results49, go_sem]) rfl ⟨rfl, by go_grown⟩
theorem InstrS_info : (Try.prog.info? 74).map (fun i => (i.zero, i.size, i.bytes)) = some (some (.agg #[.int .i64 0, .int .i64 0, .int .i64 0, .int .i64 0, .int .i64 0]), 5, 40) := by kernel_rfl
def InstrS_zero (i : Nat) : Value := rowF [.int .i64 0, .int .i64 0, .int .i64 0, .int .i64 0, .int .i64 0] i
theorem InstrS_made (n i : Nat) (hi : i < n) : (madeCells #[.int .i64 0, .int .i64 0, .int .i64 0, .int .i64 0, .int .i64 0] n)[i]? = some (InstrS_zero (i % 5)) := by
  have h : i % 5 < 5 := Nat.mod_lt _ (by decide)
  simp only [madeCells, Array.getElem?_map, Array.getElem?_range, hi, if_true, Option.map_some, InstrS_zero]
  generalize i % 5 = j at h
  congr 1
  match j, h with
  | 0, _ => rfl
  | 1, _ => rfl
  | 2, _ => rfl
  | 3, _ => rfl
  | 4, _ => rfl
  | j + 5, h => omega
set_option maxRecDepth 100000 in
set_option maxHeartbeats 4000000 in
theorem InstrS_to (a : Option Addr) (len cap : Nat) (cs : Nat → Dv) (c : Bool) (W : World) (hf : Hid (Fits shInstrS (.l len 5 cs))) (hs : Hid (szD (.l len 5 cs) ≤ 1048576)) (h : Hid (Holds W c (.l len 5 cs) (.slice a len cap))) :
    Calls Try.prog 37 #[.slice a len cap] W fun e W' => e = .returned (.slice (some ⟨W.heap.size, 0, none⟩) len len) ∧ Owns W' true W.heap.size (.l len 5 cs) (.slice (some ⟨W.heap.size, 0, none⟩) len len) (rng W.heap.size W'.heap.size) ∧ Below W.heap.size W W' := by
  have hlen : len ≤ 1048576 := Nat.le_trans (Nat.le_add_right _ _) hs.out
  obtain ⟨i0, hi, hz0, hz1, hz2⟩ := parts_of InstrS_info
  have hmk : ∀ w : World, (Instr.makeSlice 44 (.int .i64 (len : Int)) (.int .i64 (len : Int))).run Try.prog w = .ok (.slice (some ⟨w.heap.size, 0, none⟩) len len) (w.alloc (.cells (madeCells #[.int .i64 0, .int .i64 0, .int .i64 0, .int .i64 0, .int .i64 0] (len * 5)) 74)) := by
    intro w
    have hr := run_make (P := Try.prog) w 44 74 i0 _ Try.underlying44 hi hz0 .i64 .i64 (len : Int) (len : Int) (by omega) (Int.le_refl _) (by rw [hz2]; omega) (by omega)
    simp only [Int.toNat_natCast] at hr
    rw [hr, hz1]; rfl
  clear hi hz0 hz1 hz2
  go_enter Try.func37, Try.ntmps37
  go_wp2
  clear hmk
  go_loopw [4] (fun vi wr => ∃ (k : Nat) (U : Nat → Value), k ≤ len ∧ vi = .int .i64 k ∧ Hid (wr.rowIs W.heap.size 74 (len * 5) (fun j => if j < k * 5 then U j else InstrS_zero (j % 5))) ∧ Hid (Rowed wr true W.heap.size cs U (k * 5) (rng (W.heap.size + 1) wr.heap.size)) ∧ Hid (Below W.heap.size W wr)) (fun vi _ => len - (intOf vi).toNat)
  case atStart =>
    refine ⟨0, fun _ => .bool false, Nat.zero_le _, rfl, ?_, ?_, ?_⟩
    · have h := World.rowIs_alloc W (madeCells #[.int .i64 0, .int .i64 0, .int .i64 0, .int .i64 0, .int .i64 0] (len * 5)) 74 (fun j => InstrS_zero (j % 5)) (fun i hi => InstrS_made _ i (by rw [size_madeCells] at hi; exact hi))
      rw [size_madeCells] at h
      exact h.congr (fun i hi => by rw [if_neg (by omega)])
    · show Rowed _ _ _ _ _ _ _
      rw [Nat.zero_mul]; exact Rowed.nil _ _ _ _ _ _
    · show Below _ _ _
      go_grown
  case round =>
    obtain ⟨k, U, hk, rfl, HR, HO, HB⟩ := hrel
    by_cases hlt : k < len
    rotate_left
    · have HK : Hid (k = len) := by show k = len; omega
      go_wp2
      go_ret
      refine ⟨rfl, ?_, HB.out⟩
      have hr := HR.out.congr (g := U) (fun i hi => by rw [if_pos (by rw [HK.out]; exact hi)])
      have ho := HO.out
      rw [HK.out] at ho
      exact ho.owns hr (Nat.le_refl _) (fun q => by have := q.1; omega) (fun x hx => ⟨by have := hx.1; omega, hx.2⟩) ⟨Nat.le_refl _, HR.out.lt⟩ (fun _ => ⟨Nat.le_refl _, hlen⟩)
    have hltI : (k : Int) < (len : Int) := by omega
    have hkn : (k + 1) * 5 ≤ len * 5 := Nat.mul_le_mul_right _ hlt
    rw [Nat.add_mul] at hkn
    obtain ⟨b, o, ha, hb, hcell⟩ := h.out.cells HB.out (show 0 < len * 5 by omega)
    subst ha
    have hbs : W.heap.size < wr.heap.size := HR.out.lt
    have hbw : b < wr.heap.size := by omega
    obtain ⟨u0, d0, q0⟩ := hcell (k * 5) (by omega)
    obtain ⟨x0, E0⟩ := (hf.out.cell hlt (c := 0) (by decide)).int
    have E0 : Hid (cs (k * 5) = .n x0) := E0
    rw [E0.out] at q0
    have q0 : u0 = .int .i64 x0 := q0
    subst q0
    obtain ⟨u1, d1, q1⟩ := hcell (k * 5 + 1) (by omega)
    rw [← Nat.add_assoc] at d1
    obtain ⟨x1, E1⟩ := (hf.out.cell hlt (c := 1) (by decide)).int
    have E1 : Hid (cs (k * 5 + 1) = .n x1) := E1
    rw [E1.out] at q1
    have q1 : u1 = .int .i64 x1 := q1
    subst q1
    obtain ⟨u2, d2, q2⟩ := hcell (k * 5 + 2) (by omega)
    rw [← Nat.add_assoc] at d2
    obtain ⟨x2, E2⟩ := (hf.out.cell hlt (c := 2) (by decide)).int
    have E2 : Hid (cs (k * 5 + 2) = .n x2) := E2
    rw [E2.out] at q2
    have q2 : u2 = .int .i64 x2 := q2
    subst q2
    obtain ⟨u3, d3, q3⟩ := hcell (k * 5 + 3) (by omega)
    rw [← Nat.add_assoc] at d3
    obtain ⟨x3, E3⟩ := (hf.out.cell hlt (c := 3) (by decide)).int
    have E3 : Hid (cs (k * 5 + 3) = .n x3) := E3
    rw [E3.out] at q3
    have q3 : u3 = .int .i64 x3 := q3
    subst q3
    obtain ⟨u4, d4, q4⟩ := hcell (k * 5 + 4) (by omega)
    rw [← Nat.add_assoc] at d4
    obtain ⟨x4, E4⟩ := (hf.out.cell hlt (c := 4) (by decide)).int
    have E4 : Hid (cs (k * 5 + 4) = .n x4) := E4
    rw [E4.out] at q4
    have q4 : u4 = .int .i64 x4 := q4
    subst q4
    clear hcell
    have hB0 : Hid (Below wr.heap.size wr wr) := Below.refl _ _
    go_wp2_with fail
    refine (Instr_to x0 x1 x2 x3 x4 _).mono ?_
    rintro e w1 ⟨rfl, hB1⟩
    have HC1 : Hid (w1.rowIs W.heap.size 74 (len * 5) (fun j => if j < k * 5 then U j else InstrS_zero (j % 5))) := HR.out.of_block (hB1.block _ hbs)
    have HO1 : Hid (Rowed w1 true W.heap.size cs U (k * 5) (rng (W.heap.size + 1) wr.heap.size)) := HO.out.kept hB1
    have HB1 : Hid (Below W.heap.size W w1) := HB.out.trans (hB1.mono HB.out.size)
    have hws : wr.heap.size ≤ w1.heap.size := hB1.size
    clear hB1 HR HO
    have d0' := HC1.out.cell (i := k * 5) (by omega)
    have f0' := HC1.out.frozen (k * 5)
    rw [if_neg (by omega)] at d0'
    rw [show (k * 5) % 5 = 0 by omega] at d0'
    have d0' : w1.cell? ⟨W.heap.size, k * 5, none⟩ = some (.int .i64 0) := d0'
    have d1' := HC1.out.cell (i := k * 5 + 1) (by omega)
    have f1' := HC1.out.frozen (k * 5 + 1)
    rw [if_neg (by omega)] at d1'
    rw [show (k * 5 + 1) % 5 = 1 by omega] at d1'
    have d1' : w1.cell? ⟨W.heap.size, k * 5 + 1, none⟩ = some (.int .i64 0) := d1'
    have d2' := HC1.out.cell (i := k * 5 + 2) (by omega)
    have f2' := HC1.out.frozen (k * 5 + 2)
    rw [if_neg (by omega)] at d2'
    rw [show (k * 5 + 2) % 5 = 2 by omega] at d2'
    have d2' : w1.cell? ⟨W.heap.size, k * 5 + 2, none⟩ = some (.int .i64 0) := d2'
    have d3' := HC1.out.cell (i := k * 5 + 3) (by omega)
    have f3' := HC1.out.frozen (k * 5 + 3)
    rw [if_neg (by omega)] at d3'
    rw [show (k * 5 + 3) % 5 = 3 by omega] at d3'
    have d3' : w1.cell? ⟨W.heap.size, k * 5 + 3, none⟩ = some (.int .i64 0) := d3'
    have d4' := HC1.out.cell (i := k * 5 + 4) (by omega)
    have f4' := HC1.out.frozen (k * 5 + 4)
    rw [if_neg (by omega)] at d4'
    rw [show (k * 5 + 4) % 5 = 4 by omega] at d4'
    have d4' : w1.cell? ⟨W.heap.size, k * 5 + 4, none⟩ = some (.int .i64 0) := d4'
    go_wp2
    go_roundw
    case rel =>
      obtain ⟨V, hV⟩ : ∃ V : Nat → Value, V = fun j => if j = k * 5 then .int .i64 x0 else if j = k * 5 + 1 then .int .i64 x1 else if j = k * 5 + 2 then .int .i64 x2 else if j = k * 5 + 3 then .int .i64 x3 else if j = k * 5 + 4 then .int .i64 x4 else U j := ⟨_, rfl⟩
      have uk : ∀ j, j < k * 5 → U j = V j := fun j hj => by rw [hV]; simp only []; rw [if_neg (show ¬ j = k * 5 by omega), if_neg (show ¬ j = k * 5 + 1 by omega), if_neg (show ¬ j = k * 5 + 2 by omega), if_neg (show ¬ j = k * 5 + 3 by omega), if_neg (show ¬ j = k * 5 + 4 by omega)]
      have u0' : V (k * 5) = .int .i64 x0 := by rw [hV]; simp
      have u1' : V (k * 5 + 1) = .int .i64 x1 := by rw [hV]; simp
      have u2' : V (k * 5 + 2) = .int .i64 x2 := by rw [hV]; simp
      have u3' : V (k * 5 + 3) = .int .i64 x3 := by rw [hV]; simp
      have u4' : V (k * 5 + 4) = .int .i64 x4 := by rw [hV]; simp
      refine ⟨k + 1, V, by omega, by go_num, ?_, ?_, ?_⟩
      · refine World.rowIs.congr (((((HC1.out.set (k * 5) (.int .i64 x0)).set (k * 5 + 1) (.int .i64 x1)).set (k * 5 + 2) (.int .i64 x2)).set (k * 5 + 3) (.int .i64 x3)).set (k * 5 + 4) (.int .i64 x4)) ?_
        intro j hj
        rcases (show j = k * 5 ∨ j = k * 5 + 1 ∨ j = k * 5 + 2 ∨ j = k * 5 + 3 ∨ j = k * 5 + 4 ∨ j < k * 5 ∨ (k + 1) * 5 ≤ j by omega) with rfl | rfl | rfl | rfl | rfl | h | h
        · rw [if_pos (show k * 5 < (k + 1) * 5 by omega), u0']; simp
        · rw [if_pos (show k * 5 + 1 < (k + 1) * 5 by omega), u1']; simp
        · rw [if_pos (show k * 5 + 2 < (k + 1) * 5 by omega), u2']; simp
        · rw [if_pos (show k * 5 + 3 < (k + 1) * 5 by omega), u3']; simp
        · rw [if_pos (show k * 5 + 4 < (k + 1) * 5 by omega), u4']; simp
        · rw [if_pos (show j < (k + 1) * 5 by omega), if_neg (show ¬ j = k * 5 + 4 by omega), if_neg (show ¬ j = k * 5 + 3 by omega), if_neg (show ¬ j = k * 5 + 2 by omega), if_neg (show ¬ j = k * 5 + 1 by omega), if_neg (show ¬ j = k * 5 by omega), if_pos h, uk j h]
        · rw [if_neg (show ¬ j < (k + 1) * 5 by omega), if_neg (show ¬ j = k * 5 + 4 by omega), if_neg (show ¬ j = k * 5 + 3 by omega), if_neg (show ¬ j = k * 5 + 2 by omega), if_neg (show ¬ j = k * 5 + 1 by omega), if_neg (show ¬ j = k * 5 by omega), if_neg (show ¬ j < k * 5 by omega)]
      · show Rowed _ _ _ _ _ _ _
        have hr : Rowed w1 true W.heap.size cs V (k * 5) (rng (W.heap.size + 1) w1.heap.size) := (HO1.out.congr uk).more (fun x hx => ⟨hx.1, by have := hx.2; omega⟩)
        have hr0 := hr.flat (by rw [u0', E0.out]; exact rfl)
        have hr1 := hr0.flat (by rw [u1', E1.out]; exact rfl)
        have hr2 := hr1.flat (by rw [u2', E2.out]; exact rfl)
        have hr3 := hr2.flat (by rw [u3', E3.out]; exact rfl)
        have hr4 := hr3.flat (by rw [u4', E4.out]; exact rfl)
        rw [show (k + 1) * 5 = k * 5 + 1 + 1 + 1 + 1 + 1 by omega]
        refine Rowed.more (hr4.agree (by simp [World.setCell]) (fun b hb _ => ?_)) (fun x hx => ⟨hx.1, by have := hx.2; simpa [World.setCell] using this⟩)
        have hne : b ≠ W.heap.size := by have := hb.1; omega
        iterate 5 rw [Below.heap_setCell _ _ _ _ (show b ≠ W.heap.size from hne)]
      · show Below _ _ _
        refine Below.trans HB1.out ?_
        go_grown
    case measure => simp [intOf]; omega
set_option maxRecDepth 100000 in
set_option maxHeartbeats 4000000 in
theorem Instr_eq (x0 : Int) (x1 : Int) (x2 : Int) (x3 : Int) (x4 : Int) (c c' : Bool) (W : World) : Calls Try.prog 52 #[.agg #[.int .i64 x0, .int .i64 x1, .int .i64 x2, .int .i64 x3, .int .i64 x4], .agg #[.int .i64 x0, .int .i64 x1, .int .i64 x2, .int .i64 x3, .int .i64 x4]] W fun e W' => e = .returned (.bool true) ∧ Below W.heap.size W W' := by
  have ne0 : (x0 != x0) = false := by simp
  have ne1 : (x1 != x1) = false := by simp
  have ne2 : (x2 != x2) = false := by simp
  have ne3 : (x3 != x3) = false := by simp
  have ne4 : (x4 != x4) = false := by simp
  go_enter Try.func52, Try.ntmps52
  go_wp2
  go_ret
  exact ⟨rfl, by go_grown⟩
set_option maxRecDepth 100000 in
set_option maxHeartbeats 4000000 in
theorem InstrS_eq (a a' : Option Addr) (len cap cap' : Nat) (cs : Nat → Dv) (c c' : Bool) (W : World) (hf : Hid (Fits shInstrS (.l len 5 cs))) (hs : Hid (szD (.l len 5 cs) ≤ 1048576)) (h : Hid (Holds W c (.l len 5 cs) (.slice a len cap))) (h' : Hid (Holds W c' (.l len 5 cs) (.slice a' len cap'))) :
    Calls Try.prog 45 #[.slice a len cap, .slice a' len cap'] W fun e W' => e = .returned (.bool true) ∧ Below W.heap.size W W' := by
  have hlen : len ≤ 1048576 := Nat.le_trans (Nat.le_add_right _ _) hs.out
  go_enter Try.func45, Try.ntmps45
  go_wp2
  go_loopw [5] (fun vi wr => ∃ k : Nat, k ≤ len ∧ vi = .int .i64 k ∧ Hid (Below W.heap.size W wr)) (fun vi _ => len - (intOf vi).toNat)
  case atStart => exact ⟨0, Nat.zero_le _, rfl, Below.refl _ _⟩
  case round =>
    obtain ⟨k, hk, rfl, HB⟩ := hrel
    by_cases hlt : k < len
    rotate_left
    · go_wp2
      go_ret
      exact ⟨rfl, HB.out⟩
    have hltI : (k : Int) < (len : Int) := by omega
    have hkn : (k + 1) * 5 ≤ len * 5 := Nat.mul_le_mul_right _ hlt
    rw [Nat.add_mul] at hkn
    obtain ⟨b, o, ha, hb, hcell⟩ := h.out.cells HB.out (show 0 < len * 5 by omega)
    obtain ⟨b', o', ha', hb', hcell'⟩ := h'.out.cells HB.out (show 0 < len * 5 by omega)
    subst ha ha'
    have hbw : b < wr.heap.size := by have := HB.out.size; omega
    have hbw' : b' < wr.heap.size := by have := HB.out.size; omega
    obtain ⟨u0, d0, q0⟩ := hcell (k * 5) (by omega)
    obtain ⟨v0, g0, r0⟩ := hcell' (k * 5) (by omega)
    obtain ⟨x0, E0⟩ := (hf.out.cell hlt (c := 0) (by decide)).int
    have E0 : cs (k * 5) = .n x0 := E0
    rw [E0] at q0 r0
    have q0 : u0 = .int .i64 x0 := q0
    have r0 : v0 = .int .i64 x0 := r0
    subst q0 r0
    clear E0
    obtain ⟨u1, d1, q1⟩ := hcell (k * 5 + 1) (by omega)
    obtain ⟨v1, g1, r1⟩ := hcell' (k * 5 + 1) (by omega)
    rw [← Nat.add_assoc] at d1 g1
    obtain ⟨x1, E1⟩ := (hf.out.cell hlt (c := 1) (by decide)).int
    have E1 : cs (k * 5 + 1) = .n x1 := E1
    rw [E1] at q1 r1
    have q1 : u1 = .int .i64 x1 := q1
    have r1 : v1 = .int .i64 x1 := r1
    subst q1 r1
    clear E1
    obtain ⟨u2, d2, q2⟩ := hcell (k * 5 + 2) (by omega)
    obtain ⟨v2, g2, r2⟩ := hcell' (k * 5 + 2) (by omega)
    rw [← Nat.add_assoc] at d2 g2
    obtain ⟨x2, E2⟩ := (hf.out.cell hlt (c := 2) (by decide)).int
    have E2 : cs (k * 5 + 2) = .n x2 := E2
    rw [E2] at q2 r2
    have q2 : u2 = .int .i64 x2 := q2
    have r2 : v2 = .int .i64 x2 := r2
    subst q2 r2
    clear E2
    obtain ⟨u3, d3, q3⟩ := hcell (k * 5 + 3) (by omega)
    obtain ⟨v3, g3, r3⟩ := hcell' (k * 5 + 3) (by omega)
    rw [← Nat.add_assoc] at d3 g3
    obtain ⟨x3, E3⟩ := (hf.out.cell hlt (c := 3) (by decide)).int
    have E3 : cs (k * 5 + 3) = .n x3 := E3
    rw [E3] at q3 r3
    have q3 : u3 = .int .i64 x3 := q3
    have r3 : v3 = .int .i64 x3 := r3
    subst q3 r3
    clear E3
    obtain ⟨u4, d4, q4⟩ := hcell (k * 5 + 4) (by omega)
    obtain ⟨v4, g4, r4⟩ := hcell' (k * 5 + 4) (by omega)
    rw [← Nat.add_assoc] at d4 g4
    obtain ⟨x4, E4⟩ := (hf.out.cell hlt (c := 4) (by decide)).int
    have E4 : cs (k * 5 + 4) = .n x4 := E4
    rw [E4] at q4 r4
    have q4 : u4 = .int .i64 x4 := q4
    have r4 : v4 = .int .i64 x4 := r4
    subst q4 r4
    clear E4
    clear hcell hcell'
    have HD : Hid (Below W.heap.size W wr.drew) := HB.out.drew
    go_wp2_with fail
    go_region_with (go_at_call 52; refine (Instr_eq x0 x1 x2 x3 x4 c c' _  ).mono ?_; rintro e w' ⟨rfl, hb⟩; have HX : Hid (Below W.heap.size W w') := HD.out.trans (hb.mono HD.out.size); clear hb)
    all_goals
      go_wp2
      go_roundw
      case rel => exact ⟨k + 1, by omega, by go_num, HX.out⟩
      case measure => simp [intOf]; omega
set_option maxRecDepth 100000 in
set_option maxHeartbeats 4000000 in
theorem InstrS_mark (k0 : Int) (h0 : 0 ≤ k0) (h1 : k0 ≤ 1000000000) (a : Option Addr) (len cap : Nat) (cs : Nat → Dv) (c : Bool) (W : World) (B : Nat) (F : Nat → Prop) (hf : Hid (Fits shInstrS (.l len 5 cs))) (hs : Hid (szD (.l len 5 cs) ≤ 1048576)) (h : Hid (Owns W c B (.l len 5 cs) (.slice a len cap) F)) :
    Calls Try.prog 27 #[.slice a len cap, .int .i64 k0] W fun e W' => e = .returned (.int .i64 (k0 + (cntD (.l len 5 cs) : Nat))) ∧ Owns W' c B (mkD k0 (.l len 5 cs)) (.slice a len cap) F ∧ OnlyF W W' F := by
  have hlen : len ≤ 1048576 := Nat.le_trans (Nat.le_add_right _ _) hs.out
  have hcn : sumTo (fun j => cntD (cs j)) (len * 5) ≤ 8388609 := by have q := cnt_le thin_InstrS hf.out; have q2 := hs.out; simp only [cntD] at q; omega
  have hmo : ∀ m, m ≤ len * 5 → sumTo (fun j => cntD (cs j)) m ≤ 8388609 := fun m hm => Nat.le_trans (sumTo_mono _ _ hm) hcn
  have HMO : Hid (∀ m, m ≤ len * 5 → sumTo (fun j => cntD (cs j)) m ≤ 8388609) := hmo
  clear hcn hmo
  go_enter Try.func27, Try.ntmps27
  go_wp2
  go_loopw [1, 5] (fun vk vi wr => ∃ k : Nat, k ≤ len ∧ vi = .int .i64 k ∧ vk = .int .i64 (k0 + (sumTo (fun j => cntD (cs j)) (k * 5) : Nat)) ∧ Hid (Owns wr c B (.l len 5 (fun j => if j < k * 5 then mkD (k0 + (sumTo (fun j => cntD (cs j)) j : Nat)) (cs j) else cs j)) (.slice a len cap) F) ∧ Hid (OnlyF W wr F)) (fun _ vi _ => len - (intOf vi).toNat)
  case atStart => exact ⟨0, Nat.zero_le _, rfl, by simp [sumTo], h.out.congr (fun i hi => by rw [if_neg (by omega)]), OnlyF.refl _ _⟩
  case round =>
    obtain ⟨k, hk, rfl, rfl, HO, HB⟩ := hrel
    by_cases hlt : k < len
    rotate_left
    · have HK : Hid (k = len) := by show k = len; omega
      go_wp2
      go_ret
      refine ⟨by rw [HK.out]; rfl, ?_, HB.out⟩
      exact HO.out.congr (fun i hi => by rw [if_pos (by rw [HK.out]; exact hi)])
    have hltI : (k : Int) < (len : Int) := by omega
    have hkn : (k + 1) * 5 ≤ len * 5 := Nat.mul_le_mul_right _ hlt
    rw [Nat.add_mul] at hkn
    obtain ⟨b, o, ha, hbw⟩ := HO.out.addr (show 0 < len * 5 by omega)
    subst ha
    have hk1 := HMO.out (k * 5) (by omega)
    obtain ⟨kk, HKK⟩ : ∃ kk : Int, Hid (k0 + (sumTo (fun j => cntD (cs j)) (k * 5) : Nat) = kk) := ⟨_, rfl⟩
    have kk0 : 0 ≤ kk := by have := HKK.out; omega
    have kk1 : kk ≤ 1000000000 + 8388609 := by have := HKK.out; omega
    rw [HKK.out]
    clear hk1
    obtain ⟨x0, E0⟩ := (hf.out.cell hlt (c := 0) (by decide)).int
    have E0 : Hid (cs (k * 5) = .n x0) := E0
    obtain ⟨x1, E1⟩ := (hf.out.cell hlt (c := 1) (by decide)).int
    have E1 : Hid (cs (k * 5 + 1) = .n x1) := E1
    obtain ⟨x2, E2⟩ := (hf.out.cell hlt (c := 2) (by decide)).int
    have E2 : Hid (cs (k * 5 + 2) = .n x2) := E2
    obtain ⟨x3, E3⟩ := (hf.out.cell hlt (c := 3) (by decide)).int
    have E3 : Hid (cs (k * 5 + 3) = .n x3) := E3
    obtain ⟨x4, E4⟩ := (hf.out.cell hlt (c := 4) (by decide)).int
    have E4 : Hid (cs (k * 5 + 4) = .n x4) := E4
    have HO0 : Hid (Owns wr c B (.l len 5 (fun j => if j < k * 5 then mkD (k0 + (sumTo (fun j => cntD (cs j)) j : Nat)) (cs j) else cs j)) (.slice (some ⟨b, o, none⟩) len cap) F) := HO
    clear HO
    obtain ⟨d0, f0, s0⟩ := HO0.out.num (j := k * 5) (y := x0) (by omega) (by show (if _ then _ else _) = _; rw [if_neg (by omega)]; exact E0.out)
    obtain ⟨s0, t0⟩ := s0 (kk)
    have HO1 : Hid (Owns (wr.setCell ⟨b, o + k * 5, none⟩ (.int .i64 (kk))) c B (.l len 5 (updD (fun j => if j < k * 5 then mkD (k0 + (sumTo (fun j => cntD (cs j)) j : Nat)) (cs j) else cs j) (k * 5) (.n (kk)))) (.slice (some ⟨b, o, none⟩) len cap) F) := s0
    have HB1 : Hid (OnlyF W (wr.setCell ⟨b, o + k * 5, none⟩ (.int .i64 (kk))) F) := HB.out.trans t0
    clear s0 t0
    obtain ⟨d1, f1, s1⟩ := HO1.out.num (j := k * 5 + 1) (y := x1) (by omega) (by rw [updD_other _ _ (show k * 5 + 1 ≠ k * 5 by omega)]; show (if _ then _ else _) = _; rw [if_neg (by omega)]; exact E1.out)
    obtain ⟨s1, t1⟩ := s1 (kk + 1)
    rw [← Nat.add_assoc] at d1 f1 s1 t1
    have HO2 : Hid (Owns ((wr.setCell ⟨b, o + k * 5, none⟩ (.int .i64 (kk))).setCell ⟨b, o + k * 5 + 1, none⟩ (.int .i64 (kk + 1))) c B (.l len 5 (updD (updD (fun j => if j < k * 5 then mkD (k0 + (sumTo (fun j => cntD (cs j)) j : Nat)) (cs j) else cs j) (k * 5) (.n (kk))) (k * 5 + 1) (.n (kk + 1)))) (.slice (some ⟨b, o, none⟩) len cap) F) := s1
    have HB2 : Hid (OnlyF W ((wr.setCell ⟨b, o + k * 5, none⟩ (.int .i64 (kk))).setCell ⟨b, o + k * 5 + 1, none⟩ (.int .i64 (kk + 1))) F) := HB1.out.trans t1
    clear s1 t1
    obtain ⟨d2, f2, s2⟩ := HO2.out.num (j := k * 5 + 2) (y := x2) (by omega) (by rw [updD_other _ _ (show k * 5 + 2 ≠ k * 5 + 1 by omega)]; rw [updD_other _ _ (show k * 5 + 2 ≠ k * 5 by omega)]; show (if _ then _ else _) = _; rw [if_neg (by omega)]; exact E2.out)
    obtain ⟨s2, t2⟩ := s2 (kk + 1 + 1)
    rw [← Nat.add_assoc] at d2 f2 s2 t2
    have HO3 : Hid (Owns (((wr.setCell ⟨b, o + k * 5, none⟩ (.int .i64 (kk))).setCell ⟨b, o + k * 5 + 1, none⟩ (.int .i64 (kk + 1))).setCell ⟨b, o + k * 5 + 2, none⟩ (.int .i64 (kk + 1 + 1))) c B (.l len 5 (updD (updD (updD (fun j => if j < k * 5 then mkD (k0 + (sumTo (fun j => cntD (cs j)) j : Nat)) (cs j) else cs j) (k * 5) (.n (kk))) (k * 5 + 1) (.n (kk + 1))) (k * 5 + 2) (.n (kk + 1 + 1)))) (.slice (some ⟨b, o, none⟩) len cap) F) := s2
    have HB3 : Hid (OnlyF W (((wr.setCell ⟨b, o + k * 5, none⟩ (.int .i64 (kk))).setCell ⟨b, o + k * 5 + 1, none⟩ (.int .i64 (kk + 1))).setCell ⟨b, o + k * 5 + 2, none⟩ (.int .i64 (kk + 1 + 1))) F) := HB2.out.trans t2
    clear s2 t2
    obtain ⟨d3, f3, s3⟩ := HO3.out.num (j := k * 5 + 3) (y := x3) (by omega) (by rw [updD_other _ _ (show k * 5 + 3 ≠ k * 5 + 2 by omega)]; rw [updD_other _ _ (show k * 5 + 3 ≠ k * 5 + 1 by omega)]; rw [updD_other _ _ (show k * 5 + 3 ≠ k * 5 by omega)]; show (if _ then _ else _) = _; rw [if_neg (by omega)]; exact E3.out)
    obtain ⟨s3, t3⟩ := s3 (kk + 1 + 1 + 1)
    rw [← Nat.add_assoc] at d3 f3 s3 t3
    have HO4 : Hid (Owns ((((wr.setCell ⟨b, o + k * 5, none⟩ (.int .i64 (kk))).setCell ⟨b, o + k * 5 + 1, none⟩ (.int .i64 (kk + 1))).setCell ⟨b, o + k * 5 + 2, none⟩ (.int .i64 (kk + 1 + 1))).setCell ⟨b, o + k * 5 + 3, none⟩ (.int .i64 (kk + 1 + 1 + 1))) c B (.l len 5 (updD (updD (updD (updD (fun j => if j < k * 5 then mkD (k0 + (sumTo (fun j => cntD (cs j)) j : Nat)) (cs j) else cs j) (k * 5) (.n (kk))) (k * 5 + 1) (.n (kk + 1))) (k * 5 + 2) (.n (kk + 1 + 1))) (k * 5 + 3) (.n (kk + 1 + 1 + 1)))) (.slice (some ⟨b, o, none⟩) len cap) F) := s3
    have HB4 : Hid (OnlyF W ((((wr.setCell ⟨b, o + k * 5, none⟩ (.int .i64 (kk))).setCell ⟨b, o + k * 5 + 1, none⟩ (.int .i64 (kk + 1))).setCell ⟨b, o + k * 5 + 2, none⟩ (.int .i64 (kk + 1 + 1))).setCell ⟨b, o + k * 5 + 3, none⟩ (.int .i64 (kk + 1 + 1 + 1))) F) := HB3.out.trans t3
    clear s3 t3
    obtain ⟨d4, f4, s4⟩ := HO4.out.num (j := k * 5 + 4) (y := x4) (by omega) (by rw [updD_other _ _ (show k * 5 + 4 ≠ k * 5 + 3 by omega)]; rw [updD_other _ _ (show k * 5 + 4 ≠ k * 5 + 2 by omega)]; rw [updD_other _ _ (show k * 5 + 4 ≠ k * 5 + 1 by omega)]; rw [updD_other _ _ (show k * 5 + 4 ≠ k * 5 by omega)]; show (if _ then _ else _) = _; rw [if_neg (by omega)]; exact E4.out)
    obtain ⟨s4, t4⟩ := s4 (kk + 1 + 1 + 1 + 1)
    rw [← Nat.add_assoc] at d4 f4 s4 t4
    have HO5 : Hid (Owns (((((wr.setCell ⟨b, o + k * 5, none⟩ (.int .i64 (kk))).setCell ⟨b, o + k * 5 + 1, none⟩ (.int .i64 (kk + 1))).setCell ⟨b, o + k * 5 + 2, none⟩ (.int .i64 (kk + 1 + 1))).setCell ⟨b, o + k * 5 + 3, none⟩ (.int .i64 (kk + 1 + 1 + 1))).setCell ⟨b, o + k * 5 + 4, none⟩ (.int .i64 (kk + 1 + 1 + 1 + 1))) c B (.l len 5 (updD (updD (updD (updD (updD (fun j => if j < k * 5 then mkD (k0 + (sumTo (fun j => cntD (cs j)) j : Nat)) (cs j) else cs j) (k * 5) (.n (kk))) (k * 5 + 1) (.n (kk + 1))) (k * 5 + 2) (.n (kk + 1 + 1))) (k * 5 + 3) (.n (kk + 1 + 1 + 1))) (k * 5 + 4) (.n (kk + 1 + 1 + 1 + 1)))) (.slice (some ⟨b, o, none⟩) len cap) F) := s4
    have HB5 : Hid (OnlyF W (((((wr.setCell ⟨b, o + k * 5, none⟩ (.int .i64 (kk))).setCell ⟨b, o + k * 5 + 1, none⟩ (.int .i64 (kk + 1))).setCell ⟨b, o + k * 5 + 2, none⟩ (.int .i64 (kk + 1 + 1))).setCell ⟨b, o + k * 5 + 3, none⟩ (.int .i64 (kk + 1 + 1 + 1))).setCell ⟨b, o + k * 5 + 4, none⟩ (.int .i64 (kk + 1 + 1 + 1 + 1))) F) := HB4.out.trans t4
    clear s4 t4
    go_wp2
    go_roundw
    case rel =>
      have e1 : sumTo (fun j => cntD (cs j)) ((k + 1) * 5) = sumTo (fun j => cntD (cs j)) (k * 5) + cntD (cs (k * 5)) + cntD (cs (k * 5 + 1)) + cntD (cs (k * 5 + 2)) + cntD (cs (k * 5 + 3)) + cntD (cs (k * 5 + 4)) := by rw [show (k + 1) * 5 = k * 5 + 1 + 1 + 1 + 1 + 1 by omega]; rfl
      have n0 : cntD (cs (k * 5)) = 1 := by rw [E0.out]; exact rfl
      have n1 : cntD (cs (k * 5 + 1)) = 1 := by rw [E1.out]; exact rfl
      have n2 : cntD (cs (k * 5 + 2)) = 1 := by rw [E2.out]; exact rfl
      have n3 : cntD (cs (k * 5 + 3)) = 1 := by rw [E3.out]; exact rfl
      have n4 : cntD (cs (k * 5 + 4)) = 1 := by rw [E4.out]; exact rfl
      have m1 : sumTo (fun j => cntD (cs j)) (k * 5 + 1) = sumTo (fun j => cntD (cs j)) (k * 5) + cntD (cs (k * 5)) := rfl
      have m2 : sumTo (fun j => cntD (cs j)) (k * 5 + 2) = sumTo (fun j => cntD (cs j)) (k * 5) + cntD (cs (k * 5)) + cntD (cs (k * 5 + 1)) := rfl
      have m3 : sumTo (fun j => cntD (cs j)) (k * 5 + 3) = sumTo (fun j => cntD (cs j)) (k * 5) + cntD (cs (k * 5)) + cntD (cs (k * 5 + 1)) + cntD (cs (k * 5 + 2)) := rfl
      have m4 : sumTo (fun j => cntD (cs j)) (k * 5 + 4) = sumTo (fun j => cntD (cs j)) (k * 5) + cntD (cs (k * 5)) + cntD (cs (k * 5 + 1)) + cntD (cs (k * 5 + 2)) + cntD (cs (k * 5 + 3)) := rfl
      have hkk := HKK.out
      refine ⟨k + 1, by omega, by go_num, ?_, ?_, HB5⟩
      · rw [e1, n0, n1, n2, n3, n4]
        congr 1
        omega
      · refine HO5.out.congr ?_
        intro j hj
        rcases (show j = k * 5 ∨ j = k * 5 + 1 ∨ j = k * 5 + 2 ∨ j = k * 5 + 3 ∨ j = k * 5 + 4 ∨ j < k * 5 ∨ (k + 1) * 5 ≤ j by omega) with e0 | e0 | e0 | e0 | e0 | h | h
        · rw [e0, if_pos (show k * 5 < (k + 1) * 5 by omega), updD_other _ _ (show k * 5 ≠ k * 5 + 4 by omega), updD_other _ _ (show k * 5 ≠ k * 5 + 3 by omega), updD_other _ _ (show k * 5 ≠ k * 5 + 2 by omega), updD_other _ _ (show k * 5 ≠ k * 5 + 1 by omega), updD_same, E0.out]
          rw [show k0 + (sumTo (fun j => cntD (cs j)) (k * 5) : Nat) = kk by omega]
          rfl
        · rw [e0, if_pos (show k * 5 + 1 < (k + 1) * 5 by omega), updD_other _ _ (show k * 5 + 1 ≠ k * 5 + 4 by omega), updD_other _ _ (show k * 5 + 1 ≠ k * 5 + 3 by omega), updD_other _ _ (show k * 5 + 1 ≠ k * 5 + 2 by omega), updD_same, E1.out]
          rw [show k0 + (sumTo (fun j => cntD (cs j)) (k * 5 + 1) : Nat) = kk + 1 by rw [m1, n0]; omega]
          rfl
        · rw [e0, if_pos (show k * 5 + 2 < (k + 1) * 5 by omega), updD_other _ _ (show k * 5 + 2 ≠ k * 5 + 4 by omega), updD_other _ _ (show k * 5 + 2 ≠ k * 5 + 3 by omega), updD_same, E2.out]
          rw [show k0 + (sumTo (fun j => cntD (cs j)) (k * 5 + 2) : Nat) = kk + 1 + 1 by rw [m2, n0, n1]; omega]
          rfl
        · rw [e0, if_pos (show k * 5 + 3 < (k + 1) * 5 by omega), updD_other _ _ (show k * 5 + 3 ≠ k * 5 + 4 by omega), updD_same, E3.out]
          rw [show k0 + (sumTo (fun j => cntD (cs j)) (k * 5 + 3) : Nat) = kk + 1 + 1 + 1 by rw [m3, n0, n1, n2]; omega]
          rfl
        · rw [e0, if_pos (show k * 5 + 4 < (k + 1) * 5 by omega), updD_same, E4.out]
          rw [show k0 + (sumTo (fun j => cntD (cs j)) (k * 5 + 4) : Nat) = kk + 1 + 1 + 1 + 1 by rw [m4, n0, n1, n2, n3]; omega]
          rfl
        · rw [updD_other _ _ (show j ≠ k * 5 + 4 by omega), updD_other _ _ (show j ≠ k * 5 + 3 by omega), updD_other _ _ (show j ≠ k * 5 + 2 by omega), updD_other _ _ (show j ≠ k * 5 + 1 by omega), updD_other _ _ (show j ≠ k * 5 by omega), if_pos h, if_pos (show j < (k + 1) * 5 by omega)]
        · rw [updD_other _ _ (show j ≠ k * 5 + 4 by omega), updD_other _ _ (show j ≠ k * 5 + 3 by omega), updD_other _ _ (show j ≠ k * 5 + 2 by omega), updD_other _ _ (show j ≠ k * 5 + 1 by omega), updD_other _ _ (show j ≠ k * 5 by omega), if_neg (show ¬ j < k * 5 by omega), if_neg (show ¬ j < (k + 1) * 5 by omega)]
    case measure => simp [intOf]; omega
set_option maxRecDepth 100000 in
set_option maxHeartbeats 4000000 in
theorem InstrS_held (k0 : Int) (h0 : 0 ≤ k0) (a : Option Addr) (len cap : Nat) (cs : Nat → Dv) (c : Bool) (W : World) (hf : Hid (Fits shInstrS (.l len 5 cs))) (hs : Hid (szD (.l len 5 cs) ≤ 1048576)) (h1 : k0 + (cntD (.l len 5 cs) : Nat) ≤ 16777216) (h : Hid (Holds W c (mkD k0 (.l len 5 cs)) (.slice a len cap))) :
    Calls Try.prog 28 #[.slice a len cap, .int .i64 k0] W fun e W' => e = .returned (.int .i64 (k0 + (cntD (.l len 5 cs) : Nat))) ∧ W' = W := by
  have hlen : len ≤ 1048576 := Nat.le_trans (Nat.le_add_right _ _) hs.out
  have hmo : ∀ m, m ≤ len * 5 → k0 + (sumTo (fun j => cntD (cs j)) m : Nat) ≤ 16777216 := fun m hm => by have q := sumTo_mono (fun j => cntD (cs j)) _ hm; have q2 : k0 + (sumTo (fun j => cntD (cs j)) (len * 5) : Nat) ≤ 16777216 := h1; omega
  have HMO : Hid (∀ m, m ≤ len * 5 → k0 + (sumTo (fun j => cntD (cs j)) m : Nat) ≤ 16777216) := hmo
  clear hmo h1
  have H : Hid (Holds W c (.l len 5 (fun j => mkD (k0 + (sumTo (fun j => cntD (cs j)) j : Nat)) (cs j))) (.slice a len cap)) := h
  clear h
  go_enter Try.func28, Try.ntmps28
  go_wp2
  go_loop [1, 5] (fun vk vi => ∃ k : Nat, k ≤ len ∧ vi = .int .i64 k ∧ vk = .int .i64 (k0 + (sumTo (fun j => cntD (cs j)) (k * 5) : Nat))) (fun _ vi => len - (intOf vi).toNat)
  case atStart => exact ⟨0, Nat.zero_le _, rfl, by simp [sumTo]⟩
  case round =>
    obtain ⟨k, hk, rfl, rfl⟩ := hrel
    by_cases hlt : k < len
    rotate_left
    · have HK : Hid (k = len) := by show k = len; omega
      go_wp2
      go_ret
      exact ⟨by rw [HK.out]; rfl, rfl⟩
    have hltI : (k : Int) < (len : Int) := by omega
    have hkn : (k + 1) * 5 ≤ len * 5 := Nat.mul_le_mul_right _ hlt
    rw [Nat.add_mul] at hkn
    obtain ⟨b, o, ha, hb, hcell⟩ := H.out.cells (Below.refl _ _) (show 0 < len * 5 by omega)
    subst ha
    have hk1 := HMO.out (k * 5) (by omega)
    have HLAST := HMO.out ((k + 1) * 5) (by omega)
    obtain ⟨kk, HKK⟩ : ∃ kk : Int, Hid (k0 + (sumTo (fun j => cntD (cs j)) (k * 5) : Nat) = kk) := ⟨_, rfl⟩
    have kk0 : 0 ≤ kk := by have := HKK.out; omega
    have kk1 : kk ≤ 16777216 := by have := HKK.out; omega
    rw [HKK.out]
    clear hk1
    have e1 : sumTo (fun j => cntD (cs j)) ((k + 1) * 5) = sumTo (fun j => cntD (cs j)) (k * 5) + cntD (cs (k * 5)) + cntD (cs (k * 5 + 1)) + cntD (cs (k * 5 + 2)) + cntD (cs (k * 5 + 3)) + cntD (cs (k * 5 + 4)) := by rw [show (k + 1) * 5 = k * 5 + 1 + 1 + 1 + 1 + 1 by omega]; rfl
    obtain ⟨x0, E0⟩ := (hf.out.cell hlt (c := 0) (by decide)).int
    have E0 : cs (k * 5) = .n x0 := E0
    have n0 : cntD (cs (k * 5)) = 1 := by rw [E0]; rfl
    obtain ⟨u0, d0, q0⟩ := hcell (k * 5) (by omega)
    have v0 : k0 + (sumTo (fun j => cntD (cs j)) (k * 5) : Nat) = kk := by have q := HKK.out; exact q
    rw [v0, E0] at q0
    have q0 : u0 = .int .i64 (kk) := q0
    subst q0
    obtain ⟨x1, E1⟩ := (hf.out.cell hlt (c := 1) (by decide)).int
    have E1 : cs (k * 5 + 1) = .n x1 := E1
    have n1 : cntD (cs (k * 5 + 1)) = 1 := by rw [E1]; rfl
    obtain ⟨u1, d1, q1⟩ := hcell (k * 5 + 1) (by omega)
    rw [← Nat.add_assoc] at d1
    have m1 : sumTo (fun j => cntD (cs j)) (k * 5 + 1) = sumTo (fun j => cntD (cs j)) (k * 5) + cntD (cs (k * 5)) := rfl
    have v1 : k0 + (sumTo (fun j => cntD (cs j)) (k * 5 + 1) : Nat) = kk + 1 := by have q := HKK.out; rw [m1, n0]; omega
    rw [v1, E1] at q1
    have q1 : u1 = .int .i64 (kk + 1) := q1
    subst q1
    obtain ⟨x2, E2⟩ := (hf.out.cell hlt (c := 2) (by decide)).int
    have E2 : cs (k * 5 + 2) = .n x2 := E2
    have n2 : cntD (cs (k * 5 + 2)) = 1 := by rw [E2]; rfl
    obtain ⟨u2, d2, q2⟩ := hcell (k * 5 + 2) (by omega)
    rw [← Nat.add_assoc] at d2
    have m2 : sumTo (fun j => cntD (cs j)) (k * 5 + 2) = sumTo (fun j => cntD (cs j)) (k * 5) + cntD (cs (k * 5)) + cntD (cs (k * 5 + 1)) := rfl
    have v2 : k0 + (sumTo (fun j => cntD (cs j)) (k * 5 + 2) : Nat) = kk + 1 + 1 := by have q := HKK.out; rw [m2, n0, n1]; omega
    rw [v2, E2] at q2
    have q2 : u2 = .int .i64 (kk + 1 + 1) := q2
    subst q2
    obtain ⟨x3, E3⟩ := (hf.out.cell hlt (c := 3) (by decide)).int
    have E3 : cs (k * 5 + 3) = .n x3 := E3
    have n3 : cntD (cs (k * 5 + 3)) = 1 := by rw [E3]; rfl
    obtain ⟨u3, d3, q3⟩ := hcell (k * 5 + 3) (by omega)
    rw [← Nat.add_assoc] at d3
    have m3 : sumTo (fun j => cntD (cs j)) (k * 5 + 3) = sumTo (fun j => cntD (cs j)) (k * 5) + cntD (cs (k * 5)) + cntD (cs (k * 5 + 1)) + cntD (cs (k * 5 + 2)) := rfl
    have v3 : k0 + (sumTo (fun j => cntD (cs j)) (k * 5 + 3) : Nat) = kk + 1 + 1 + 1 := by have q := HKK.out; rw [m3, n0, n1, n2]; omega
    rw [v3, E3] at q3
    have q3 : u3 = .int .i64 (kk + 1 + 1 + 1) := q3
    subst q3
    obtain ⟨x4, E4⟩ := (hf.out.cell hlt (c := 4) (by decide)).int
    have E4 : cs (k * 5 + 4) = .n x4 := E4
    have n4 : cntD (cs (k * 5 + 4)) = 1 := by rw [E4]; rfl
    obtain ⟨u4, d4, q4⟩ := hcell (k * 5 + 4) (by omega)
    rw [← Nat.add_assoc] at d4
    have m4 : sumTo (fun j => cntD (cs j)) (k * 5 + 4) = sumTo (fun j => cntD (cs j)) (k * 5) + cntD (cs (k * 5)) + cntD (cs (k * 5 + 1)) + cntD (cs (k * 5 + 2)) + cntD (cs (k * 5 + 3)) := rfl
    have v4 : k0 + (sumTo (fun j => cntD (cs j)) (k * 5 + 4) : Nat) = kk + 1 + 1 + 1 + 1 := by have q := HKK.out; rw [m4, n0, n1, n2, n3]; omega
    rw [v4, E4] at q4
    have q4 : u4 = .int .i64 (kk + 1 + 1 + 1 + 1) := q4
    subst q4
    rw [e1, n0, n1, n2, n3, n4] at HLAST
    have LAST : kk + 1 + 1 + 1 + 1 + 1 ≤ 16777216 := by have q := HKK.out; omega
    have HE : Hid (kk + 1 + 1 + 1 + 1 + 1 = k0 + (sumTo (fun j => cntD (cs j)) ((k + 1) * 5) : Nat)) := by show _ = _; rw [e1, n0, n1, n2, n3, n4]; have q := HKK.out; omega
    clear HLAST hcell e1 v0 n0 E0 v1 n1 E1 v2 n2 E2 v3 n3 E3 v4 n4 E4 m1 m2 m3 m4
    go_wp2
    go_round
    case rel => exact ⟨k + 1, by omega, by go_num, by rw [← HE.out]⟩
    case measure => simp [intOf]; omega
set_option maxRecDepth 100000 in
set_option maxHeartbeats 4000000 in
theorem InstrS_size (a : Option Addr) (len cap : Nat) (cs : Nat → Dv) (l : Int) (W : World) (hf : Hid (Fits shInstrS (.l len 5 cs))) (hl : Hid (Lens (.l len 5 cs))) (h0 : 0 ≤ l) (h1 : l ≤ 1048576) :
    Calls Try.prog 32 #[.slice a len cap, .int .i64 l] W fun e W' => e = .returned (.int .i64 (if (szD (.l len 5 cs) : Int) ≤ l then l - (szD (.l len 5 cs) : Int) else -1)) ∧ W' = W := by
  have hc : szD (.l len 5 cs) = len := by
    show len + sumTo _ _ = _
    rw [sz_none (fun i hi => by
      have q := hf.out.2 i hi
      have hm : i % 5 < 5 := Nat.mod_lt _ (by decide)
      generalize i % 5 = m at q hm
      match m, hm, q with
      | 0, _, q => obtain ⟨x, hx⟩ := Fits.int q; rw [hx]; rfl
      | 1, _, q => obtain ⟨x, hx⟩ := Fits.int q; rw [hx]; rfl
      | 2, _, q => obtain ⟨x, hx⟩ := Fits.int q; rw [hx]; rfl
      | 3, _, q => obtain ⟨x, hx⟩ := Fits.int q; rw [hx]; rfl
      | 4, _, q => obtain ⟨x, hx⟩ := Fits.int q; rw [hx]; rfl
      | m + 5, hm, _ => omega)]; omega
  have hm := hl.out.1
  unfold maxLen at hm
  rw [hc]
  by_cases h : (len : Int) ≤ l
  · rw [if_pos h]
    go_enter Try.func32, Try.ntmps32
    go_wp2
    go_ret
    exact ⟨rfl, rfl⟩
  · rw [if_neg h]
    have h' : l < (len : Int) := by omega
    clear h
    go_enter Try.func32, Try.ntmps32
    go_wp2
    go_ret
    exact ⟨rfl, rfl⟩
def shBlockS : Sh := .l 4 (fun i => match i with | 0 => shInstrS | 1 => .n | 2 => .n | _ => .n)
theorem thin_BlockS : Thin shBlockS := ⟨by decide, fun i => by
  show Thin (match i with | 0 => shInstrS | 1 => .n | 2 => .n | _ => .n)
  split
  · exact thin_InstrS
  · exact trivial
  · exact trivial
  · exact trivial⟩
set_option maxRecDepth 100000 in
set_option maxHeartbeats 4000000 in
theorem Block_to (a0 : Option Addr) (l0 c0 : Nat) (cs0 : Nat → Dv) (x1 : Int) (x2 : Int) (x3 : Int) (c : Bool) (W : World) (hf0 : Hid (Fits shInstrS (.l l0 5 cs0))) (hs0 : Hid (szD (.l l0 5 cs0) ≤ 1048576)) (h0 : Hid (Holds W c (.l l0 5 cs0) (.slice a0 l0 c0))) : Calls Try.prog 21 #[.agg #[.slice a0 l0 c0, .int .i64 x1, .int .i64 x2, .int .i64 x3]] W fun e W' => ∃ g0, e = .returned (.agg #[.slice (some ⟨g0, 0, none⟩) l0 l0, .int .i64 x1, .int .i64 x2, .int .i64 x3]) ∧ Owns W' true W.heap.size (.l l0 5 cs0) (.slice (some ⟨g0, 0, none⟩) l0 l0) (rng W.heap.size W'.heap.size) ∧ W.heap.size ≤ W'.heap.size ∧ Below W.heap.size W W' := by
  go_enter Try.func21, Try.ntmps21
  obtain ⟨X0, EX0⟩ : ∃ X, X = ((W.alloc (.cells #[.slice a0 l0 c0, .int .i64 x1, .int .i64 x2, .int .i64 x3] 41)).alloc (.cells #[.slice none 0 0, .int .i64 0, .int .i64 0, .int .i64 0] 46)).alloc (.cells #[.slice none 0 0, .int .i64 0, .int .i64 0, .int .i64 0] 46) := ⟨_, rfl⟩
  have RA : Hid (X0.rowIs W.heap.size 41 4 (rowF [.slice a0 l0 c0, .int .i64 x1, .int .i64 x2, .int .i64 x3])) := by rw [EX0]; exact ((row_of W #[.slice a0 l0 c0, .int .i64 x1, .int .i64 x2, .int .i64 x3] 41).alloc _).alloc _
  have RR : Hid (X0.rowIs (W.heap.size + 1) 46 4 (rowF [.slice none 0 0, .int .i64 0, .int .i64 0, .int .i64 0])) := by
    rw [EX0]
    have q := (row_of (W.alloc (.cells #[.slice a0 l0 c0, .int .i64 x1, .int .i64 x2, .int .i64 x3] 41)) #[.slice none 0 0, .int .i64 0, .int .i64 0, .int .i64 0] 46)
    rw [show (W.alloc (.cells #[.slice a0 l0 c0, .int .i64 x1, .int .i64 x2, .int .i64 x3] 41)).heap.size = W.heap.size + 1 by simp] at q
    exact q.alloc _
  have RO : Hid (X0.rowIs (W.heap.size + 1 + 1) 46 4 (rowF [.slice none 0 0, .int .i64 0, .int .i64 0, .int .i64 0])) := by
    rw [EX0]
    have q := (row_of ((W.alloc (.cells #[.slice a0 l0 c0, .int .i64 x1, .int .i64 x2, .int .i64 x3] 41)).alloc (.cells #[.slice none 0 0, .int .i64 0, .int .i64 0, .int .i64 0] 46)) #[.slice none 0 0, .int .i64 0, .int .i64 0, .int .i64 0] 46)
    rw [show ((W.alloc (.cells #[.slice a0 l0 c0, .int .i64 x1, .int .i64 x2, .int .i64 x3] 41)).alloc (.cells #[.slice none 0 0, .int .i64 0, .int .i64 0, .int .i64 0] 46)).heap.size = W.heap.size + 1 + 1 by simp] at q
    exact q
  have B0 : Hid (Below W.heap.size W X0) := by rw [EX0]; show Below _ _ _; go_grown
  have s0 : X0.heap.size = W.heap.size + 1 + 1 + 1 := by rw [EX0]; simp
  have x_0 : X0.cell? ⟨W.heap.size, 0, none⟩ = some (.slice a0 l0 c0) := RA.out.cell (i := 0) (by decide)
  have x_1 : X0.cell? ⟨W.heap.size, 1, none⟩ = some (.int .i64 x1) := RA.out.cell (i := 1) (by decide)
  have x_2 : X0.cell? ⟨W.heap.size, 2, none⟩ = some (.int .i64 x2) := RA.out.cell (i := 2) (by decide)
  have x_3 : X0.cell? ⟨W.heap.size, 3, none⟩ = some (.int .i64 x3) := RA.out.cell (i := 3) (by decide)
  have o_0 : X0.cell? ⟨W.heap.size + 1 + 1, 0, none⟩ = some (.slice none 0 0) := RO.out.cell (i := 0) (by decide)
  have p_0 : X0.frozen? ⟨W.heap.size + 1 + 1, 0, none⟩ = false := RO.out.frozen 0
  have o_1 : X0.cell? ⟨W.heap.size + 1 + 1, 1, none⟩ = some (.int .i64 0) := RO.out.cell (i := 1) (by decide)
  have p_1 : X0.frozen? ⟨W.heap.size + 1 + 1, 1, none⟩ = false := RO.out.frozen 1
  have o_2 : X0.cell? ⟨W.heap.size + 1 + 1, 2, none⟩ = some (.int .i64 0) := RO.out.cell (i := 2) (by decide)
  have p_2 : X0.frozen? ⟨W.heap.size + 1 + 1, 2, none⟩ = false := RO.out.frozen 2
  have o_3 : X0.cell? ⟨W.heap.size + 1 + 1, 3, none⟩ = some (.int .i64 0) := RO.out.cell (i := 3) (by decide)
  have p_3 : X0.frozen? ⟨W.heap.size + 1 + 1, 3, none⟩ = false := RO.out.frozen 3
  go_wp2_with fail
  rw [← EX0]
  clear x_0 o_0 p_0 x_1 o_1 p_1 x_2 o_2 p_2 x_3 o_3 p_3
  refine (InstrS_to _ _ _ cs0 c _ hf0 hs0 (h0.out.kept B0.out)).mono ?_
  rintro e w0 ⟨rfl, hO, hB⟩
  have O0 : Hid (Owns w0 true X0.heap.size (.l l0 5 cs0) (.slice (some ⟨X0.heap.size, 0, none⟩) l0 l0) (rng X0.heap.size w0.heap.size)) := hO
  have sz0 : X0.heap.size ≤ w0.heap.size := hB.size
  have HA0 : Hid (w0.rowIs W.heap.size 41 4 (rowF [.slice a0 l0 c0, .int .i64 x1, .int .i64 x2, .int .i64 x3])) := RA.out.of_block (hB.block _ RA.out.lt)
  have HR0 : Hid (w0.rowIs (W.heap.size + 1) 46 4 (rowF [.slice none 0 0, .int .i64 0, .int .i64 0, .int .i64 0])) := RR.out.of_block (hB.block _ RR.out.lt)
  have HO0 : Hid (w0.rowIs (W.heap.size + 1 + 1) 46 4 (rowF [.slice none 0 0, .int .i64 0, .int .i64 0, .int .i64 0])) := RO.out.of_block (hB.block _ RO.out.lt)
  have BB0 : Hid (Below W.heap.size W w0) := B0.out.trans (hB.mono B0.out.size)
  have lt0 : W.heap.size + 1 + 1 < w0.heap.size := HO0.out.lt
  have wl0 : W.heap.size + 1 + 1 < X0.heap.size := RO.out.lt
  obtain ⟨G0, hG0⟩ : ∃ g, X0.heap.size = g := ⟨_, rfl⟩
  rw [hG0] at O0 sz0 wl0 ⊢
  clear hO hB
  have x_dummy := True.intro
  have x_1 : w0.cell? ⟨W.heap.size, 1, none⟩ = some (.int .i64 x1) := HA0.out.cell (i := 1) (by decide)
  have x_2 : w0.cell? ⟨W.heap.size, 2, none⟩ = some (.int .i64 x2) := HA0.out.cell (i := 2) (by decide)
  have x_3 : w0.cell? ⟨W.heap.size, 3, none⟩ = some (.int .i64 x3) := HA0.out.cell (i := 3) (by decide)
  have o_0 : w0.cell? ⟨W.heap.size + 1 + 1, 0, none⟩ = some (.slice none 0 0) := HO0.out.cell (i := 0) (by decide)
  have p_0 : w0.frozen? ⟨W.heap.size + 1 + 1, 0, none⟩ = false := HO0.out.frozen 0
  have o_1 : w0.cell? ⟨W.heap.size + 1 + 1, 1, none⟩ = some (.int .i64 0) := HO0.out.cell (i := 1) (by decide)
  have p_1 : w0.frozen? ⟨W.heap.size + 1 + 1, 1, none⟩ = false := HO0.out.frozen 1
  have o_2 : w0.cell? ⟨W.heap.size + 1 + 1, 2, none⟩ = some (.int .i64 0) := HO0.out.cell (i := 2) (by decide)
  have p_2 : w0.frozen? ⟨W.heap.size + 1 + 1, 2, none⟩ = false := HO0.out.frozen 2
  have o_3 : w0.cell? ⟨W.heap.size + 1 + 1, 3, none⟩ = some (.int .i64 0) := HO0.out.cell (i := 3) (by decide)
  have p_3 : w0.frozen? ⟨W.heap.size + 1 + 1, 3, none⟩ = false := HO0.out.frozen 3
  have r_0 : w0.cell? ⟨W.heap.size + 1, 0, none⟩ = some (.slice none 0 0) := HR0.out.cell (i := 0) (by decide)
  have t_0 : w0.frozen? ⟨W.heap.size + 1, 0, none⟩ = false := HR0.out.frozen 0
  have r_1 : w0.cell? ⟨W.heap.size + 1, 1, none⟩ = some (.int .i64 0) := HR0.out.cell (i := 1) (by decide)
  have t_1 : w0.frozen? ⟨W.heap.size + 1, 1, none⟩ = false := HR0.out.frozen 1
  have r_2 : w0.cell? ⟨W.heap.size + 1, 2, none⟩ = some (.int .i64 0) := HR0.out.cell (i := 2) (by decide)
  have t_2 : w0.frozen? ⟨W.heap.size + 1, 2, none⟩ = false := HR0.out.frozen 2
  have r_3 : w0.cell? ⟨W.heap.size + 1, 3, none⟩ = some (.int .i64 0) := HR0.out.cell (i := 3) (by decide)
  have t_3 : w0.frozen? ⟨W.heap.size + 1, 3, none⟩ = false := HR0.out.frozen 3
  go_wp2
  skip
  refine bodyPost_ret (v := .agg #[.slice (some ⟨G0, 0, none⟩) l0 l0, .int .i64 x1, .int .i64 x2, .int .i64 x3]) (by simp only [results, Try.results21]; go_simp) rfl ⟨G0, rfl, ?_, ?_, ?_⟩
  · refine Owns.more (F := rng G0 w0.heap.size) ?_ (fun x hx => ⟨by have := hx.1; omega, by have := hx.2; simpa [World.setCell] using this⟩)
    iterate 8 refine far_set (by omega) ?_
    exact O0.out.low (by omega)
  · simp [World.setCell]; omega
  · refine Below.trans BB0.out ?_
    iterate 8 refine Below.setCell ?_ (by simp; try omega) _
    exact Below.refl _ _
theorem BlockS_info : (Try.prog.info? 46).map (fun i => (i.zero, i.size, i.bytes)) = some (some (.agg #[.slice none 0 0, .int .i64 0, .int .i64 0, .int .i64 0]), 4, 48) := by kernel_rfl
def BlockS_zero (i : Nat) : Value := rowF [.slice none 0 0, .int .i64 0, .int .i64 0, .int .i64 0] i
theorem BlockS_made (n i : Nat) (hi : i < n) : (madeCells #[.slice none 0 0, .int .i64 0, .int .i64 0, .int .i64 0] n)[i]? = some (BlockS_zero (i % 4)) := by
  have h : i % 4 < 4 := Nat.mod_lt _ (by decide)
  simp only [madeCells, Array.getElem?_map, Array.getElem?_range, hi, if_true, Option.map_some, BlockS_zero]
  generalize i % 4 = j at h
  congr 1
  match j, h with
  | 0, _ => rfl
  | 1, _ => rfl
  | 2, _ => rfl
  | 3, _ => rfl
  | j + 4, h => omega
set_option maxRecDepth 100000 in
set_option maxHeartbeats 4000000 in
theorem BlockS_to (a : Option Addr) (len cap : Nat) (cs : Nat → Dv) (c : Bool) (W : World) (hf : Hid (Fits shBlockS (.l len 4 cs))) (hs : Hid (szD (.l len 4 cs) ≤ 1048576)) (h : Hid (Holds W c (.l len 4 cs) (.slice a len cap))) :
    Calls Try.prog 7 #[.slice a len cap] W fun e W' => e = .returned (.slice (some ⟨W.heap.size, 0, none⟩) len len) ∧ Owns W' true W.heap.size (.l len 4 cs) (.slice (some ⟨W.heap.size, 0, none⟩) len len) (rng W.heap.size W'.heap.size) ∧ Below W.heap.size W W' := by
  have hlen : len ≤ 1048576 := Nat.le_trans (Nat.le_add_right _ _) hs.out
  obtain ⟨i0, hi, hz0, hz1, hz2⟩ := parts_of BlockS_info
  have hmk : ∀ w : World, (Instr.makeSlice 25 (.int .i64 (len : Int)) (.int .i64 (len : Int))).run Try.prog w = .ok (.slice (some ⟨w.heap.size, 0, none⟩) len len) (w.alloc (.cells (madeCells #[.slice none 0 0, .int .i64 0, .int .i64 0, .int .i64 0] (len * 4)) 46)) := by
    intro w
    have hr := run_make (P := Try.prog) w 25 46 i0 _ Try.underlying25 hi hz0 .i64 .i64 (len : Int) (len : Int) (by omega) (Int.le_refl _) (by rw [hz2]; omega) (by omega)
    simp only [Int.toNat_natCast] at hr
    rw [hr, hz1]; rfl
  clear hi hz0 hz1 hz2
  go_enter Try.func7, Try.ntmps7
  go_wp2
  clear hmk
  go_loopw [4] (fun vi wr => ∃ (k : Nat) (U : Nat → Value), k ≤ len ∧ vi = .int .i64 k ∧ Hid (wr.rowIs W.heap.size 46 (len * 4) (fun j => if j < k * 4 then U j else BlockS_zero (j % 4))) ∧ Hid (Rowed wr true W.heap.size cs U (k * 4) (rng (W.heap.size + 1) wr.heap.size)) ∧ Hid (Below W.heap.size W wr)) (fun vi _ => len - (intOf vi).toNat)
  case atStart =>
    refine ⟨0, fun _ => .bool false, Nat.zero_le _, rfl, ?_, ?_, ?_⟩
    · have h := World.rowIs_alloc W (madeCells #[.slice none 0 0, .int .i64 0, .int .i64 0, .int .i64 0] (len * 4)) 46 (fun j => BlockS_zero (j % 4)) (fun i hi => BlockS_made _ i (by rw [size_madeCells] at hi; exact hi))
      rw [size_madeCells] at h
      exact h.congr (fun i hi => by rw [if_neg (by omega)])
    · show Rowed _ _ _ _ _ _ _
      rw [Nat.zero_mul]; exact Rowed.nil _ _ _ _ _ _
    · show Below _ _ _
      go_grown
  case round =>
    obtain ⟨k, U, hk, rfl, HR, HO, HB⟩ := hrel
    by_cases hlt : k < len
    rotate_left
    · have HK : Hid (k = len) := by show k = len; omega
      go_wp2
      go_ret
      refine ⟨rfl, ?_, HB.out⟩
      have hr := HR.out.congr (g := U) (fun i hi => by rw [if_pos (by rw [HK.out]; exact hi)])
      have ho := HO.out
      rw [HK.out] at ho
      exact ho.owns hr (Nat.le_refl _) (fun q => by have := q.1; omega) (fun x hx => ⟨by have := hx.1; omega, hx.2⟩) ⟨Nat.le_refl _, HR.out.lt⟩ (fun _ => ⟨Nat.le_refl _, hlen⟩)
    have hltI : (k : Int) < (len : Int) := by omega
    have hkn : (k + 1) * 4 ≤ len * 4 := Nat.mul_le_mul_right _ hlt
    rw [Nat.add_mul] at hkn
    obtain ⟨b, o, ha, hb, hcell⟩ := h.out.cells HB.out (show 0 < len * 4 by omega)
    subst ha
    have hbs : W.heap.size < wr.heap.size := HR.out.lt
    have hbw : b < wr.heap.size := by omega
    obtain ⟨u0, d0, q0⟩ := hcell (k * 4) (by omega)
    obtain ⟨l0, cs0, E0, F0⟩ := (hf.out.cell hlt (c := 0) (by decide)).list
    have E0 : cs (k * 4) = .l l0 5 cs0 := E0
    have hs0 : Hid (szD (.l l0 5 cs0) ≤ 1048576) := by have q := sz_at (len := len) (sz := 4) (cs := cs) (i := k * 4) (by omega); rw [E0] at q; exact Nat.le_trans q hs.out
    have E0 : Hid (cs (k * 4) = .l l0 5 cs0) := E0
    have hf0 : Hid (Fits shInstrS (.l l0 5 cs0)) := ⟨rfl, F0⟩
    rw [E0.out] at q0
    obtain ⟨a0, c0, ev0, _⟩ := q0.slice
    subst ev0
    have h0 : Hid (Holds wr c (.l l0 5 cs0) (.slice a0 l0 c0)) := q0
    clear q0 F0
    obtain ⟨u1, d1, q1⟩ := hcell (k * 4 + 1) (by omega)
    rw [← Nat.add_assoc] at d1
    obtain ⟨x1, E1⟩ := (hf.out.cell hlt (c := 1) (by decide)).int
    have E1 : Hid (cs (k * 4 + 1) = .n x1) := E1
    rw [E1.out] at q1
    have q1 : u1 = .int .i64 x1 := q1
    subst q1
    obtain ⟨u2, d2, q2⟩ := hcell (k * 4 + 2) (by omega)
    rw [← Nat.add_assoc] at d2
    obtain ⟨x2, E2⟩ := (hf.out.cell hlt (c := 2) (by decide)).int
    have E2 : Hid (cs (k * 4 + 2) = .n x2) := E2
    rw [E2.out] at q2
    have q2 : u2 = .int .i64 x2 := q2
    subst q2
    obtain ⟨u3, d3, q3⟩ := hcell (k * 4 + 3) (by omega)
    rw [← Nat.add_assoc] at d3
    obtain ⟨x3, E3⟩ := (hf.out.cell hlt (c := 3) (by decide)).int
    have E3 : Hid (cs (k * 4 + 3) = .n x3) := E3
    rw [E3.out] at q3
    have q3 : u3 = .int .i64 x3 := q3
    subst q3
    clear hcell
    have hB0 : Hid (Below wr.heap.size wr wr) := Below.refl _ _
    go_wp2_with fail
    refine (Block_to _ _ _ cs0 x1 x2 x3 c _ hf0 hs0 h0).mono ?_
    rintro e w1 ⟨g, rfl, hO1, hsz, hB1⟩
    have HC1 : Hid (w1.rowIs W.heap.size 46 (len * 4) (fun j => if j < k * 4 then U j else BlockS_zero (j % 4))) := HR.out.of_block (hB1.block _ hbs)
    have HO1 : Hid (Rowed w1 true W.heap.size cs U (k * 4) (rng (W.heap.size + 1) wr.heap.size)) := HO.out.kept hB1
    have HB1 : Hid (Below W.heap.size W w1) := HB.out.trans (hB1.mono HB.out.size)
    have hws : wr.heap.size ≤ w1.heap.size := hB1.size
    have HN : Hid (Owns w1 true W.heap.size (cs (k * 4)) (.slice (some ⟨g, 0, none⟩) l0 l0) (rng wr.heap.size w1.heap.size)) := by show Owns _ _ _ _ _ _; rw [E0.out]; exact hO1.low HB.out.size
    clear hO1
    clear hB1 HR HO
    have d0' := HC1.out.cell (i := k * 4) (by omega)
    have f0' := HC1.out.frozen (k * 4)
    rw [if_neg (by omega)] at d0'
    rw [show (k * 4) % 4 = 0 by omega] at d0'
    have d0' : w1.cell? ⟨W.heap.size, k * 4, none⟩ = some (.slice none 0 0) := d0'
    have d1' := HC1.out.cell (i := k * 4 + 1) (by omega)
    have f1' := HC1.out.frozen (k * 4 + 1)
    rw [if_neg (by omega)] at d1'
    rw [show (k * 4 + 1) % 4 = 1 by omega] at d1'
    have d1' : w1.cell? ⟨W.heap.size, k * 4 + 1, none⟩ = some (.int .i64 0) := d1'
    have d2' := HC1.out.cell (i := k * 4 + 2) (by omega)
    have f2' := HC1.out.frozen (k * 4 + 2)
    rw [if_neg (by omega)] at d2'
    rw [show (k * 4 + 2) % 4 = 2 by omega] at d2'
    have d2' : w1.cell? ⟨W.heap.size, k * 4 + 2, none⟩ = some (.int .i64 0) := d2'
    have d3' := HC1.out.cell (i := k * 4 + 3) (by omega)
    have f3' := HC1.out.frozen (k * 4 + 3)
    rw [if_neg (by omega)] at d3'
    rw [show (k * 4 + 3) % 4 = 3 by omega] at d3'
    have d3' : w1.cell? ⟨W.heap.size, k * 4 + 3, none⟩ = some (.int .i64 0) := d3'
    go_wp2
    go_roundw
    case rel =>
      obtain ⟨V, hV⟩ : ∃ V : Nat → Value, V = fun j => if j = k * 4 then .slice (some ⟨g, 0, none⟩) l0 l0 else if j = k * 4 + 1 then .int .i64 x1 else if j = k * 4 + 2 then .int .i64 x2 else if j = k * 4 + 3 then .int .i64 x3 else U j := ⟨_, rfl⟩
      have uk : ∀ j, j < k * 4 → U j = V j := fun j hj => by rw [hV]; simp only []; rw [if_neg (show ¬ j = k * 4 by omega), if_neg (show ¬ j = k * 4 + 1 by omega), if_neg (show ¬ j = k * 4 + 2 by omega), if_neg (show ¬ j = k * 4 + 3 by omega)]
      have u0' : V (k * 4) = .slice (some ⟨g, 0, none⟩) l0 l0 := by rw [hV]; simp
      have u1' : V (k * 4 + 1) = .int .i64 x1 := by rw [hV]; simp
      have u2' : V (k * 4 + 2) = .int .i64 x2 := by rw [hV]; simp
      have u3' : V (k * 4 + 3) = .int .i64 x3 := by rw [hV]; simp
      refine ⟨k + 1, V, by omega, by go_num, ?_, ?_, ?_⟩
      · refine World.rowIs.congr ((((HC1.out.set (k * 4) (.slice (some ⟨g, 0, none⟩) l0 l0)).set (k * 4 + 1) (.int .i64 x1)).set (k * 4 + 2) (.int .i64 x2)).set (k * 4 + 3) (.int .i64 x3)) ?_
        intro j hj
        rcases (show j = k * 4 ∨ j = k * 4 + 1 ∨ j = k * 4 + 2 ∨ j = k * 4 + 3 ∨ j < k * 4 ∨ (k + 1) * 4 ≤ j by omega) with rfl | rfl | rfl | rfl | h | h
        · rw [if_pos (show k * 4 < (k + 1) * 4 by omega), u0']; simp
        · rw [if_pos (show k * 4 + 1 < (k + 1) * 4 by omega), u1']; simp
        · rw [if_pos (show k * 4 + 2 < (k + 1) * 4 by omega), u2']; simp
        · rw [if_pos (show k * 4 + 3 < (k + 1) * 4 by omega), u3']; simp
        · rw [if_pos (show j < (k + 1) * 4 by omega), if_neg (show ¬ j = k * 4 + 3 by omega), if_neg (show ¬ j = k * 4 + 2 by omega), if_neg (show ¬ j = k * 4 + 1 by omega), if_neg (show ¬ j = k * 4 by omega), if_pos h, uk j h]
        · rw [if_neg (show ¬ j < (k + 1) * 4 by omega), if_neg (show ¬ j = k * 4 + 3 by omega), if_neg (show ¬ j = k * 4 + 2 by omega), if_neg (show ¬ j = k * 4 + 1 by omega), if_neg (show ¬ j = k * 4 by omega), if_neg (show ¬ j < k * 4 by omega)]
      · show Rowed _ _ _ _ _ _ _
        have hr : Rowed w1 true W.heap.size cs V (k * 4) (rng (W.heap.size + 1) wr.heap.size) := HO1.out.congr uk
        have hr0 := hr.snoc (H := rng wr.heap.size w1.heap.size) (F' := rng (W.heap.size + 1) w1.heap.size) (by rw [u0']; exact HN.out) (fun x hx hy => by have := hx.2; have := hy.1; omega) (fun x hx => ⟨hx.1, by have := hx.2; omega⟩) (fun x hx => ⟨by have := hx.1; omega, hx.2⟩)
        have hr1 := hr0.flat (by rw [u1', E1.out]; exact rfl)
        have hr2 := hr1.flat (by rw [u2', E2.out]; exact rfl)
        have hr3 := hr2.flat (by rw [u3', E3.out]; exact rfl)
        rw [show (k + 1) * 4 = k * 4 + 1 + 1 + 1 + 1 by omega]
        refine Rowed.more (hr3.agree (by simp [World.setCell]) (fun b hb _ => ?_)) (fun x hx => ⟨hx.1, by have := hx.2; simpa [World.setCell] using this⟩)
        have hne : b ≠ W.heap.size := by have := hb.1; omega
        iterate 4 rw [Below.heap_setCell _ _ _ _ (show b ≠ W.heap.size from hne)]
      · show Below _ _ _
        refine Below.trans HB1.out ?_
        go_grown
    case measure => simp [intOf]; omega
set_option maxRecDepth 100000 in
set_option maxHeartbeats 4000000 in
theorem Block_eq (a0 : Option Addr) (l0 c0 : Nat) (cs0 : Nat → Dv) (x1 : Int) (x2 : Int) (x3 : Int) (b0 : Option Addr) (e0 : Nat) (c c' : Bool) (W : World) (hf0 : Hid (Fits shInstrS (.l l0 5 cs0))) (hs0 : Hid (szD (.l l0 5 cs0) ≤ 1048576)) (h0 : Hid (Holds W c (.l l0 5 cs0) (.slice a0 l0 c0))) (g0 : Hid (Holds W c' (.l l0 5 cs0) (.slice b0 l0 e0))) : Calls Try.prog 26 #[.agg #[.slice a0 l0 c0, .int .i64 x1, .int .i64 x2, .int .i64 x3], .agg #[.slice b0 l0 e0, .int .i64 x1, .int .i64 x2, .int .i64 x3]] W fun e W' => e = .returned (.bool true) ∧ Below W.heap.size W W' := by
  have ne1 : (x1 != x1) = false := by simp
  have ne2 : (x2 != x2) = false := by simp
  have ne3 : (x3 != x3) = false := by simp
  go_enter Try.func26, Try.ntmps26
  obtain ⟨X0, EX0⟩ : ∃ X, X = (W.alloc (.cells #[.slice a0 l0 c0, .int .i64 x1, .int .i64 x2, .int .i64 x3] 46)).alloc (.cells #[.slice b0 l0 e0, .int .i64 x1, .int .i64 x2, .int .i64 x3] 46) := ⟨_, rfl⟩
  have RA : Hid (X0.rowIs W.heap.size 46 4 (rowF [.slice a0 l0 c0, .int .i64 x1, .int .i64 x2, .int .i64 x3])) := by rw [EX0]; exact (row_of W #[.slice a0 l0 c0, .int .i64 x1, .int .i64 x2, .int .i64 x3] 46).alloc _
  have RB : Hid (X0.rowIs (W.heap.size + 1) 46 4 (rowF [.slice b0 l0 e0, .int .i64 x1, .int .i64 x2, .int .i64 x3])) := by
    rw [EX0]
    have q := row_of (W.alloc (.cells #[.slice a0 l0 c0, .int .i64 x1, .int .i64 x2, .int .i64 x3] 46)) #[.slice b0 l0 e0, .int .i64 x1, .int .i64 x2, .int .i64 x3] 46
    rw [show (W.alloc (.cells #[.slice a0 l0 c0, .int .i64 x1, .int .i64 x2, .int .i64 x3] 46)).heap.size = W.heap.size + 1 by simp] at q
    exact q
  have B0 : Hid (Below W.heap.size W X0) := by rw [EX0]; show Below _ _ _; go_grown
  go_wp2_with fail
  rw [← EX0]
  clear EX0
  refine (InstrS_eq _ _ _ _ _ cs0 c c' _ hf0 hs0 (h0.out.kept B0.out) (g0.out.kept B0.out)).mono ?_
  rintro e w0 ⟨rfl, hB⟩
  have A0 : Hid (w0.rowIs W.heap.size 46 4 (rowF [.slice a0 l0 c0, .int .i64 x1, .int .i64 x2, .int .i64 x3])) := RA.out.of_block (hB.block _ RA.out.lt)
  have C0 : Hid (w0.rowIs (W.heap.size + 1) 46 4 (rowF [.slice b0 l0 e0, .int .i64 x1, .int .i64 x2, .int .i64 x3])) := RB.out.of_block (hB.block _ RB.out.lt)
  have BB0 : Hid (Below W.heap.size W w0) := B0.out.trans (hB.mono B0.out.size)
  clear hB B0 RA RB
  have y_1 : w0.cell? ⟨W.heap.size, 1, none⟩ = some (.int .i64 x1) := A0.out.cell (i := 1) (by decide)
  have z_1 : w0.cell? ⟨W.heap.size + 1, 1, none⟩ = some (.int .i64 x1) := C0.out.cell (i := 1) (by decide)
  have y_2 : w0.cell? ⟨W.heap.size, 2, none⟩ = some (.int .i64 x2) := A0.out.cell (i := 2) (by decide)
  have z_2 : w0.cell? ⟨W.heap.size + 1, 2, none⟩ = some (.int .i64 x2) := C0.out.cell (i := 2) (by decide)
  have y_3 : w0.cell? ⟨W.heap.size, 3, none⟩ = some (.int .i64 x3) := A0.out.cell (i := 3) (by decide)
  have z_3 : w0.cell? ⟨W.heap.size + 1, 3, none⟩ = some (.int .i64 x3) := C0.out.cell (i := 3) (by decide)
  go_wp2
  go_ret
  exact ⟨rfl, BB0.out⟩
set_option maxRecDepth 100000 in
set_option maxHeartbeats 4000000 in
theorem BlockS_eq (a a' : Option Addr) (len cap cap' : Nat) (cs : Nat → Dv) (c c' : Bool) (W : World) (hf : Hid (Fits shBlockS (.l len 4 cs))) (hs : Hid (szD (.l len 4 cs) ≤ 1048576)) (h : Hid (Holds W c (.l len 4 cs) (.slice a len cap))) (h' : Hid (Holds W c' (.l len 4 cs) (.slice a' len cap'))) :
    Calls Try.prog 10 #[.slice a len cap, .slice a' len cap'] W fun e W' => e = .returned (.bool true) ∧ Below W.heap.size W W' := by
  have hlen : len ≤ 1048576 := Nat.le_trans (Nat.le_add_right _ _) hs.out
  go_enter Try.func10, Try.ntmps10
  go_wp2
  go_loopw [5] (fun vi wr => ∃ k : Nat, k ≤ len ∧ vi = .int .i64 k ∧ Hid (Below W.heap.size W wr)) (fun vi _ => len - (intOf vi).toNat)
  case atStart => exact ⟨0, Nat.zero_le _, rfl, Below.refl _ _⟩
  case round =>
    obtain ⟨k, hk, rfl, HB⟩ := hrel
    by_cases hlt : k < len
    rotate_left
    · go_wp2
      go_ret
      exact ⟨rfl, HB.out⟩
    have hltI : (k : Int) < (len : Int) := by omega
    have hkn : (k + 1) * 4 ≤ len * 4 := Nat.mul_le_mul_right _ hlt
    rw [Nat.add_mul] at hkn
    obtain ⟨b, o, ha, hb, hcell⟩ := h.out.cells HB.out (show 0 < len * 4 by omega)
    obtain ⟨b', o', ha', hb', hcell'⟩ := h'.out.cells HB.out (show 0 < len * 4 by omega)
    subst ha ha'
    have hbw : b < wr.heap.size := by have := HB.out.size; omega
    have hbw' : b' < wr.heap.size := by have := HB.out.size; omega
    obtain ⟨u0, d0, q0⟩ := hcell (k * 4) (by omega)
    obtain ⟨v0, g0, r0⟩ := hcell' (k * 4) (by omega)
    obtain ⟨l0, cs0, E0, F0⟩ := (hf.out.cell hlt (c := 0) (by decide)).list
    have E0 : cs (k * 4) = .l l0 5 cs0 := E0
    have hs0 : Hid (szD (.l l0 5 cs0) ≤ 1048576) := by have q := sz_at (len := len) (sz := 4) (cs := cs) (i := k * 4) (by omega); rw [E0] at q; exact Nat.le_trans q hs.out
    have hf0 : Hid (Fits shInstrS (.l l0 5 cs0)) := ⟨rfl, F0⟩
    rw [E0] at q0 r0
    obtain ⟨a0, c0, ev0, _⟩ := q0.slice
    obtain ⟨b0, e0, ew0, _⟩ := r0.slice
    subst ev0 ew0
    have h0 : Hid (Holds wr.drew c (.l l0 5 cs0) (.slice a0 l0 c0)) := q0.kept (Below.refl _ _).drew
    have g0' : Hid (Holds wr.drew c' (.l l0 5 cs0) (.slice b0 l0 e0)) := r0.kept (Below.refl _ _).drew
    clear q0 r0 F0 E0
    obtain ⟨u1, d1, q1⟩ := hcell (k * 4 + 1) (by omega)
    obtain ⟨v1, g1, r1⟩ := hcell' (k * 4 + 1) (by omega)
    rw [← Nat.add_assoc] at d1 g1
    obtain ⟨x1, E1⟩ := (hf.out.cell hlt (c := 1) (by decide)).int
    have E1 : cs (k * 4 + 1) = .n x1 := E1
    rw [E1] at q1 r1
    have q1 : u1 = .int .i64 x1 := q1
    have r1 : v1 = .int .i64 x1 := r1
    subst q1 r1
    clear E1
    obtain ⟨u2, d2, q2⟩ := hcell (k * 4 + 2) (by omega)
    obtain ⟨v2, g2, r2⟩ := hcell' (k * 4 + 2) (by omega)
    rw [← Nat.add_assoc] at d2 g2
    obtain ⟨x2, E2⟩ := (hf.out.cell hlt (c := 2) (by decide)).int
    have E2 : cs (k * 4 + 2) = .n x2 := E2
    rw [E2] at q2 r2
    have q2 : u2 = .int .i64 x2 := q2
    have r2 : v2 = .int .i64 x2 := r2
    subst q2 r2
    clear E2
    obtain ⟨u3, d3, q3⟩ := hcell (k * 4 + 3) (by omega)
    obtain ⟨v3, g3, r3⟩ := hcell' (k * 4 + 3) (by omega)
    rw [← Nat.add_assoc] at d3 g3
    obtain ⟨x3, E3⟩ := (hf.out.cell hlt (c := 3) (by decide)).int
    have E3 : cs (k * 4 + 3) = .n x3 := E3
    rw [E3] at q3 r3
    have q3 : u3 = .int .i64 x3 := q3
    have r3 : v3 = .int .i64 x3 := r3
    subst q3 r3
    clear E3
    clear hcell hcell'
    have HD : Hid (Below W.heap.size W wr.drew) := HB.out.drew
    go_wp2_with fail
    go_region_with (go_at_call 26; refine (Block_eq _ _ _ cs0 x1 x2 x3 _ _ c c' _ hf0 hs0 h0 g0').mono ?_; rintro e w' ⟨rfl, hb⟩; have HX : Hid (Below W.heap.size W w') := HD.out.trans (hb.mono HD.out.size); clear hb)
    all_goals
      go_wp2
      go_roundw
      case rel => exact ⟨k + 1, by omega, by go_num, HX.out⟩
      case measure => simp [intOf]; omega
set_option maxRecDepth 100000 in
set_option maxHeartbeats 4000000 in
theorem BlockS_mark (k0 : Int) (h0 : 0 ≤ k0) (h1 : k0 ≤ 100000000) (a : Option Addr) (len cap : Nat) (cs : Nat → Dv) (c : Bool) (W : World) (B : Nat) (F : Nat → Prop) (hf : Hid (Fits shBlockS (.l len 4 cs))) (hs : Hid (szD (.l len 4 cs) ≤ 1048576)) (h : Hid (Owns W c B (.l len 4 cs) (.slice a len cap) F)) :
    Calls Try.prog 12 #[.slice a len cap, .int .i64 k0] W fun e W' => e = .returned (.int .i64 (k0 + (cntD (.l len 4 cs) : Nat))) ∧ Owns W' c B (mkD k0 (.l len 4 cs)) (.slice a len cap) F ∧ OnlyF W W' F := by
  have hlen : len ≤ 1048576 := Nat.le_trans (Nat.le_add_right _ _) hs.out
  have hcn : sumTo (fun j => cntD (cs j)) (len * 4) ≤ 8388609 := by have q := cnt_le thin_BlockS hf.out; have q2 := hs.out; simp only [cntD] at q; omega
  have hmo : ∀ m, m ≤ len * 4 → sumTo (fun j => cntD (cs j)) m ≤ 8388609 := fun m hm => Nat.le_trans (sumTo_mono _ _ hm) hcn
  have HMO : Hid (∀ m, m ≤ len * 4 → sumTo (fun j => cntD (cs j)) m ≤ 8388609) := hmo
  clear hcn hmo
  go_enter Try.func12, Try.ntmps12
  go_wp2
  go_loopw [1, 5] (fun vk vi wr => ∃ k : Nat, k ≤ len ∧ vi = .int .i64 k ∧ vk = .int .i64 (k0 + (sumTo (fun j => cntD (cs j)) (k * 4) : Nat)) ∧ Hid (Owns wr c B (.l len 4 (fun j => if j < k * 4 then mkD (k0 + (sumTo (fun j => cntD (cs j)) j : Nat)) (cs j) else cs j)) (.slice a len cap) F) ∧ Hid (OnlyF W wr F)) (fun _ vi _ => len - (intOf vi).toNat)
  case atStart => exact ⟨0, Nat.zero_le _, rfl, by simp [sumTo], h.out.congr (fun i hi => by rw [if_neg (by omega)]), OnlyF.refl _ _⟩
  case round =>
    obtain ⟨k, hk, rfl, rfl, HO, HB⟩ := hrel
    by_cases hlt : k < len
    rotate_left
    · have HK : Hid (k = len) := by show k = len; omega
      go_wp2
      go_ret
      refine ⟨by rw [HK.out]; rfl, ?_, HB.out⟩
      exact HO.out.congr (fun i hi => by rw [if_pos (by rw [HK.out]; exact hi)])
    have hltI : (k : Int) < (len : Int) := by omega
    have hkn : (k + 1) * 4 ≤ len * 4 := Nat.mul_le_mul_right _ hlt
    rw [Nat.add_mul] at hkn
    obtain ⟨b, o, ha, hbw⟩ := HO.out.addr (show 0 < len * 4 by omega)
    subst ha
    have hk1 := HMO.out (k * 4) (by omega)
    obtain ⟨kk, HKK⟩ : ∃ kk : Int, Hid (k0 + (sumTo (fun j => cntD (cs j)) (k * 4) : Nat) = kk) := ⟨_, rfl⟩
    have kk0 : 0 ≤ kk := by have := HKK.out; omega
    have kk1 : kk ≤ 100000000 + 8388609 := by have := HKK.out; omega
    rw [HKK.out]
    clear hk1
    obtain ⟨l0, cs0, E0, F0⟩ := (hf.out.cell hlt (c := 0) (by decide)).list
    have E0 : cs (k * 4) = .l l0 5 cs0 := E0
    have hs0 : Hid (szD (.l l0 5 cs0) ≤ 1048576) := by have q := sz_at (len := len) (sz := 4) (cs := cs) (i := k * 4) (by omega); rw [E0] at q; exact Nat.le_trans q hs.out
    have E0 : Hid (cs (k * 4) = .l l0 5 cs0) := E0
    have hf0 : Hid (Fits shInstrS (.l l0 5 cs0)) := ⟨rfl, F0⟩
    clear F0
    have hcn0 : cntD (.l l0 5 cs0) ≤ 8388609 := by have q := cnt_le thin_InstrS hf0.out; have q2 := hs0.out; omega
    obtain ⟨N0, HN0⟩ : ∃ N, Hid (cntD (.l l0 5 cs0) = N) := ⟨_, rfl⟩
    rw [HN0.out] at hcn0
    obtain ⟨x1, E1⟩ := (hf.out.cell hlt (c := 1) (by decide)).int
    have E1 : Hid (cs (k * 4 + 1) = .n x1) := E1
    obtain ⟨x2, E2⟩ := (hf.out.cell hlt (c := 2) (by decide)).int
    have E2 : Hid (cs (k * 4 + 2) = .n x2) := E2
    obtain ⟨x3, E3⟩ := (hf.out.cell hlt (c := 3) (by decide)).int
    have E3 : Hid (cs (k * 4 + 3) = .n x3) := E3
    have HO0 : Hid (Owns wr c B (.l len 4 (fun j => if j < k * 4 then mkD (k0 + (sumTo (fun j => cntD (cs j)) j : Nat)) (cs j) else cs j)) (.slice (some ⟨b, o, none⟩) len cap) F) := HO
    clear HO
    obtain ⟨a0, c0, H0, d0, o0, s0⟩ := HO0.out.sub (j := k * 4) (l := l0) (z := 5) (es := cs0) (by omega) (by show (if _ then _ else _) = _; rw [if_neg (by omega)]; exact E0.out)
    have S0 : Hid (∀ w' d', OnlyF wr w' H0 → Owns w' c B d' (.slice a0 l0 c0) H0 → Owns w' c B (.l len 4 (updD (fun j => if j < k * 4 then mkD (k0 + (sumTo (fun j => cntD (cs j)) j : Nat)) (cs j) else cs j) (k * 4) d')) (.slice (some ⟨b, o, none⟩) len cap) F ∧ OnlyF wr w' F) := s0
    have O0 : Hid (Owns wr c B (.l l0 5 cs0) (.slice a0 l0 c0) H0) := o0
    clear s0 o0
    go_wp2_with fail
    refine (InstrS_mark (kk) (by omega) (by omega) _ _ _ cs0 c _ B H0 hf0 hs0 O0).mono ?_
    rintro e w0 ⟨rfl, hO, hF⟩
    obtain ⟨p0, r0⟩ := S0.out w0 _ hF hO
    have HO1 : Hid (Owns w0 c B (.l len 4 (updD (fun j => if j < k * 4 then mkD (k0 + (sumTo (fun j => cntD (cs j)) j : Nat)) (cs j) else cs j) (k * 4) (mkD (kk) (.l l0 5 cs0)))) (.slice (some ⟨b, o, none⟩) len cap) F) := p0
    have HB1 : Hid (OnlyF W w0 F) := HB.out.trans r0
    have hbw : b < w0.heap.size := by have q1 := r0.size; omega
    rw [HN0.out]
    clear hO hF p0 r0 S0 O0
    obtain ⟨d1, f1, s1⟩ := HO1.out.num (j := k * 4 + 1) (y := x1) (by omega) (by rw [updD_other _ _ (show k * 4 + 1 ≠ k * 4 by omega)]; show (if _ then _ else _) = _; rw [if_neg (by omega)]; exact E1.out)
    obtain ⟨s1, t1⟩ := s1 (kk + (N0 : Int))
    rw [← Nat.add_assoc] at d1 f1 s1 t1
    have HO2 : Hid (Owns (w0.setCell ⟨b, o + k * 4 + 1, none⟩ (.int .i64 (kk + (N0 : Int)))) c B (.l len 4 (updD (updD (fun j => if j < k * 4 then mkD (k0 + (sumTo (fun j => cntD (cs j)) j : Nat)) (cs j) else cs j) (k * 4) (mkD (kk) (.l l0 5 cs0))) (k * 4 + 1) (.n (kk + (N0 : Int))))) (.slice (some ⟨b, o, none⟩) len cap) F) := s1
    have HB2 : Hid (OnlyF W (w0.setCell ⟨b, o + k * 4 + 1, none⟩ (.int .i64 (kk + (N0 : Int)))) F) := HB1.out.trans t1
    clear s1 t1
    obtain ⟨d2, f2, s2⟩ := HO2.out.num (j := k * 4 + 2) (y := x2) (by omega) (by rw [updD_other _ _ (show k * 4 + 2 ≠ k * 4 + 1 by omega)]; rw [updD_other _ _ (show k * 4 + 2 ≠ k * 4 by omega)]; show (if _ then _ else _) = _; rw [if_neg (by omega)]; exact E2.out)
    obtain ⟨s2, t2⟩ := s2 (kk + (N0 : Int) + 1)
    rw [← Nat.add_assoc] at d2 f2 s2 t2
    have HO3 : Hid (Owns ((w0.setCell ⟨b, o + k * 4 + 1, none⟩ (.int .i64 (kk + (N0 : Int)))).setCell ⟨b, o + k * 4 + 2, none⟩ (.int .i64 (kk + (N0 : Int) + 1))) c B (.l len 4 (updD (updD (updD (fun j => if j < k * 4 then mkD (k0 + (sumTo (fun j => cntD (cs j)) j : Nat)) (cs j) else cs j) (k * 4) (mkD (kk) (.l l0 5 cs0))) (k * 4 + 1) (.n (kk + (N0 : Int)))) (k * 4 + 2) (.n (kk + (N0 : Int) + 1)))) (.slice (some ⟨b, o, none⟩) len cap) F) := s2
    have HB3 : Hid (OnlyF W ((w0.setCell ⟨b, o + k * 4 + 1, none⟩ (.int .i64 (kk + (N0 : Int)))).setCell ⟨b, o + k * 4 + 2, none⟩ (.int .i64 (kk + (N0 : Int) + 1))) F) := HB2.out.trans t2
    clear s2 t2
    obtain ⟨d3, f3, s3⟩ := HO3.out.num (j := k * 4 + 3) (y := x3) (by omega) (by rw [updD_other _ _ (show k * 4 + 3 ≠ k * 4 + 2 by omega)]; rw [updD_other _ _ (show k * 4 + 3 ≠ k * 4 + 1 by omega)]; rw [updD_other _ _ (show k * 4 + 3 ≠ k * 4 by omega)]; show (if _ then _ else _) = _; rw [if_neg (by omega)]; exact E3.out)
    obtain ⟨s3, t3⟩ := s3 (kk + (N0 : Int) + 1 + 1)
    rw [← Nat.add_assoc] at d3 f3 s3 t3
    have HO4 : Hid (Owns (((w0.setCell ⟨b, o + k * 4 + 1, none⟩ (.int .i64 (kk + (N0 : Int)))).setCell ⟨b, o + k * 4 + 2, none⟩ (.int .i64 (kk + (N0 : Int) + 1))).setCell ⟨b, o + k * 4 + 3, none⟩ (.int .i64 (kk + (N0 : Int) + 1 + 1))) c B (.l len 4 (updD (updD (updD (updD (fun j => if j < k * 4 then mkD (k0 + (sumTo (fun j => cntD (cs j)) j : Nat)) (cs j) else cs j) (k * 4) (mkD (kk) (.l l0 5 cs0))) (k * 4 + 1) (.n (kk + (N0 : Int)))) (k * 4 + 2) (.n (kk + (N0 : Int) + 1))) (k * 4 + 3) (.n (kk + (N0 : Int) + 1 + 1)))) (.slice (some ⟨b, o, none⟩) len cap) F) := s3
    have HB4 : Hid (OnlyF W (((w0.setCell ⟨b, o + k * 4 + 1, none⟩ (.int .i64 (kk + (N0 : Int)))).setCell ⟨b, o + k * 4 + 2, none⟩ (.int .i64 (kk + (N0 : Int) + 1))).setCell ⟨b, o + k * 4 + 3, none⟩ (.int .i64 (kk + (N0 : Int) + 1 + 1))) F) := HB3.out.trans t3
    clear s3 t3
    go_wp2
    go_roundw
    case rel =>
      have e1 : sumTo (fun j => cntD (cs j)) ((k + 1) * 4) = sumTo (fun j => cntD (cs j)) (k * 4) + cntD (cs (k * 4)) + cntD (cs (k * 4 + 1)) + cntD (cs (k * 4 + 2)) + cntD (cs (k * 4 + 3)) := by rw [show (k + 1) * 4 = k * 4 + 1 + 1 + 1 + 1 by omega]; rfl
      have n0 : cntD (cs (k * 4)) = N0 := by rw [E0.out]; exact HN0.out
      have n1 : cntD (cs (k * 4 + 1)) = 1 := by rw [E1.out]; exact rfl
      have n2 : cntD (cs (k * 4 + 2)) = 1 := by rw [E2.out]; exact rfl
      have n3 : cntD (cs (k * 4 + 3)) = 1 := by rw [E3.out]; exact rfl
      have m1 : sumTo (fun j => cntD (cs j)) (k * 4 + 1) = sumTo (fun j => cntD (cs j)) (k * 4) + cntD (cs (k * 4)) := rfl
      have m2 : sumTo (fun j => cntD (cs j)) (k * 4 + 2) = sumTo (fun j => cntD (cs j)) (k * 4) + cntD (cs (k * 4)) + cntD (cs (k * 4 + 1)) := rfl
      have m3 : sumTo (fun j => cntD (cs j)) (k * 4 + 3) = sumTo (fun j => cntD (cs j)) (k * 4) + cntD (cs (k * 4)) + cntD (cs (k * 4 + 1)) + cntD (cs (k * 4 + 2)) := rfl
      have hkk := HKK.out
      refine ⟨k + 1, by omega, by go_num, ?_, ?_, HB4⟩
      · rw [e1, n0, n1, n2, n3]
        congr 1
        omega
      · refine HO4.out.congr ?_
        intro j hj
        rcases (show j = k * 4 ∨ j = k * 4 + 1 ∨ j = k * 4 + 2 ∨ j = k * 4 + 3 ∨ j < k * 4 ∨ (k + 1) * 4 ≤ j by omega) with e0 | e0 | e0 | e0 | h | h
        · rw [e0, if_pos (show k * 4 < (k + 1) * 4 by omega), updD_other _ _ (show k * 4 ≠ k * 4 + 3 by omega), updD_other _ _ (show k * 4 ≠ k * 4 + 2 by omega), updD_other _ _ (show k * 4 ≠ k * 4 + 1 by omega), updD_same, E0.out]
          rw [show k0 + (sumTo (fun j => cntD (cs j)) (k * 4) : Nat) = kk by omega]
        · rw [e0, if_pos (show k * 4 + 1 < (k + 1) * 4 by omega), updD_other _ _ (show k * 4 + 1 ≠ k * 4 + 3 by omega), updD_other _ _ (show k * 4 + 1 ≠ k * 4 + 2 by omega), updD_same, E1.out]
          rw [show k0 + (sumTo (fun j => cntD (cs j)) (k * 4 + 1) : Nat) = kk + (N0 : Int) by rw [m1, n0]; omega]
          rfl
        · rw [e0, if_pos (show k * 4 + 2 < (k + 1) * 4 by omega), updD_other _ _ (show k * 4 + 2 ≠ k * 4 + 3 by omega), updD_same, E2.out]
          rw [show k0 + (sumTo (fun j => cntD (cs j)) (k * 4 + 2) : Nat) = kk + (N0 : Int) + 1 by rw [m2, n0, n1]; omega]
          rfl
        · rw [e0, if_pos (show k * 4 + 3 < (k + 1) * 4 by omega), updD_same, E3.out]
          rw [show k0 + (sumTo (fun j => cntD (cs j)) (k * 4 + 3) : Nat) = kk + (N0 : Int) + 1 + 1 by rw [m3, n0, n1, n2]; omega]
          rfl
        · rw [updD_other _ _ (show j ≠ k * 4 + 3 by omega), updD_other _ _ (show j ≠ k * 4 + 2 by omega), updD_other _ _ (show j ≠ k * 4 + 1 by omega), updD_other _ _ (show j ≠ k * 4 by omega), if_pos h, if_pos (show j < (k + 1) * 4 by omega)]
        · rw [updD_other _ _ (show j ≠ k * 4 + 3 by omega), updD_other _ _ (show j ≠ k * 4 + 2 by omega), updD_other _ _ (show j ≠ k * 4 + 1 by omega), updD_other _ _ (show j ≠ k * 4 by omega), if_neg (show ¬ j < k * 4 by omega), if_neg (show ¬ j < (k + 1) * 4 by omega)]
    case measure => simp [intOf]; omega
set_option maxRecDepth 100000 in
set_option maxHeartbeats 4000000 in
theorem BlockS_held (k0 : Int) (h0 : 0 ≤ k0) (a : Option Addr) (len cap : Nat) (cs : Nat → Dv) (c : Bool) (W : World) (hf : Hid (Fits shBlockS (.l len 4 cs))) (hs : Hid (szD (.l len 4 cs) ≤ 1048576)) (h1 : k0 + (cntD (.l len 4 cs) : Nat) ≤ 16777216) (h : Hid (Holds W c (mkD k0 (.l len 4 cs)) (.slice a len cap))) :
    Calls Try.prog 14 #[.slice a len cap, .int .i64 k0] W fun e W' => e = .returned (.int .i64 (k0 + (cntD (.l len 4 cs) : Nat))) ∧ W' = W := by
  have hlen : len ≤ 1048576 := Nat.le_trans (Nat.le_add_right _ _) hs.out
  have hmo : ∀ m, m ≤ len * 4 → k0 + (sumTo (fun j => cntD (cs j)) m : Nat) ≤ 16777216 := fun m hm => by have q := sumTo_mono (fun j => cntD (cs j)) _ hm; have q2 : k0 + (sumTo (fun j => cntD (cs j)) (len * 4) : Nat) ≤ 16777216 := h1; omega
  have HMO : Hid (∀ m, m ≤ len * 4 → k0 + (sumTo (fun j => cntD (cs j)) m : Nat) ≤ 16777216) := hmo
  clear hmo h1
  have H : Hid (Holds W c (.l len 4 (fun j => mkD (k0 + (sumTo (fun j => cntD (cs j)) j : Nat)) (cs j))) (.slice a len cap)) := h
  clear h
  go_enter Try.func14, Try.ntmps14
  go_wp2
  go_loop [1, 5] (fun vk vi => ∃ k : Nat, k ≤ len ∧ vi = .int .i64 k ∧ vk = .int .i64 (k0 + (sumTo (fun j => cntD (cs j)) (k * 4) : Nat))) (fun _ vi => len - (intOf vi).toNat)
  case atStart => exact ⟨0, Nat.zero_le _, rfl, by simp [sumTo]⟩
  case round =>
    obtain ⟨k, hk, rfl, rfl⟩ := hrel
    by_cases hlt : k < len
    rotate_left
    · have HK : Hid (k = len) := by show k = len; omega
      go_wp2
      go_ret
      exact ⟨by rw [HK.out]; rfl, rfl⟩
    have hltI : (k : Int) < (len : Int) := by omega
    have hkn : (k + 1) * 4 ≤ len * 4 := Nat.mul_le_mul_right _ hlt
    rw [Nat.add_mul] at hkn
    obtain ⟨b, o, ha, hb, hcell⟩ := H.out.cells (Below.refl _ _) (show 0 < len * 4 by omega)
    subst ha
    have hk1 := HMO.out (k * 4) (by omega)
    have HLAST := HMO.out ((k + 1) * 4) (by omega)
    obtain ⟨kk, HKK⟩ : ∃ kk : Int, Hid (k0 + (sumTo (fun j => cntD (cs j)) (k * 4) : Nat) = kk) := ⟨_, rfl⟩
    have kk0 : 0 ≤ kk := by have := HKK.out; omega
    have kk1 : kk ≤ 16777216 := by have := HKK.out; omega
    rw [HKK.out]
    clear hk1
    have e1 : sumTo (fun j => cntD (cs j)) ((k + 1) * 4) = sumTo (fun j => cntD (cs j)) (k * 4) + cntD (cs (k * 4)) + cntD (cs (k * 4 + 1)) + cntD (cs (k * 4 + 2)) + cntD (cs (k * 4 + 3)) := by rw [show (k + 1) * 4 = k * 4 + 1 + 1 + 1 + 1 by omega]; rfl
    obtain ⟨l0, cs0, E0, F0⟩ := (hf.out.cell hlt (c := 0) (by decide)).list
    have E0 : cs (k * 4) = .l l0 5 cs0 := E0
    have hs0 : Hid (szD (.l l0 5 cs0) ≤ 1048576) := by have q := sz_at (len := len) (sz := 4) (cs := cs) (i := k * 4) (by omega); rw [E0] at q; exact Nat.le_trans q hs.out
    have hf0 : Hid (Fits shInstrS (.l l0 5 cs0)) := ⟨rfl, F0⟩
    clear F0
    obtain ⟨N0, HN0⟩ : ∃ N, Hid (cntD (.l l0 5 cs0) = N) := ⟨_, rfl⟩
    have n0 : cntD (cs (k * 4)) = N0 := by rw [E0]; exact HN0.out
    obtain ⟨u0, d0, q0⟩ := hcell (k * 4) (by omega)
    have v0 : k0 + (sumTo (fun j => cntD (cs j)) (k * 4) : Nat) = kk := by have q := HKK.out; exact q
    rw [v0, E0] at q0
    have h0 : Hid (Holds W c (mkD (kk) (.l l0 5 cs0)) u0) := q0
    obtain ⟨a0, c0, ev0, _⟩ := Holds.slice (sz := 5) h0.out
    subst ev0
    clear q0
    obtain ⟨x1, E1⟩ := (hf.out.cell hlt (c := 1) (by decide)).int
    have E1 : cs (k * 4 + 1) = .n x1 := E1
    have n1 : cntD (cs (k * 4 + 1)) = 1 := by rw [E1]; rfl
    obtain ⟨u1, d1, q1⟩ := hcell (k * 4 + 1) (by omega)
    rw [← Nat.add_assoc] at d1
    have m1 : sumTo (fun j => cntD (cs j)) (k * 4 + 1) = sumTo (fun j => cntD (cs j)) (k * 4) + cntD (cs (k * 4)) := rfl
    have v1 : k0 + (sumTo (fun j => cntD (cs j)) (k * 4 + 1) : Nat) = kk + (N0 : Int) := by have q := HKK.out; rw [m1, n0]; omega
    rw [v1, E1] at q1
    have q1 : u1 = .int .i64 (kk + (N0 : Int)) := q1
    subst q1
    obtain ⟨x2, E2⟩ := (hf.out.cell hlt (c := 2) (by decide)).int
    have E2 : cs (k * 4 + 2) = .n x2 := E2
    have n2 : cntD (cs (k * 4 + 2)) = 1 := by rw [E2]; rfl
    obtain ⟨u2, d2, q2⟩ := hcell (k * 4 + 2) (by omega)
    rw [← Nat.add_assoc] at d2
    have m2 : sumTo (fun j => cntD (cs j)) (k * 4 + 2) = sumTo (fun j => cntD (cs j)) (k * 4) + cntD (cs (k * 4)) + cntD (cs (k * 4 + 1)) := rfl
    have v2 : k0 + (sumTo (fun j => cntD (cs j)) (k * 4 + 2) : Nat) = kk + (N0 : Int) + 1 := by have q := HKK.out; rw [m2, n0, n1]; omega
    rw [v2, E2] at q2
    have q2 : u2 = .int .i64 (kk + (N0 : Int) + 1) := q2
    subst q2
    obtain ⟨x3, E3⟩ := (hf.out.cell hlt (c := 3) (by decide)).int
    have E3 : cs (k * 4 + 3) = .n x3 := E3
    have n3 : cntD (cs (k * 4 + 3)) = 1 := by rw [E3]; rfl
    obtain ⟨u3, d3, q3⟩ := hcell (k * 4 + 3) (by omega)
    rw [← Nat.add_assoc] at d3
    have m3 : sumTo (fun j => cntD (cs j)) (k * 4 + 3) = sumTo (fun j => cntD (cs j)) (k * 4) + cntD (cs (k * 4)) + cntD (cs (k * 4 + 1)) + cntD (cs (k * 4 + 2)) := rfl
    have v3 : k0 + (sumTo (fun j => cntD (cs j)) (k * 4 + 3) : Nat) = kk + (N0 : Int) + 1 + 1 := by have q := HKK.out; rw [m3, n0, n1, n2]; omega
    rw [v3, E3] at q3
    have q3 : u3 = .int .i64 (kk + (N0 : Int) + 1 + 1) := q3
    subst q3
    rw [e1, n0, n1, n2, n3] at HLAST
    have LAST : kk + (N0 : Int) + 1 + 1 + 1 ≤ 16777216 := by have q := HKK.out; omega
    have HL0 : Hid ((kk) + (cntD (.l l0 5 cs0) : Nat) ≤ 16777216) := by show _ ≤ _; rw [HN0.out]; omega
    have HE : Hid (kk + (N0 : Int) + 1 + 1 + 1 = k0 + (sumTo (fun j => cntD (cs j)) ((k + 1) * 4) : Nat)) := by show _ = _; rw [e1, n0, n1, n2, n3]; have q := HKK.out; omega
    clear HLAST hcell e1 v0 n0 E0 v1 n1 E1 v2 n2 E2 v3 n3 E3 m1 m2 m3
    have kn0 : 0 ≤ kk := by omega
    have kp0 : 0 ≤ kk + (N0 : Int) := by omega
    go_wp2_with fail
    refine (InstrS_held (kk) (by omega) _ _ _ cs0 c _ hf0 hs0 HL0.out h0).mono ?_
    rintro e w' ⟨rfl, hw⟩
    rw [hw, HN0.out]
    clear hw w'
    go_wp2
    go_round
    case rel => exact ⟨k + 1, by omega, by go_num, by rw [← HE.out]⟩
    case measure => simp [intOf]; omega
set_option maxRecDepth 100000 in
set_option maxHeartbeats 4000000 in
theorem Block_size (a0 : Option Addr) (l0 c0 : Nat) (cs0 : Nat → Dv) (x1 : Int) (x2 : Int) (x3 : Int) (l : Int) (c : Bool) (W : World) (hf0 : Hid (Fits shInstrS (.l l0 5 cs0))) (hl0 : Hid (Lens (.l l0 5 cs0))) (h0 : Hid (Holds W c (.l l0 5 cs0) (.slice a0 l0 c0))) (hq0 : 0 ≤ l) (hq1 : l ≤ 1048576) : Calls Try.prog 18 #[.agg #[.slice a0 l0 c0, .int .i64 x1, .int .i64 x2, .int .i64 x3], .int .i64 l] W fun e W' => e = .returned (.int .i64 (if (szD (.l l0 5 cs0) : Int) ≤ l then l - ((szD (.l l0 5 cs0) : Int)) else -1)) ∧ Below W.heap.size W W' := by
  obtain ⟨N0, HN0⟩ : ∃ N, Hid (szD (.l l0 5 cs0) = N) := ⟨_, rfl⟩
  rw [HN0.out]
  obtain ⟨R, HR⟩ : ∃ R : Int, Hid ((if (N0 : Int) ≤ l then l - ((N0 : Int)) else -1) = R) := ⟨_, rfl⟩
  rw [HR.out]
  have HRN : Hid (¬ ((N0 : Int) ≤ l) → R = -1) := fun q => by rw [← HR.out, if_neg q]
  have HRP : Hid ((N0 : Int) ≤ l → R = l - ((N0 : Int))) := fun q => by rw [← HR.out, if_pos q]
  clear HR
  go_enter Try.func18, Try.ntmps18
  obtain ⟨X0, EX0⟩ : ∃ X, X = W.alloc (.cells #[.slice a0 l0 c0, .int .i64 x1, .int .i64 x2, .int .i64 x3] 41) := ⟨_, rfl⟩
  have RA : Hid (X0.rowIs W.heap.size 41 4 (rowF [.slice a0 l0 c0, .int .i64 x1, .int .i64 x2, .int .i64 x3])) := by rw [EX0]; exact row_of W #[.slice a0 l0 c0, .int .i64 x1, .int .i64 x2, .int .i64 x3] 41
  have B0 : Hid (Below W.heap.size W X0) := by rw [EX0]; show Below _ _ _; go_grown
  go_wp2_with fail
  rw [← EX0]
  clear EX0
  refine (InstrS_size _ _ _ cs0 (l) _ hf0 hl0 (by omega) (by omega)).mono ?_
  rw [HN0.out]
  rintro e w0 ⟨rfl, hE⟩
  have hB : Below X0.heap.size X0 w0 := by rw [hE]; exact Below.refl _ _
  clear hE
  have A0 : Hid (w0.rowIs W.heap.size 41 4 (rowF [.slice a0 l0 c0, .int .i64 x1, .int .i64 x2, .int .i64 x3])) := RA.out.of_block (hB.block _ RA.out.lt)
  have BB0 : Hid (Below W.heap.size W w0) := B0.out.trans (hB.mono B0.out.size)
  clear hB RA B0
  by_cases q0 : (N0 : Int) ≤ l
  rotate_left
  · rw [if_neg q0]
    have HM : Hid (R = -1) := HRN.out (by omega)
    go_wp2
    go_ret
    exact ⟨by rw [HM.out]; rfl, BB0.out⟩
  rw [if_pos q0]
  have le0 : 0 ≤ l - (N0 : Int) := by omega
  have HE : Hid (R = l - (N0 : Int)) := by have q := HRP.out (by omega); show _ = _; omega
  go_wp2
  go_ret
  exact ⟨by rw [HE.out]; rfl, BB0.out⟩
set_option maxRecDepth 100000 in
set_option maxHeartbeats 4000000 in
theorem BlockS_size (a : Option Addr) (len cap : Nat) (cs : Nat → Dv) (l : Int) (c : Bool) (W : World) (hf : Hid (Fits shBlockS (.l len 4 cs))) (hl : Hid (Lens (.l len 4 cs))) (h : Hid (Holds W c (.l len 4 cs) (.slice a len cap))) (h0 : 0 ≤ l) (h1 : l ≤ 1048576) :
    Calls Try.prog 5 #[.slice a len cap, .int .i64 l] W fun e W' => e = .returned (.int .i64 (if (szD (.l len 4 cs) : Int) ≤ l then l - (szD (.l len 4 cs) : Int) else -1)) ∧ Below W.heap.size W W' := by
  have hm := hl.out.1
  unfold maxLen at hm
  have hdef : szD (.l len 4 cs) = len + sumTo (fun j => szD (cs j)) (len * 4) := rfl
  have HDEF : Hid (szD (.l len 4 cs) = len + sumTo (fun j => szD (cs j)) (len * 4)) := hdef
  clear hdef
  obtain ⟨R, HR⟩ : ∃ R : Int, Hid ((if (szD (.l len 4 cs) : Int) ≤ l then l - (szD (.l len 4 cs) : Int) else -1) = R) := ⟨_, rfl⟩
  rw [HR.out]
  have HRN : Hid (¬ ((szD (.l len 4 cs) : Int) ≤ l) → R = -1) := fun q => by rw [← HR.out, if_neg q]
  have HRP : Hid ((szD (.l len 4 cs) : Int) ≤ l → R = l - (szD (.l len 4 cs) : Int)) := fun q => by rw [← HR.out, if_pos q]
  clear HR
  by_cases hq : (len : Int) ≤ l
  rotate_left
  · have HM : Hid (R = -1) := HRN.out (by have := HDEF.out; omega)
    have h' : l < (len : Int) := by omega
    clear hq
    go_enter Try.func5, Try.ntmps5
    go_wp2
    go_ret
    exact ⟨by rw [HM.out]; rfl, Below.refl _ _⟩
  have hlen : len ≤ 1048576 := by omega
  go_enter Try.func5, Try.ntmps5
  go_wp2
  go_loopw [1, 5] (fun vl vi wr => ∃ k : Nat, k ≤ len ∧ vi = .int .i64 k ∧ vl = .int .i64 (l - (len : Int) - (sumTo (fun j => szD (cs j)) (k * 4) : Nat)) ∧ 0 ≤ l - (len : Int) - (sumTo (fun j => szD (cs j)) (k * 4) : Nat) ∧ Hid (Below W.heap.size W wr)) (fun _ vi _ => len - (intOf vi).toNat)
  case atStart => exact ⟨0, Nat.zero_le _, rfl, by simp [sumTo], by simp [sumTo]; omega, Below.refl _ _⟩
  case round =>
    obtain ⟨k, hk, rfl, rfl, hge, HB⟩ := hrel
    by_cases hlt : k < len
    rotate_left
    · have HK : Hid (k = len) := by show k = len; omega
      rw [HK.out] at hge ⊢
      have HE : Hid (R = l - (len : Int) - (sumTo (fun j => szD (cs j)) (len * 4) : Nat)) := by show _ = _; have q1 := HDEF.out; have q2 := HRP.out (by omega); omega
      go_wp2
      go_ret
      exact ⟨by rw [HE.out]; rfl, HB.out⟩
    have hltI : (k : Int) < (len : Int) := by omega
    have hkn : (k + 1) * 4 ≤ len * 4 := Nat.mul_le_mul_right _ hlt
    rw [Nat.add_mul] at hkn
    obtain ⟨b, o, ha, hb, hcell⟩ := h.out.cells HB.out (show 0 < len * 4 by omega)
    subst ha
    have hbw : b < wr.heap.size := by have := HB.out.size; omega
    have HTOT : Hid ((sumTo (fun j => szD (cs j)) ((k + 1) * 4) : Nat) ≤ sumTo (fun j => szD (cs j)) (len * 4)) := sumTo_mono _ _ (by omega)
    obtain ⟨kk, HKK⟩ : ∃ kk : Int, Hid (l - (len : Int) - (sumTo (fun j => szD (cs j)) (k * 4) : Nat) = kk) := ⟨_, rfl⟩
    rw [HKK.out] at hge ⊢
    have kk1 : kk ≤ 1048576 := by have := HKK.out; omega
    obtain ⟨u0, d0, q0⟩ := hcell (k * 4) (by omega)
    obtain ⟨l0, cs0, E0, F0⟩ := (hf.out.cell hlt (c := 0) (by decide)).list
    have E0 : cs (k * 4) = .l l0 5 cs0 := E0
    have hl0 : Hid (Lens (.l l0 5 cs0)) := by have q := hl.out.2 (k * 4) (by omega); rw [E0] at q; exact q
    have hf0 : Hid (Fits shInstrS (.l l0 5 cs0)) := ⟨rfl, F0⟩
    clear F0
    obtain ⟨N0, HN0⟩ : ∃ N, Hid (szD (.l l0 5 cs0) = N) := ⟨_, rfl⟩
    have n0 : szD (cs (k * 4)) = N0 := by rw [E0]; exact HN0.out
    rw [E0] at q0
    obtain ⟨a0, c0, ev0, _⟩ := q0.slice
    subst ev0
    have h0 : Hid (Holds wr c (.l l0 5 cs0) (.slice a0 l0 c0)) := q0
    clear q0
    obtain ⟨u1, d1, q1⟩ := hcell (k * 4 + 1) (by omega)
    rw [← Nat.add_assoc] at d1
    obtain ⟨x1, E1⟩ := (hf.out.cell hlt (c := 1) (by decide)).int
    have E1 : cs (k * 4 + 1) = .n x1 := E1
    rw [E1] at q1
    have q1 : u1 = .int .i64 x1 := q1
    subst q1
    have n1 : szD (cs (k * 4 + 1)) = 0 := by rw [E1]; rfl
    obtain ⟨u2, d2, q2⟩ := hcell (k * 4 + 2) (by omega)
    rw [← Nat.add_assoc] at d2
    obtain ⟨x2, E2⟩ := (hf.out.cell hlt (c := 2) (by decide)).int
    have E2 : cs (k * 4 + 2) = .n x2 := E2
    rw [E2] at q2
    have q2 : u2 = .int .i64 x2 := q2
    subst q2
    have n2 : szD (cs (k * 4 + 2)) = 0 := by rw [E2]; rfl
    obtain ⟨u3, d3, q3⟩ := hcell (k * 4 + 3) (by omega)
    rw [← Nat.add_assoc] at d3
    obtain ⟨x3, E3⟩ := (hf.out.cell hlt (c := 3) (by decide)).int
    have E3 : cs (k * 4 + 3) = .n x3 := E3
    rw [E3] at q3
    have q3 : u3 = .int .i64 x3 := q3
    subst q3
    have n3 : szD (cs (k * 4 + 3)) = 0 := by rw [E3]; rfl
    have HE : Hid ((sumTo (fun j => szD (cs j)) ((k + 1) * 4) : Nat) = (sumTo (fun j => szD (cs j)) (k * 4) : Nat) + N0) := by show _ = _; rw [show (k + 1) * 4 = k * 4 + 1 + 1 + 1 + 1 by omega]; simp only [sumTo, n0, n1, n2, n3]; try omega
    clear hcell
    go_wp2_with fail
    refine (Block_size _ _ _ cs0 x1 x2 x3 kk c _ hf0 hl0 h0 (by omega) (by omega)).mono ?_
    rw [HN0.out]
    rintro e w1 ⟨rfl, hB⟩
    have HB1 : Hid (Below W.heap.size W w1) := HB.out.trans (hB.mono HB.out.size)
    clear hB
    by_cases qn : (N0 : Int) ≤ kk
    rotate_left
    · rw [if_neg qn]
      have HM : Hid (R = -1) := HRN.out (by have q1 := HDEF.out; have q2 := HTOT.out; have q3 := HE.out; have q4 := HKK.out; omega)
      go_wp2
      go_ret
      exact ⟨by rw [HM.out]; rfl, HB1.out⟩
    rw [if_pos qn]
    have kp : 0 ≤ kk - (N0 : Int) := by omega
    have HV : Hid (kk - (N0 : Int) = l - (len : Int) - (sumTo (fun j => szD (cs j)) ((k + 1) * 4) : Nat)) := by show _ = _; have q3 := HE.out; have q4 := HKK.out; omega
    go_wp2
    go_roundw
    case rel => exact ⟨k + 1, by omega, by go_num, by rw [← HV.out], by rw [← HV.out]; exact kp, HB1⟩
    case measure => simp [intOf]; omega
end Go.Proofs.Ytemlhhogcdgofaa.deep
