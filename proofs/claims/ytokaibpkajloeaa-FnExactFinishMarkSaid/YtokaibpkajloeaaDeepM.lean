/-
  What the laws' own helpers do on data: CellS, S:Marker.
-/
import Derived.Test.YtokaibpkajloeaaProg
import Derived.Test.YtokaibpkajloeaaDeep
import Derived.Test.YtokaibpkajloeaaDeepOpen
import Derived.Test.YtokaibpkajloeaaDeepRow
import Derived.WalkKit
import Derived.WalkSpells
import Derived.Below
import Derived.Handy
import Derived.Deep.OwnRows
import Derived.Deep.RegionWith
import Derived.Laws.MakeOwn
namespace Go.Proofs.Ytokaibpkajloeaa.deep
open Go.RowKit Go.Proofs.Ytokaibpkajloeaa.ints
set_option linter.unusedVariables false

def shCellS : Sh := .l 3 (fun i => match i with | 0 => shI | 1 => .n | _ => .t)
theorem thin_CellS : Thin shCellS := ⟨by decide, fun i => by
  show Thin (match i with | 0 => shI | 1 => .n | _ => .t)
  split
  · exact ⟨by decide, fun _ => trivial⟩
  · exact trivial
  · exact trivial⟩
set_option maxRecDepth 100000 in
set_option maxHeartbeats 4000000 in
theorem Cell_to (a0 : Option Addr) (l0 c0 : Nat) (cs0 : Nat → Dv) (x1 : Int) (x2 : Bool) (c : Bool) (W : World) (hf0 : Hid (Fits shI (.l l0 1 cs0))) (hs0 : Hid (szD (.l l0 1 cs0) ≤ 1048576)) (h0 : Hid (Holds W c (.l l0 1 cs0) (.slice a0 l0 c0))) : Calls Try.prog 61 #[.agg #[.slice a0 l0 c0, .int .i64 x1, .bool x2]] W fun e W' => ∃ g0, e = .returned (.agg #[.slice (some ⟨g0, 0, none⟩) l0 l0, .int .i64 x1, .bool x2]) ∧ Owns W' true W.heap.size (.l l0 1 cs0) (.slice (some ⟨g0, 0, none⟩) l0 l0) (rng W.heap.size W'.heap.size) ∧ W.heap.size ≤ W'.heap.size ∧ Below W.heap.size W W' := by
  go_enter Try.func61, Try.ntmps61
  obtain ⟨X0, EX0⟩ : ∃ X, X = ((W.alloc (.cells #[.slice a0 l0 c0, .int .i64 x1, .bool x2] 82)).alloc (.cells #[.slice none 0 0, .int .i64 0, .bool false] 52)).alloc (.cells #[.slice none 0 0, .int .i64 0, .bool false] 52) := ⟨_, rfl⟩
  have RA : Hid (X0.rowIs W.heap.size 82 3 (rowF [.slice a0 l0 c0, .int .i64 x1, .bool x2])) := by rw [EX0]; exact ((row_of W #[.slice a0 l0 c0, .int .i64 x1, .bool x2] 82).alloc _).alloc _
  have RR : Hid (X0.rowIs (W.heap.size + 1) 52 3 (rowF [.slice none 0 0, .int .i64 0, .bool false])) := by
    rw [EX0]
    have q := (row_of (W.alloc (.cells #[.slice a0 l0 c0, .int .i64 x1, .bool x2] 82)) #[.slice none 0 0, .int .i64 0, .bool false] 52)
    rw [show (W.alloc (.cells #[.slice a0 l0 c0, .int .i64 x1, .bool x2] 82)).heap.size = W.heap.size + 1 by simp] at q
    exact q.alloc _
  have RO : Hid (X0.rowIs (W.heap.size + 1 + 1) 52 3 (rowF [.slice none 0 0, .int .i64 0, .bool false])) := by
    rw [EX0]
    have q := (row_of ((W.alloc (.cells #[.slice a0 l0 c0, .int .i64 x1, .bool x2] 82)).alloc (.cells #[.slice none 0 0, .int .i64 0, .bool false] 52)) #[.slice none 0 0, .int .i64 0, .bool false] 52)
    rw [show ((W.alloc (.cells #[.slice a0 l0 c0, .int .i64 x1, .bool x2] 82)).alloc (.cells #[.slice none 0 0, .int .i64 0, .bool false] 52)).heap.size = W.heap.size + 1 + 1 by simp] at q
    exact q
  have B0 : Hid (Below W.heap.size W X0) := by rw [EX0]; show Below _ _ _; go_grown
  have s0 : X0.heap.size = W.heap.size + 1 + 1 + 1 := by rw [EX0]; simp
  have x_0 : X0.cell? ⟨W.heap.size, 0, none⟩ = some (.slice a0 l0 c0) := RA.out.cell (i := 0) (by decide)
  have x_1 : X0.cell? ⟨W.heap.size, 1, none⟩ = some (.int .i64 x1) := RA.out.cell (i := 1) (by decide)
  have x_2 : X0.cell? ⟨W.heap.size, 2, none⟩ = some (.bool x2) := RA.out.cell (i := 2) (by decide)
  have o_0 : X0.cell? ⟨W.heap.size + 1 + 1, 0, none⟩ = some (.slice none 0 0) := RO.out.cell (i := 0) (by decide)
  have p_0 : X0.frozen? ⟨W.heap.size + 1 + 1, 0, none⟩ = false := RO.out.frozen 0
  have o_1 : X0.cell? ⟨W.heap.size + 1 + 1, 1, none⟩ = some (.int .i64 0) := RO.out.cell (i := 1) (by decide)
  have p_1 : X0.frozen? ⟨W.heap.size + 1 + 1, 1, none⟩ = false := RO.out.frozen 1
  have o_2 : X0.cell? ⟨W.heap.size + 1 + 1, 2, none⟩ = some (.bool false) := RO.out.cell (i := 2) (by decide)
  have p_2 : X0.frozen? ⟨W.heap.size + 1 + 1, 2, none⟩ = false := RO.out.frozen 2
  go_wp2_with fail
  rw [← EX0]
  clear x_0 o_0 p_0 x_1 o_1 p_1 x_2 o_2 p_2
  refine (IntS_to _ _ _ cs0 c _ hf0 (Nat.le_trans (Nat.le_add_right _ _) hs0.out) (h0.out.kept B0.out)).mono ?_
  rintro e w0 ⟨rfl, hO, hB⟩
  have O0 : Hid (Owns w0 true X0.heap.size (.l l0 1 cs0) (.slice (some ⟨X0.heap.size, 0, none⟩) l0 l0) (rng X0.heap.size w0.heap.size)) := hO
  have sz0 : X0.heap.size ≤ w0.heap.size := hB.size
  have HA0 : Hid (w0.rowIs W.heap.size 82 3 (rowF [.slice a0 l0 c0, .int .i64 x1, .bool x2])) := RA.out.of_block (hB.block _ RA.out.lt)
  have HR0 : Hid (w0.rowIs (W.heap.size + 1) 52 3 (rowF [.slice none 0 0, .int .i64 0, .bool false])) := RR.out.of_block (hB.block _ RR.out.lt)
  have HO0 : Hid (w0.rowIs (W.heap.size + 1 + 1) 52 3 (rowF [.slice none 0 0, .int .i64 0, .bool false])) := RO.out.of_block (hB.block _ RO.out.lt)
  have BB0 : Hid (Below W.heap.size W w0) := B0.out.trans (hB.mono B0.out.size)
  have lt0 : W.heap.size + 1 + 1 < w0.heap.size := HO0.out.lt
  have wl0 : W.heap.size + 1 + 1 < X0.heap.size := RO.out.lt
  obtain ⟨G0, hG0⟩ : ∃ g, X0.heap.size = g := ⟨_, rfl⟩
  rw [hG0] at O0 sz0 wl0 ⊢
  clear hO hB
  have x_dummy := True.intro
  have x_1 : w0.cell? ⟨W.heap.size, 1, none⟩ = some (.int .i64 x1) := HA0.out.cell (i := 1) (by decide)
  have x_2 : w0.cell? ⟨W.heap.size, 2, none⟩ = some (.bool x2) := HA0.out.cell (i := 2) (by decide)
  have o_0 : w0.cell? ⟨W.heap.size + 1 + 1, 0, none⟩ = some (.slice none 0 0) := HO0.out.cell (i := 0) (by decide)
  have p_0 : w0.frozen? ⟨W.heap.size + 1 + 1, 0, none⟩ = false := HO0.out.frozen 0
  have o_1 : w0.cell? ⟨W.heap.size + 1 + 1, 1, none⟩ = some (.int .i64 0) := HO0.out.cell (i := 1) (by decide)
  have p_1 : w0.frozen? ⟨W.heap.size + 1 + 1, 1, none⟩ = false := HO0.out.frozen 1
  have o_2 : w0.cell? ⟨W.heap.size + 1 + 1, 2, none⟩ = some (.bool false) := HO0.out.cell (i := 2) (by decide)
  have p_2 : w0.frozen? ⟨W.heap.size + 1 + 1, 2, none⟩ = false := HO0.out.frozen 2
  have r_0 : w0.cell? ⟨W.heap.size + 1, 0, none⟩ = some (.slice none 0 0) := HR0.out.cell (i := 0) (by decide)
  have t_0 : w0.frozen? ⟨W.heap.size + 1, 0, none⟩ = false := HR0.out.frozen 0
  have r_1 : w0.cell? ⟨W.heap.size + 1, 1, none⟩ = some (.int .i64 0) := HR0.out.cell (i := 1) (by decide)
  have t_1 : w0.frozen? ⟨W.heap.size + 1, 1, none⟩ = false := HR0.out.frozen 1
  have r_2 : w0.cell? ⟨W.heap.size + 1, 2, none⟩ = some (.bool false) := HR0.out.cell (i := 2) (by decide)
  have t_2 : w0.frozen? ⟨W.heap.size + 1, 2, none⟩ = false := HR0.out.frozen 2
  go_wp2
  skip
  refine bodyPost_ret (v := .agg #[.slice (some ⟨G0, 0, none⟩) l0 l0, .int .i64 x1, .bool x2]) (by simp only [results, Try.results61]; go_simp) rfl ⟨G0, rfl, ?_, ?_, ?_⟩
  · refine Owns.more (F := rng G0 w0.heap.size) ?_ (fun x hx => ⟨by have := hx.1; omega, by have := hx.2; simpa [World.setCell] using this⟩)
    iterate 6 refine far_set (by omega) ?_
    exact O0.out.low (by omega)
  · simp [World.setCell]; omega
  · refine Below.trans BB0.out ?_
    iterate 6 refine Below.setCell ?_ (by simp; try omega) _
    exact Below.refl _ _
theorem CellS_info : (Try.prog.info? 52).map (fun i => (i.zero, i.size, i.bytes)) = some (some (.agg #[.slice none 0 0, .int .i64 0, .bool false]), 3, 40) := by kernel_rfl
def CellS_zero (i : Nat) : Value := rowF [.slice none 0 0, .int .i64 0, .bool false] i
theorem CellS_made (n i : Nat) (hi : i < n) : (madeCells #[.slice none 0 0, .int .i64 0, .bool false] n)[i]? = some (CellS_zero (i % 3)) := by
  have h : i % 3 < 3 := Nat.mod_lt _ (by decide)
  simp only [madeCells, Array.getElem?_map, Array.getElem?_range, hi, if_true, Option.map_some, CellS_zero]
  generalize i % 3 = j at h
  congr 1
  match j, h with
  | 0, _ => rfl
  | 1, _ => rfl
  | 2, _ => rfl
  | j + 3, h => omega
set_option maxRecDepth 100000 in
set_option maxHeartbeats 4000000 in
theorem CellS_to (a : Option Addr) (len cap : Nat) (cs : Nat → Dv) (c : Bool) (W : World) (hf : Hid (Fits shCellS (.l len 3 cs))) (hs : Hid (szD (.l len 3 cs) ≤ 1048576)) (h : Hid (Holds W c (.l len 3 cs) (.slice a len cap))) :
    Calls Try.prog 40 #[.slice a len cap] W fun e W' => e = .returned (.slice (some ⟨W.heap.size, 0, none⟩) len len) ∧ Owns W' true W.heap.size (.l len 3 cs) (.slice (some ⟨W.heap.size, 0, none⟩) len len) (rng W.heap.size W'.heap.size) ∧ Below W.heap.size W W' := by
  have hlen : len ≤ 1048576 := Nat.le_trans (Nat.le_add_right _ _) hs.out
  obtain ⟨i0, hi, hz0, hz1, hz2⟩ := parts_of CellS_info
  have hmk : ∀ w : World, (Instr.makeSlice 22 (.int .i64 (len : Int)) (.int .i64 (len : Int))).run Try.prog w = .ok (.slice (some ⟨w.heap.size, 0, none⟩) len len) (w.alloc (.cells (madeCells #[.slice none 0 0, .int .i64 0, .bool false] (len * 3)) 52)) := by
    intro w
    have hr := run_make (P := Try.prog) w 22 52 i0 _ Try.underlying22 hi hz0 .i64 .i64 (len : Int) (len : Int) (by omega) (Int.le_refl _) (by rw [hz2]; omega) (by omega)
    simp only [Int.toNat_natCast] at hr
    rw [hr, hz1]; rfl
  clear hi hz0 hz1 hz2
  go_enter Try.func40, Try.ntmps40
  go_wp2
  clear hmk
  go_loopw [4] (fun vi wr => ∃ (k : Nat) (U : Nat → Value), k ≤ len ∧ vi = .int .i64 k ∧ Hid (wr.rowIs W.heap.size 52 (len * 3) (fun j => if j < k * 3 then U j else CellS_zero (j % 3))) ∧ Hid (Rowed wr true W.heap.size cs U (k * 3) (rng (W.heap.size + 1) wr.heap.size)) ∧ Hid (Below W.heap.size W wr)) (fun vi _ => len - (intOf vi).toNat)
  case atStart =>
    refine ⟨0, fun _ => .bool false, Nat.zero_le _, rfl, ?_, ?_, ?_⟩
    · have h := World.rowIs_alloc W (madeCells #[.slice none 0 0, .int .i64 0, .bool false] (len * 3)) 52 (fun j => CellS_zero (j % 3)) (fun i hi => CellS_made _ i (by rw [size_madeCells] at hi; exact hi))
      rw [size_madeCells] at h
      exact h.congr (fun i hi => by rw [if_neg (by omega)])
    · show Rowed _ _ _ _ _ _ _
      rw [Nat.zero_mul]; exact Rowed.nil _ _ _ _ _ _
    · show Below _ _ _
      go_grown
  case round =>
    obtain ⟨k, U, hk, rfl, HR, HO, HB⟩ := hrel
    by_cases hlt : k < len
    rotate_left
    · have HK : Hid (k = len) := by show k = len; omega
      go_wp2
      go_ret
      refine ⟨rfl, ?_, HB.out⟩
      have hr := HR.out.congr (g := U) (fun i hi => by rw [if_pos (by rw [HK.out]; exact hi)])
      have ho := HO.out
      rw [HK.out] at ho
      exact ho.owns hr (Nat.le_refl _) (fun q => by have := q.1; omega) (fun x hx => ⟨by have := hx.1; omega, hx.2⟩) ⟨Nat.le_refl _, HR.out.lt⟩ (fun _ => ⟨Nat.le_refl _, hlen⟩)
    have hltI : (k : Int) < (len : Int) := by omega
    have hkn : (k + 1) * 3 ≤ len * 3 := Nat.mul_le_mul_right _ hlt
    rw [Nat.add_mul] at hkn
    obtain ⟨b, o, ha, hb, hcell⟩ := h.out.cells HB.out (show 0 < len * 3 by omega)
    subst ha
    have hbs : W.heap.size < wr.heap.size := HR.out.lt
    have hbw : b < wr.heap.size := by omega
    obtain ⟨u0, d0, q0⟩ := hcell (k * 3) (by omega)
    obtain ⟨l0, cs0, E0, F0⟩ := (hf.out.cell hlt (c := 0) (by decide)).list
    have E0 : cs (k * 3) = .l l0 1 cs0 := E0
    have hs0 : Hid (szD (.l l0 1 cs0) ≤ 1048576) := by have q := sz_at (len := len) (sz := 3) (cs := cs) (i := k * 3) (by omega); rw [E0] at q; exact Nat.le_trans q hs.out
    have E0 : Hid (cs (k * 3) = .l l0 1 cs0) := E0
    have hf0 : Hid (Fits shI (.l l0 1 cs0)) := ⟨rfl, F0⟩
    rw [E0.out] at q0
    obtain ⟨a0, c0, ev0, _⟩ := q0.slice
    subst ev0
    have h0 : Hid (Holds wr c (.l l0 1 cs0) (.slice a0 l0 c0)) := q0
    clear q0 F0
    obtain ⟨u1, d1, q1⟩ := hcell (k * 3 + 1) (by omega)
    rw [← Nat.add_assoc] at d1
    obtain ⟨x1, E1⟩ := (hf.out.cell hlt (c := 1) (by decide)).int
    have E1 : Hid (cs (k * 3 + 1) = .n x1) := E1
    rw [E1.out] at q1
    have q1 : u1 = .int .i64 x1 := q1
    subst q1
    obtain ⟨u2, d2, q2⟩ := hcell (k * 3 + 2) (by omega)
    rw [← Nat.add_assoc] at d2
    obtain ⟨x2, E2⟩ := (hf.out.cell hlt (c := 2) (by decide)).bool
    have E2 : Hid (cs (k * 3 + 2) = .t x2) := E2
    rw [E2.out] at q2
    have q2 : u2 = .bool x2 := q2
    subst q2
    clear hcell
    have hB0 : Hid (Below wr.heap.size wr wr) := Below.refl _ _
    go_wp2_with fail
    refine (Cell_to _ _ _ cs0 x1 x2 c _ hf0 hs0 h0).mono ?_
    rintro e w1 ⟨g, rfl, hO1, hsz, hB1⟩
    have HC1 : Hid (w1.rowIs W.heap.size 52 (len * 3) (fun j => if j < k * 3 then U j else CellS_zero (j % 3))) := HR.out.of_block (hB1.block _ hbs)
    have HO1 : Hid (Rowed w1 true W.heap.size cs U (k * 3) (rng (W.heap.size + 1) wr.heap.size)) := HO.out.kept hB1
    have HB1 : Hid (Below W.heap.size W w1) := HB.out.trans (hB1.mono HB.out.size)
    have hws : wr.heap.size ≤ w1.heap.size := hB1.size
    have HN : Hid (Owns w1 true W.heap.size (cs (k * 3)) (.slice (some ⟨g, 0, none⟩) l0 l0) (rng wr.heap.size w1.heap.size)) := by show Owns _ _ _ _ _ _; rw [E0.out]; exact hO1.low HB.out.size
    clear hO1
    clear hB1 HR HO
    have d0' := HC1.out.cell (i := k * 3) (by omega)
    have f0' := HC1.out.frozen (k * 3)
    rw [if_neg (by omega)] at d0'
    rw [show (k * 3) % 3 = 0 by omega] at d0'
    have d0' : w1.cell? ⟨W.heap.size, k * 3, none⟩ = some (.slice none 0 0) := d0'
    have d1' := HC1.out.cell (i := k * 3 + 1) (by omega)
    have f1' := HC1.out.frozen (k * 3 + 1)
    rw [if_neg (by omega)] at d1'
    rw [show (k * 3 + 1) % 3 = 1 by omega] at d1'
    have d1' : w1.cell? ⟨W.heap.size, k * 3 + 1, none⟩ = some (.int .i64 0) := d1'
    have d2' := HC1.out.cell (i := k * 3 + 2) (by omega)
    have f2' := HC1.out.frozen (k * 3 + 2)
    rw [if_neg (by omega)] at d2'
    rw [show (k * 3 + 2) % 3 = 2 by omega] at d2'
    have d2' : w1.cell? ⟨W.heap.size, k * 3 + 2, none⟩ = some (.bool false) := d2'
    go_wp2
    go_roundw
    case rel =>
      obtain ⟨V, hV⟩ : ∃ V : Nat → Value, V = fun j => if j = k * 3 then .slice (some ⟨g, 0, none⟩) l0 l0 else if j = k * 3 + 1 then .int .i64 x1 else if j = k * 3 + 2 then .bool x2 else U j := ⟨_, rfl⟩
      have uk : ∀ j, j < k * 3 → U j = V j := fun j hj => by rw [hV]; simp only []; rw [if_neg (show ¬ j = k * 3 by omega), if_neg (show ¬ j = k * 3 + 1 by omega), if_neg (show ¬ j = k * 3 + 2 by omega)]
      have u0' : V (k * 3) = .slice (some ⟨g, 0, none⟩) l0 l0 := by rw [hV]; simp
      have u1' : V (k * 3 + 1) = .int .i64 x1 := by rw [hV]; simp
      have u2' : V (k * 3 + 2) = .bool x2 := by rw [hV]; simp
      refine ⟨k + 1, V, by omega, by go_num, ?_, ?_, ?_⟩
      · refine World.rowIs.congr (((HC1.out.set (k * 3) (.slice (some ⟨g, 0, none⟩) l0 l0)).set (k * 3 + 1) (.int .i64 x1)).set (k * 3 + 2) (.bool x2)) ?_
        intro j hj
        rcases (show j = k * 3 ∨ j = k * 3 + 1 ∨ j = k * 3 + 2 ∨ j < k * 3 ∨ (k + 1) * 3 ≤ j by omega) with rfl | rfl | rfl | h | h
        · rw [if_pos (show k * 3 < (k + 1) * 3 by omega), u0']; simp
        · rw [if_pos (show k * 3 + 1 < (k + 1) * 3 by omega), u1']; simp
        · rw [if_pos (show k * 3 + 2 < (k + 1) * 3 by omega), u2']; simp
        · rw [if_pos (show j < (k + 1) * 3 by omega), if_neg (show ¬ j = k * 3 + 2 by omega), if_neg (show ¬ j = k * 3 + 1 by omega), if_neg (show ¬ j = k * 3 by omega), if_pos h, uk j h]
        · rw [if_neg (show ¬ j < (k + 1) * 3 by omega), if_neg (show ¬ j = k * 3 + 2 by omega), if_neg (show ¬ j = k * 3 + 1 by omega), if_neg (show ¬ j = k * 3 by omega), if_neg (show ¬ j < k * 3 by omega)]
      · show Rowed _ _ _ _ _ _ _
        have hr : Rowed w1 true W.heap.size cs V (k * 3) (rng (W.heap.size + 1) wr.heap.size) := HO1.out.congr uk
        have hr0 := hr.snoc (H := rng wr.heap.size w1.heap.size) (F' := rng (W.heap.size + 1) w1.heap.size) (by rw [u0']; exact HN.out) (fun x hx hy => by have := hx.2; have := hy.1; omega) (fun x hx => ⟨hx.1, by have := hx.2; omega⟩) (fun x hx => ⟨by have := hx.1; omega, hx.2⟩)
        have hr1 := hr0.flat (by rw [u1', E1.out]; exact rfl)
        have hr2 := hr1.flat (by rw [u2', E2.out]; exact rfl)
        rw [show (k + 1) * 3 = k * 3 + 1 + 1 + 1 by omega]
        refine Rowed.more (hr2.agree (by simp [World.setCell]) (fun b hb _ => ?_)) (fun x hx => ⟨hx.1, by have := hx.2; simpa [World.setCell] using this⟩)
        have hne : b ≠ W.heap.size := by have := hb.1; omega
        iterate 3 rw [Below.heap_setCell _ _ _ _ (show b ≠ W.heap.size from hne)]
      · show Below _ _ _
        refine Below.trans HB1.out ?_
        go_grown
    case measure => simp [intOf]; omega
set_option maxRecDepth 100000 in
set_option maxHeartbeats 4000000 in
theorem Cell_eq (a0 : Option Addr) (l0 c0 : Nat) (cs0 : Nat → Dv) (x1 : Int) (x2 : Bool) (b0 : Option Addr) (e0 : Nat) (c c' : Bool) (W : World) (hf0 : Hid (Fits shI (.l l0 1 cs0))) (hs0 : Hid (szD (.l l0 1 cs0) ≤ 1048576)) (h0 : Hid (Holds W c (.l l0 1 cs0) (.slice a0 l0 c0))) (g0 : Hid (Holds W c' (.l l0 1 cs0) (.slice b0 l0 e0))) : Calls Try.prog 59 #[.agg #[.slice a0 l0 c0, .int .i64 x1, .bool x2], .agg #[.slice b0 l0 e0, .int .i64 x1, .bool x2]] W fun e W' => e = .returned (.bool true) ∧ Below W.heap.size W W' := by
  have ne1 : (x1 != x1) = false := by simp
  have ne2 : (x2 != x2) = false := by cases x2 <;> rfl
  go_enter Try.func59, Try.ntmps59
  obtain ⟨X0, EX0⟩ : ∃ X, X = (W.alloc (.cells #[.slice a0 l0 c0, .int .i64 x1, .bool x2] 52)).alloc (.cells #[.slice b0 l0 e0, .int .i64 x1, .bool x2] 52) := ⟨_, rfl⟩
  have RA : Hid (X0.rowIs W.heap.size 52 3 (rowF [.slice a0 l0 c0, .int .i64 x1, .bool x2])) := by rw [EX0]; exact (row_of W #[.slice a0 l0 c0, .int .i64 x1, .bool x2] 52).alloc _
  have RB : Hid (X0.rowIs (W.heap.size + 1) 52 3 (rowF [.slice b0 l0 e0, .int .i64 x1, .bool x2])) := by
    rw [EX0]
    have q := row_of (W.alloc (.cells #[.slice a0 l0 c0, .int .i64 x1, .bool x2] 52)) #[.slice b0 l0 e0, .int .i64 x1, .bool x2] 52
    rw [show (W.alloc (.cells #[.slice a0 l0 c0, .int .i64 x1, .bool x2] 52)).heap.size = W.heap.size + 1 by simp] at q
    exact q
  have B0 : Hid (Below W.heap.size W X0) := by rw [EX0]; show Below _ _ _; go_grown
  go_wp2_with fail
  rw [← EX0]
  clear EX0
  refine (IntS_eq _ _ _ _ _ cs0 c c' _ hf0 (Nat.le_trans (Nat.le_add_right _ _) hs0.out) (h0.out.kept B0.out) (g0.out.kept B0.out)).mono ?_
  rintro e w0 ⟨rfl, hB⟩
  have A0 : Hid (w0.rowIs W.heap.size 52 3 (rowF [.slice a0 l0 c0, .int .i64 x1, .bool x2])) := RA.out.of_block (hB.block _ RA.out.lt)
  have C0 : Hid (w0.rowIs (W.heap.size + 1) 52 3 (rowF [.slice b0 l0 e0, .int .i64 x1, .bool x2])) := RB.out.of_block (hB.block _ RB.out.lt)
  have BB0 : Hid (Below W.heap.size W w0) := B0.out.trans (hB.mono B0.out.size)
  clear hB B0 RA RB
  have y_1 : w0.cell? ⟨W.heap.size, 1, none⟩ = some (.int .i64 x1) := A0.out.cell (i := 1) (by decide)
  have z_1 : w0.cell? ⟨W.heap.size + 1, 1, none⟩ = some (.int .i64 x1) := C0.out.cell (i := 1) (by decide)
  have y_2 : w0.cell? ⟨W.heap.size, 2, none⟩ = some (.bool x2) := A0.out.cell (i := 2) (by decide)
  have z_2 : w0.cell? ⟨W.heap.size + 1, 2, none⟩ = some (.bool x2) := C0.out.cell (i := 2) (by decide)
  go_wp2
  go_ret
  exact ⟨rfl, BB0.out⟩
set_option maxRecDepth 100000 in
set_option maxHeartbeats 4000000 in
theorem CellS_eq (a a' : Option Addr) (len cap cap' : Nat) (cs : Nat → Dv) (c c' : Bool) (W : World) (hf : Hid (Fits shCellS (.l len 3 cs))) (hs : Hid (szD (.l len 3 cs) ≤ 1048576)) (h : Hid (Holds W c (.l len 3 cs) (.slice a len cap))) (h' : Hid (Holds W c' (.l len 3 cs) (.slice a' len cap'))) :
    Calls Try.prog 33 #[.slice a len cap, .slice a' len cap'] W fun e W' => e = .returned (.bool true) ∧ Below W.heap.size W W' := by
  have hlen : len ≤ 1048576 := Nat.le_trans (Nat.le_add_right _ _) hs.out
  go_enter Try.func33, Try.ntmps33
  go_wp2
  go_loopw [5] (fun vi wr => ∃ k : Nat, k ≤ len ∧ vi = .int .i64 k ∧ Hid (Below W.heap.size W wr)) (fun vi _ => len - (intOf vi).toNat)
  case atStart => exact ⟨0, Nat.zero_le _, rfl, Below.refl _ _⟩
  case round =>
    obtain ⟨k, hk, rfl, HB⟩ := hrel
    by_cases hlt : k < len
    rotate_left
    · go_wp2
      go_ret
      exact ⟨rfl, HB.out⟩
    have hltI : (k : Int) < (len : Int) := by omega
    have hkn : (k + 1) * 3 ≤ len * 3 := Nat.mul_le_mul_right _ hlt
    rw [Nat.add_mul] at hkn
    obtain ⟨b, o, ha, hb, hcell⟩ := h.out.cells HB.out (show 0 < len * 3 by omega)
    obtain ⟨b', o', ha', hb', hcell'⟩ := h'.out.cells HB.out (show 0 < len * 3 by omega)
    subst ha ha'
    have hbw : b < wr.heap.size := by have := HB.out.size; omega
    have hbw' : b' < wr.heap.size := by have := HB.out.size; omega
    obtain ⟨u0, d0, q0⟩ := hcell (k * 3) (by omega)
    obtain ⟨v0, g0, r0⟩ := hcell' (k * 3) (by omega)
    obtain ⟨l0, cs0, E0, F0⟩ := (hf.out.cell hlt (c := 0) (by decide)).list
    have E0 : cs (k * 3) = .l l0 1 cs0 := E0
    have hs0 : Hid (szD (.l l0 1 cs0) ≤ 1048576) := by have q := sz_at (len := len) (sz := 3) (cs := cs) (i := k * 3) (by omega); rw [E0] at q; exact Nat.le_trans q hs.out
    have hf0 : Hid (Fits shI (.l l0 1 cs0)) := ⟨rfl, F0⟩
    rw [E0] at q0 r0
    obtain ⟨a0, c0, ev0, _⟩ := q0.slice
    obtain ⟨b0, e0, ew0, _⟩ := r0.slice
    subst ev0 ew0
    have h0 : Hid (Holds wr.drew c (.l l0 1 cs0) (.slice a0 l0 c0)) := q0.kept (Below.refl _ _).drew
    have g0' : Hid (Holds wr.drew c' (.l l0 1 cs0) (.slice b0 l0 e0)) := r0.kept (Below.refl _ _).drew
    clear q0 r0 F0 E0
    obtain ⟨u1, d1, q1⟩ := hcell (k * 3 + 1) (by omega)
    obtain ⟨v1, g1, r1⟩ := hcell' (k * 3 + 1) (by omega)
    rw [← Nat.add_assoc] at d1 g1
    obtain ⟨x1, E1⟩ := (hf.out.cell hlt (c := 1) (by decide)).int
    have E1 : cs (k * 3 + 1) = .n x1 := E1
    rw [E1] at q1 r1
    have q1 : u1 = .int .i64 x1 := q1
    have r1 : v1 = .int .i64 x1 := r1
    subst q1 r1
    clear E1
    obtain ⟨u2, d2, q2⟩ := hcell (k * 3 + 2) (by omega)
    obtain ⟨v2, g2, r2⟩ := hcell' (k * 3 + 2) (by omega)
    rw [← Nat.add_assoc] at d2 g2
    obtain ⟨x2, E2⟩ := (hf.out.cell hlt (c := 2) (by decide)).bool
    have E2 : cs (k * 3 + 2) = .t x2 := E2
    rw [E2] at q2 r2
    have q2 : u2 = .bool x2 := q2
    have r2 : v2 = .bool x2 := r2
    subst q2 r2
    clear E2
    clear hcell hcell'
    have HD : Hid (Below W.heap.size W wr.drew) := HB.out.drew
    go_wp2_with fail
    go_region_with (go_at_call 59; refine (Cell_eq _ _ _ cs0 x1 x2 _ _ c c' _ hf0 hs0 h0 g0').mono ?_; rintro e w' ⟨rfl, hb⟩; have HX : Hid (Below W.heap.size W w') := HD.out.trans (hb.mono HD.out.size); clear hb)
    all_goals
      go_wp2
      go_roundw
      case rel => exact ⟨k + 1, by omega, by go_num, HX.out⟩
      case measure => simp [intOf]; omega
set_option maxRecDepth 100000 in
set_option maxHeartbeats 4000000 in
theorem CellS_mark (k0 : Int) (h0 : 0 ≤ k0) (h1 : k0 ≤ 1000000000) (a : Option Addr) (len cap : Nat) (cs : Nat → Dv) (c : Bool) (W : World) (B : Nat) (F : Nat → Prop) (hf : Hid (Fits shCellS (.l len 3 cs))) (hs : Hid (szD (.l len 3 cs) ≤ 1048576)) (h : Hid (Owns W c B (.l len 3 cs) (.slice a len cap) F)) :
    Calls Try.prog 34 #[.slice a len cap, .int .i64 k0] W fun e W' => e = .returned (.int .i64 (k0 + (cntD (.l len 3 cs) : Nat))) ∧ Owns W' c B (mkD k0 (.l len 3 cs)) (.slice a len cap) F ∧ OnlyF W W' F := by
  have hlen : len ≤ 1048576 := Nat.le_trans (Nat.le_add_right _ _) hs.out
  have hcn : sumTo (fun j => cntD (cs j)) (len * 3) ≤ 8388609 := by have q := cnt_le thin_CellS hf.out; have q2 := hs.out; simp only [cntD] at q; omega
  have hmo : ∀ m, m ≤ len * 3 → sumTo (fun j => cntD (cs j)) m ≤ 8388609 := fun m hm => Nat.le_trans (sumTo_mono _ _ hm) hcn
  have HMO : Hid (∀ m, m ≤ len * 3 → sumTo (fun j => cntD (cs j)) m ≤ 8388609) := hmo
  clear hcn hmo
  go_enter Try.func34, Try.ntmps34
  go_wp2
  go_loopw [1, 5] (fun vk vi wr => ∃ k : Nat, k ≤ len ∧ vi = .int .i64 k ∧ vk = .int .i64 (k0 + (sumTo (fun j => cntD (cs j)) (k * 3) : Nat)) ∧ Hid (Owns wr c B (.l len 3 (fun j => if j < k * 3 then mkD (k0 + (sumTo (fun j => cntD (cs j)) j : Nat)) (cs j) else cs j)) (.slice a len cap) F) ∧ Hid (OnlyF W wr F)) (fun _ vi _ => len - (intOf vi).toNat)
  case atStart => exact ⟨0, Nat.zero_le _, rfl, by simp [sumTo], h.out.congr (fun i hi => by rw [if_neg (by omega)]), OnlyF.refl _ _⟩
  case round =>
    obtain ⟨k, hk, rfl, rfl, HO, HB⟩ := hrel
    by_cases hlt : k < len
    rotate_left
    · have HK : Hid (k = len) := by show k = len; omega
      go_wp2
      go_ret
      refine ⟨by rw [HK.out]; rfl, ?_, HB.out⟩
      exact HO.out.congr (fun i hi => by rw [if_pos (by rw [HK.out]; exact hi)])
    have hltI : (k : Int) < (len : Int) := by omega
    have hkn : (k + 1) * 3 ≤ len * 3 := Nat.mul_le_mul_right _ hlt
    rw [Nat.add_mul] at hkn
    obtain ⟨b, o, ha, hbw⟩ := HO.out.addr (show 0 < len * 3 by omega)
    subst ha
    have hk1 := HMO.out (k * 3) (by omega)
    obtain ⟨kk, HKK⟩ : ∃ kk : Int, Hid (k0 + (sumTo (fun j => cntD (cs j)) (k * 3) : Nat) = kk) := ⟨_, rfl⟩
    have kk0 : 0 ≤ kk := by have := HKK.out; omega
    have kk1 : kk ≤ 1000000000 + 8388609 := by have := HKK.out; omega
    rw [HKK.out]
    clear hk1
    obtain ⟨l0, cs0, E0, F0⟩ := (hf.out.cell hlt (c := 0) (by decide)).list
    have E0 : cs (k * 3) = .l l0 1 cs0 := E0
    have hs0 : Hid (szD (.l l0 1 cs0) ≤ 1048576) := by have q := sz_at (len := len) (sz := 3) (cs := cs) (i := k * 3) (by omega); rw [E0] at q; exact Nat.le_trans q hs.out
    have E0 : Hid (cs (k * 3) = .l l0 1 cs0) := E0
    have hf0 : Hid (Fits shI (.l l0 1 cs0)) := ⟨rfl, F0⟩
    clear F0
    have hcn0 : cntD (.l l0 1 cs0) ≤ 8388609 := by have q := cnt_le (s := shI) ⟨by decide, fun _ => trivial⟩ hf0.out; have q2 := hs0.out; omega
    obtain ⟨N0, HN0⟩ : ∃ N, Hid (cntD (.l l0 1 cs0) = N) := ⟨_, rfl⟩
    rw [HN0.out] at hcn0
    obtain ⟨x1, E1⟩ := (hf.out.cell hlt (c := 1) (by decide)).int
    have E1 : Hid (cs (k * 3 + 1) = .n x1) := E1
    obtain ⟨x2, E2⟩ := (hf.out.cell hlt (c := 2) (by decide)).bool
    have E2 : Hid (cs (k * 3 + 2) = .t x2) := E2
    have HO0 : Hid (Owns wr c B (.l len 3 (fun j => if j < k * 3 then mkD (k0 + (sumTo (fun j => cntD (cs j)) j : Nat)) (cs j) else cs j)) (.slice (some ⟨b, o, none⟩) len cap) F) := HO
    clear HO
    obtain ⟨a0, c0, H0, d0, o0, s0⟩ := HO0.out.sub (j := k * 3) (l := l0) (z := 1) (es := cs0) (by omega) (by show (if _ then _ else _) = _; rw [if_neg (by omega)]; exact E0.out)
    have S0 : Hid (∀ w' d', OnlyF wr w' H0 → Owns w' c B d' (.slice a0 l0 c0) H0 → Owns w' c B (.l len 3 (updD (fun j => if j < k * 3 then mkD (k0 + (sumTo (fun j => cntD (cs j)) j : Nat)) (cs j) else cs j) (k * 3) d')) (.slice (some ⟨b, o, none⟩) len cap) F ∧ OnlyF wr w' F) := s0
    have O0 : Hid (Owns wr c B (.l l0 1 cs0) (.slice a0 l0 c0) H0) := o0
    clear s0 o0
    go_wp2_with fail
    refine (IntS_mark (kk) (by omega) (by omega) _ _ _ cs0 c _ B H0 hf0 (Nat.le_trans (Nat.le_add_right _ _) hs0.out) O0).mono ?_
    rintro e w0 ⟨rfl, hO, hF⟩
    obtain ⟨p0, r0⟩ := S0.out w0 _ hF hO
    have HO1 : Hid (Owns w0 c B (.l len 3 (updD (fun j => if j < k * 3 then mkD (k0 + (sumTo (fun j => cntD (cs j)) j : Nat)) (cs j) else cs j) (k * 3) (mkD (kk) (.l l0 1 cs0)))) (.slice (some ⟨b, o, none⟩) len cap) F) := p0
    have HB1 : Hid (OnlyF W w0 F) := HB.out.trans r0
    have hbw : b < w0.heap.size := by have q1 := r0.size; omega
    rw [HN0.out]
    clear hO hF p0 r0 S0 O0
    obtain ⟨d1, f1, s1⟩ := HO1.out.num (j := k * 3 + 1) (y := x1) (by omega) (by rw [updD_other _ _ (show k * 3 + 1 ≠ k * 3 by omega)]; show (if _ then _ else _) = _; rw [if_neg (by omega)]; exact E1.out)
    obtain ⟨s1, t1⟩ := s1 (kk + (N0 : Int))
    rw [← Nat.add_assoc] at d1 f1 s1 t1
    have HO2 : Hid (Owns (w0.setCell ⟨b, o + k * 3 + 1, none⟩ (.int .i64 (kk + (N0 : Int)))) c B (.l len 3 (updD (updD (fun j => if j < k * 3 then mkD (k0 + (sumTo (fun j => cntD (cs j)) j : Nat)) (cs j) else cs j) (k * 3) (mkD (kk) (.l l0 1 cs0))) (k * 3 + 1) (.n (kk + (N0 : Int))))) (.slice (some ⟨b, o, none⟩) len cap) F) := s1
    have HB2 : Hid (OnlyF W (w0.setCell ⟨b, o + k * 3 + 1, none⟩ (.int .i64 (kk + (N0 : Int)))) F) := HB1.out.trans t1
    clear s1 t1
    obtain ⟨d2, f2, s2⟩ := HO2.out.tru (j := k * 3 + 2) (y := x2) (by omega) (by rw [updD_other _ _ (show k * 3 + 2 ≠ k * 3 + 1 by omega)]; rw [updD_other _ _ (show k * 3 + 2 ≠ k * 3 by omega)]; show (if _ then _ else _) = _; rw [if_neg (by omega)]; exact E2.out)
    obtain ⟨s2, t2⟩ := s2 ((kk + (N0 : Int) + 1) % 3 == 0)
    rw [← Nat.add_assoc] at d2 f2 s2 t2
    have HO3 : Hid (Owns ((w0.setCell ⟨b, o + k * 3 + 1, none⟩ (.int .i64 (kk + (N0 : Int)))).setCell ⟨b, o + k * 3 + 2, none⟩ (.bool ((kk + (N0 : Int) + 1) % 3 == 0))) c B (.l len 3 (updD (updD (updD (fun j => if j < k * 3 then mkD (k0 + (sumTo (fun j => cntD (cs j)) j : Nat)) (cs j) else cs j) (k * 3) (mkD (kk) (.l l0 1 cs0))) (k * 3 + 1) (.n (kk + (N0 : Int)))) (k * 3 + 2) (.t ((kk + (N0 : Int) + 1) % 3 == 0)))) (.slice (some ⟨b, o, none⟩) len cap) F) := s2
    have HB3 : Hid (OnlyF W ((w0.setCell ⟨b, o + k * 3 + 1, none⟩ (.int .i64 (kk + (N0 : Int)))).setCell ⟨b, o + k * 3 + 2, none⟩ (.bool ((kk + (N0 : Int) + 1) % 3 == 0))) F) := HB2.out.trans t2
    clear s2 t2
    go_wp2
    go_roundw
    case rel =>
      have e1 : sumTo (fun j => cntD (cs j)) ((k + 1) * 3) = sumTo (fun j => cntD (cs j)) (k * 3) + cntD (cs (k * 3)) + cntD (cs (k * 3 + 1)) + cntD (cs (k * 3 + 2)) := by rw [show (k + 1) * 3 = k * 3 + 1 + 1 + 1 by omega]; rfl
      have n0 : cntD (cs (k * 3)) = N0 := by rw [E0.out]; exact HN0.out
      have n1 : cntD (cs (k * 3 + 1)) = 1 := by rw [E1.out]; exact rfl
      have n2 : cntD (cs (k * 3 + 2)) = 1 := by rw [E2.out]; exact rfl
      have m1 : sumTo (fun j => cntD (cs j)) (k * 3 + 1) = sumTo (fun j => cntD (cs j)) (k * 3) + cntD (cs (k * 3)) := rfl
      have m2 : sumTo (fun j => cntD (cs j)) (k * 3 + 2) = sumTo (fun j => cntD (cs j)) (k * 3) + cntD (cs (k * 3)) + cntD (cs (k * 3 + 1)) := rfl
      have hkk := HKK.out
      refine ⟨k + 1, by omega, by go_num, ?_, ?_, HB3⟩
      · rw [e1, n0, n1, n2]
        congr 1
        omega
      · refine HO3.out.congr ?_
        intro j hj
        rcases (show j = k * 3 ∨ j = k * 3 + 1 ∨ j = k * 3 + 2 ∨ j < k * 3 ∨ (k + 1) * 3 ≤ j by omega) with e0 | e0 | e0 | h | h
        · rw [e0, if_pos (show k * 3 < (k + 1) * 3 by omega), updD_other _ _ (show k * 3 ≠ k * 3 + 2 by omega), updD_other _ _ (show k * 3 ≠ k * 3 + 1 by omega), updD_same, E0.out]
          rw [show k0 + (sumTo (fun j => cntD (cs j)) (k * 3) : Nat) = kk by omega]
        · rw [e0, if_pos (show k * 3 + 1 < (k + 1) * 3 by omega), updD_other _ _ (show k * 3 + 1 ≠ k * 3 + 2 by omega), updD_same, E1.out]
          rw [show k0 + (sumTo (fun j => cntD (cs j)) (k * 3 + 1) : Nat) = kk + (N0 : Int) by rw [m1, n0]; omega]
          rfl
        · rw [e0, if_pos (show k * 3 + 2 < (k + 1) * 3 by omega), updD_same, E2.out]
          rw [show k0 + (sumTo (fun j => cntD (cs j)) (k * 3 + 2) : Nat) = kk + (N0 : Int) + 1 by rw [m2, n0, n1]; omega]
          rfl
        · rw [updD_other _ _ (show j ≠ k * 3 + 2 by omega), updD_other _ _ (show j ≠ k * 3 + 1 by omega), updD_other _ _ (show j ≠ k * 3 by omega), if_pos h, if_pos (show j < (k + 1) * 3 by omega)]
        · rw [updD_other _ _ (show j ≠ k * 3 + 2 by omega), updD_other _ _ (show j ≠ k * 3 + 1 by omega), updD_other _ _ (show j ≠ k * 3 by omega), if_neg (show ¬ j < k * 3 by omega), if_neg (show ¬ j < (k + 1) * 3 by omega)]
    case measure => simp [intOf]; omega
set_option maxRecDepth 100000 in
set_option maxHeartbeats 4000000 in
theorem CellS_held (k0 : Int) (h0 : 0 ≤ k0) (a : Option Addr) (len cap : Nat) (cs : Nat → Dv) (c : Bool) (W : World) (hf : Hid (Fits shCellS (.l len 3 cs))) (hs : Hid (szD (.l len 3 cs) ≤ 1048576)) (h1 : k0 + (cntD (.l len 3 cs) : Nat) ≤ 16777216) (h : Hid (Holds W c (mkD k0 (.l len 3 cs)) (.slice a len cap))) :
    Calls Try.prog 35 #[.slice a len cap, .int .i64 k0] W fun e W' => e = .returned (.int .i64 (k0 + (cntD (.l len 3 cs) : Nat))) ∧ W' = W := by
  have hlen : len ≤ 1048576 := Nat.le_trans (Nat.le_add_right _ _) hs.out
  have hmo : ∀ m, m ≤ len * 3 → k0 + (sumTo (fun j => cntD (cs j)) m : Nat) ≤ 16777216 := fun m hm => by have q := sumTo_mono (fun j => cntD (cs j)) _ hm; have q2 : k0 + (sumTo (fun j => cntD (cs j)) (len * 3) : Nat) ≤ 16777216 := h1; omega
  have HMO : Hid (∀ m, m ≤ len * 3 → k0 + (sumTo (fun j => cntD (cs j)) m : Nat) ≤ 16777216) := hmo
  clear hmo h1
  have H : Hid (Holds W c (.l len 3 (fun j => mkD (k0 + (sumTo (fun j => cntD (cs j)) j : Nat)) (cs j))) (.slice a len cap)) := h
  clear h
  go_enter Try.func35, Try.ntmps35
  go_wp2
  go_loop [1, 5] (fun vk vi => ∃ k : Nat, k ≤ len ∧ vi = .int .i64 k ∧ vk = .int .i64 (k0 + (sumTo (fun j => cntD (cs j)) (k * 3) : Nat))) (fun _ vi => len - (intOf vi).toNat)
  case atStart => exact ⟨0, Nat.zero_le _, rfl, by simp [sumTo]⟩
  case round =>
    obtain ⟨k, hk, rfl, rfl⟩ := hrel
    by_cases hlt : k < len
    rotate_left
    · have HK : Hid (k = len) := by show k = len; omega
      go_wp2
      go_ret
      exact ⟨by rw [HK.out]; rfl, rfl⟩
    have hltI : (k : Int) < (len : Int) := by omega
    have hkn : (k + 1) * 3 ≤ len * 3 := Nat.mul_le_mul_right _ hlt
    rw [Nat.add_mul] at hkn
    obtain ⟨b, o, ha, hb, hcell⟩ := H.out.cells (Below.refl _ _) (show 0 < len * 3 by omega)
    subst ha
    have hk1 := HMO.out (k * 3) (by omega)
    have HLAST := HMO.out ((k + 1) * 3) (by omega)
    obtain ⟨kk, HKK⟩ : ∃ kk : Int, Hid (k0 + (sumTo (fun j => cntD (cs j)) (k * 3) : Nat) = kk) := ⟨_, rfl⟩
    have kk0 : 0 ≤ kk := by have := HKK.out; omega
    have kk1 : kk ≤ 16777216 := by have := HKK.out; omega
    rw [HKK.out]
    clear hk1
    have e1 : sumTo (fun j => cntD (cs j)) ((k + 1) * 3) = sumTo (fun j => cntD (cs j)) (k * 3) + cntD (cs (k * 3)) + cntD (cs (k * 3 + 1)) + cntD (cs (k * 3 + 2)) := by rw [show (k + 1) * 3 = k * 3 + 1 + 1 + 1 by omega]; rfl
    obtain ⟨l0, cs0, E0, F0⟩ := (hf.out.cell hlt (c := 0) (by decide)).list
    have E0 : cs (k * 3) = .l l0 1 cs0 := E0
    have hs0 : Hid (szD (.l l0 1 cs0) ≤ 1048576) := by have q := sz_at (len := len) (sz := 3) (cs := cs) (i := k * 3) (by omega); rw [E0] at q; exact Nat.le_trans q hs.out
    have hf0 : Hid (Fits shI (.l l0 1 cs0)) := ⟨rfl, F0⟩
    clear F0
    obtain ⟨N0, HN0⟩ : ∃ N, Hid (cntD (.l l0 1 cs0) = N) := ⟨_, rfl⟩
    have n0 : cntD (cs (k * 3)) = N0 := by rw [E0]; exact HN0.out
    obtain ⟨u0, d0, q0⟩ := hcell (k * 3) (by omega)
    have v0 : k0 + (sumTo (fun j => cntD (cs j)) (k * 3) : Nat) = kk := by have q := HKK.out; exact q
    rw [v0, E0] at q0
    have h0 : Hid (Holds W c (mkD (kk) (.l l0 1 cs0)) u0) := q0
    obtain ⟨a0, c0, ev0, _⟩ := Holds.slice (sz := 1) h0.out
    subst ev0
    clear q0
    obtain ⟨x1, E1⟩ := (hf.out.cell hlt (c := 1) (by decide)).int
    have E1 : cs (k * 3 + 1) = .n x1 := E1
    have n1 : cntD (cs (k * 3 + 1)) = 1 := by rw [E1]; rfl
    obtain ⟨u1, d1, q1⟩ := hcell (k * 3 + 1) (by omega)
    rw [← Nat.add_assoc] at d1
    have m1 : sumTo (fun j => cntD (cs j)) (k * 3 + 1) = sumTo (fun j => cntD (cs j)) (k * 3) + cntD (cs (k * 3)) := rfl
    have v1 : k0 + (sumTo (fun j => cntD (cs j)) (k * 3 + 1) : Nat) = kk + (N0 : Int) := by have q := HKK.out; rw [m1, n0]; omega
    rw [v1, E1] at q1
    have q1 : u1 = .int .i64 (kk + (N0 : Int)) := q1
    subst q1
    obtain ⟨x2, E2⟩ := (hf.out.cell hlt (c := 2) (by decide)).bool
    have E2 : cs (k * 3 + 2) = .t x2 := E2
    have n2 : cntD (cs (k * 3 + 2)) = 1 := by rw [E2]; rfl
    obtain ⟨u2, d2, q2⟩ := hcell (k * 3 + 2) (by omega)
    rw [← Nat.add_assoc] at d2
    have m2 : sumTo (fun j => cntD (cs j)) (k * 3 + 2) = sumTo (fun j => cntD (cs j)) (k * 3) + cntD (cs (k * 3)) + cntD (cs (k * 3 + 1)) := rfl
    have v2 : k0 + (sumTo (fun j => cntD (cs j)) (k * 3 + 2) : Nat) = kk + (N0 : Int) + 1 := by have q := HKK.out; rw [m2, n0, n1]; omega
    rw [v2, E2] at q2
    have q2 : u2 = .bool ((kk + (N0 : Int) + 1) % 3 == 0) := q2
    subst q2
    rw [e1, n0, n1, n2] at HLAST
    have LAST : kk + (N0 : Int) + 1 + 1 ≤ 16777216 := by have q := HKK.out; omega
    have HL0 : Hid ((kk) + (cntD (.l l0 1 cs0) : Nat) ≤ 16777216) := by show _ ≤ _; rw [HN0.out]; omega
    have HE : Hid (kk + (N0 : Int) + 1 + 1 = k0 + (sumTo (fun j => cntD (cs j)) ((k + 1) * 3) : Nat)) := by show _ = _; rw [e1, n0, n1, n2]; have q := HKK.out; omega
    clear HLAST hcell e1 v0 n0 E0 v1 n1 E1 v2 n2 E2 m1 m2
    have kn0 : 0 ≤ kk := by omega
    have kp0 : 0 ≤ kk + (N0 : Int) := by omega
    go_wp2_with fail
    refine (IntS_held (kk) (by omega) (by omega) _ _ _ cs0 c _ hf0 (Nat.le_trans (Nat.le_add_right _ _) hs0.out) h0).mono ?_
    rintro e w' ⟨rfl, hw⟩
    rw [hw, HN0.out]
    clear hw w'
    have bb2 : (((kk + (N0 : Int) + 1) % 3 == 0) != ((kk + (N0 : Int) + 1) % 3 == 0)) = false := by simp
    go_wp2
    go_round
    case rel => exact ⟨k + 1, by omega, by go_num, by rw [← HE.out]⟩
    case measure => simp [intOf]; omega
set_option maxRecDepth 100000 in
set_option maxHeartbeats 4000000 in
theorem Cell_size (a0 : Option Addr) (l0 c0 : Nat) (cs0 : Nat → Dv) (x1 : Int) (x2 : Bool) (l : Int) (c : Bool) (W : World) (hf0 : Hid (Fits shI (.l l0 1 cs0))) (hl0 : Hid (Lens (.l l0 1 cs0))) (h0 : Hid (Holds W c (.l l0 1 cs0) (.slice a0 l0 c0))) (hq0 : 0 ≤ l) (hq1 : l ≤ 1048576) : Calls Try.prog 60 #[.agg #[.slice a0 l0 c0, .int .i64 x1, .bool x2], .int .i64 l] W fun e W' => e = .returned (.int .i64 (if (szD (.l l0 1 cs0) : Int) ≤ l then l - ((szD (.l l0 1 cs0) : Int)) else -1)) ∧ Below W.heap.size W W' := by
  obtain ⟨N0, HN0⟩ : ∃ N, Hid (szD (.l l0 1 cs0) = N) := ⟨_, rfl⟩
  rw [HN0.out]
  obtain ⟨R, HR⟩ : ∃ R : Int, Hid ((if (N0 : Int) ≤ l then l - ((N0 : Int)) else -1) = R) := ⟨_, rfl⟩
  rw [HR.out]
  have HRN : Hid (¬ ((N0 : Int) ≤ l) → R = -1) := fun q => by rw [← HR.out, if_neg q]
  have HRP : Hid ((N0 : Int) ≤ l → R = l - ((N0 : Int))) := fun q => by rw [← HR.out, if_pos q]
  clear HR
  go_enter Try.func60, Try.ntmps60
  obtain ⟨X0, EX0⟩ : ∃ X, X = W.alloc (.cells #[.slice a0 l0 c0, .int .i64 x1, .bool x2] 82) := ⟨_, rfl⟩
  have RA : Hid (X0.rowIs W.heap.size 82 3 (rowF [.slice a0 l0 c0, .int .i64 x1, .bool x2])) := by rw [EX0]; exact row_of W #[.slice a0 l0 c0, .int .i64 x1, .bool x2] 82
  have B0 : Hid (Below W.heap.size W X0) := by rw [EX0]; show Below _ _ _; go_grown
  go_wp2_with fail
  rw [← EX0]
  clear EX0
  refine (IntS_size _ _ _ cs0 (l) _ hf0 hl0 (by omega) (by omega)).mono ?_
  rw [HN0.out]
  rintro e w0 ⟨rfl, hE⟩
  have hB : Below X0.heap.size X0 w0 := by rw [hE]; exact Below.refl _ _
  clear hE
  have A0 : Hid (w0.rowIs W.heap.size 82 3 (rowF [.slice a0 l0 c0, .int .i64 x1, .bool x2])) := RA.out.of_block (hB.block _ RA.out.lt)
  have BB0 : Hid (Below W.heap.size W w0) := B0.out.trans (hB.mono B0.out.size)
  clear hB RA B0
  by_cases q0 : (N0 : Int) ≤ l
  rotate_left
  · rw [if_neg q0]
    have HM : Hid (R = -1) := HRN.out (by omega)
    go_wp2
    go_ret
    exact ⟨by rw [HM.out]; rfl, BB0.out⟩
  rw [if_pos q0]
  have le0 : 0 ≤ l - (N0 : Int) := by omega
  have HE : Hid (R = l - (N0 : Int)) := by have q := HRP.out (by omega); show _ = _; omega
  go_wp2
  go_ret
  exact ⟨by rw [HE.out]; rfl, BB0.out⟩
set_option maxRecDepth 100000 in
set_option maxHeartbeats 4000000 in
theorem CellS_size (a : Option Addr) (len cap : Nat) (cs : Nat → Dv) (l : Int) (c : Bool) (W : World) (hf : Hid (Fits shCellS (.l len 3 cs))) (hl : Hid (Lens (.l len 3 cs))) (h : Hid (Holds W c (.l len 3 cs) (.slice a len cap))) (h0 : 0 ≤ l) (h1 : l ≤ 1048576) :
    Calls Try.prog 36 #[.slice a len cap, .int .i64 l] W fun e W' => e = .returned (.int .i64 (if (szD (.l len 3 cs) : Int) ≤ l then l - (szD (.l len 3 cs) : Int) else -1)) ∧ Below W.heap.size W W' := by
  have hm := hl.out.1
  unfold maxLen at hm
  have hdef : szD (.l len 3 cs) = len + sumTo (fun j => szD (cs j)) (len * 3) := rfl
  have HDEF : Hid (szD (.l len 3 cs) = len + sumTo (fun j => szD (cs j)) (len * 3)) := hdef
  clear hdef
  obtain ⟨R, HR⟩ : ∃ R : Int, Hid ((if (szD (.l len 3 cs) : Int) ≤ l then l - (szD (.l len 3 cs) : Int) else -1) = R) := ⟨_, rfl⟩
  rw [HR.out]
  have HRN : Hid (¬ ((szD (.l len 3 cs) : Int) ≤ l) → R = -1) := fun q => by rw [← HR.out, if_neg q]
  have HRP : Hid ((szD (.l len 3 cs) : Int) ≤ l → R = l - (szD (.l len 3 cs) : Int)) := fun q => by rw [← HR.out, if_pos q]
  clear HR
  by_cases hq : (len : Int) ≤ l
  rotate_left
  · have HM : Hid (R = -1) := HRN.out (by have := HDEF.out; omega)
    have h' : l < (len : Int) := by omega
    clear hq
    go_enter Try.func36, Try.ntmps36
    go_wp2
    go_ret
    exact ⟨by rw [HM.out]; rfl, Below.refl _ _⟩
  have hlen : len ≤ 1048576 := by omega
  go_enter Try.func36, Try.ntmps36
  go_wp2
  go_loopw [1, 5] (fun vl vi wr => ∃ k : Nat, k ≤ len ∧ vi = .int .i64 k ∧ vl = .int .i64 (l - (len : Int) - (sumTo (fun j => szD (cs j)) (k * 3) : Nat)) ∧ 0 ≤ l - (len : Int) - (sumTo (fun j => szD (cs j)) (k * 3) : Nat) ∧ Hid (Below W.heap.size W wr)) (fun _ vi _ => len - (intOf vi).toNat)
  case atStart => exact ⟨0, Nat.zero_le _, rfl, by simp [sumTo], by simp [sumTo]; omega, Below.refl _ _⟩
  case round =>
    obtain ⟨k, hk, rfl, rfl, hge, HB⟩ := hrel
    by_cases hlt : k < len
    rotate_left
    · have HK : Hid (k = len) := by show k = len; omega
      rw [HK.out] at hge ⊢
      have HE : Hid (R = l - (len : Int) - (sumTo (fun j => szD (cs j)) (len * 3) : Nat)) := by show _ = _; have q1 := HDEF.out; have q2 := HRP.out (by omega); omega
      go_wp2
      go_ret
      exact ⟨by rw [HE.out]; rfl, HB.out⟩
    have hltI : (k : Int) < (len : Int) := by omega
    have hkn : (k + 1) * 3 ≤ len * 3 := Nat.mul_le_mul_right _ hlt
    rw [Nat.add_mul] at hkn
    obtain ⟨b, o, ha, hb, hcell⟩ := h.out.cells HB.out (show 0 < len * 3 by omega)
    subst ha
    have hbw : b < wr.heap.size := by have := HB.out.size; omega
    have HTOT : Hid ((sumTo (fun j => szD (cs j)) ((k + 1) * 3) : Nat) ≤ sumTo (fun j => szD (cs j)) (len * 3)) := sumTo_mono _ _ (by omega)
    obtain ⟨kk, HKK⟩ : ∃ kk : Int, Hid (l - (len : Int) - (sumTo (fun j => szD (cs j)) (k * 3) : Nat) = kk) := ⟨_, rfl⟩
    rw [HKK.out] at hge ⊢
    have kk1 : kk ≤ 1048576 := by have := HKK.out; omega
    obtain ⟨u0, d0, q0⟩ := hcell (k * 3) (by omega)
    obtain ⟨l0, cs0, E0, F0⟩ := (hf.out.cell hlt (c := 0) (by decide)).list
    have E0 : cs (k * 3) = .l l0 1 cs0 := E0
    have hl0 : Hid (Lens (.l l0 1 cs0)) := by have q := hl.out.2 (k * 3) (by omega); rw [E0] at q; exact q
    have hf0 : Hid (Fits shI (.l l0 1 cs0)) := ⟨rfl, F0⟩
    clear F0
    obtain ⟨N0, HN0⟩ : ∃ N, Hid (szD (.l l0 1 cs0) = N) := ⟨_, rfl⟩
    have n0 : szD (cs (k * 3)) = N0 := by rw [E0]; exact HN0.out
    rw [E0] at q0
    obtain ⟨a0, c0, ev0, _⟩ := q0.slice
    subst ev0
    have h0 : Hid (Holds wr c (.l l0 1 cs0) (.slice a0 l0 c0)) := q0
    clear q0
    obtain ⟨u1, d1, q1⟩ := hcell (k * 3 + 1) (by omega)
    rw [← Nat.add_assoc] at d1
    obtain ⟨x1, E1⟩ := (hf.out.cell hlt (c := 1) (by decide)).int
    have E1 : cs (k * 3 + 1) = .n x1 := E1
    rw [E1] at q1
    have q1 : u1 = .int .i64 x1 := q1
    subst q1
    have n1 : szD (cs (k * 3 + 1)) = 0 := by rw [E1]; rfl
    obtain ⟨u2, d2, q2⟩ := hcell (k * 3 + 2) (by omega)
    rw [← Nat.add_assoc] at d2
    obtain ⟨x2, E2⟩ := (hf.out.cell hlt (c := 2) (by decide)).bool
    have E2 : cs (k * 3 + 2) = .t x2 := E2
    rw [E2] at q2
    have q2 : u2 = .bool x2 := q2
    subst q2
    have n2 : szD (cs (k * 3 + 2)) = 0 := by rw [E2]; rfl
    have HE : Hid ((sumTo (fun j => szD (cs j)) ((k + 1) * 3) : Nat) = (sumTo (fun j => szD (cs j)) (k * 3) : Nat) + N0) := by show _ = _; rw [show (k + 1) * 3 = k * 3 + 1 + 1 + 1 by omega]; simp only [sumTo, n0, n1, n2]; try omega
    clear hcell
    go_wp2_with fail
    refine (Cell_size _ _ _ cs0 x1 x2 kk c _ hf0 hl0 h0 (by omega) (by omega)).mono ?_
    rw [HN0.out]
    rintro e w1 ⟨rfl, hB⟩
    have HB1 : Hid (Below W.heap.size W w1) := HB.out.trans (hB.mono HB.out.size)
    clear hB
    by_cases qn : (N0 : Int) ≤ kk
    rotate_left
    · rw [if_neg qn]
      have HM : Hid (R = -1) := HRN.out (by have q1 := HDEF.out; have q2 := HTOT.out; have q3 := HE.out; have q4 := HKK.out; omega)
      go_wp2
      go_ret
      exact ⟨by rw [HM.out]; rfl, HB1.out⟩
    rw [if_pos qn]
    have kp : 0 ≤ kk - (N0 : Int) := by omega
    have HV : Hid (kk - (N0 : Int) = l - (len : Int) - (sumTo (fun j => szD (cs j)) ((k + 1) * 3) : Nat)) := by show _ = _; have q3 := HE.out; have q4 := HKK.out; omega
    go_wp2
    go_roundw
    case rel => exact ⟨k + 1, by omega, by go_num, by rw [← HV.out], by rw [← HV.out]; exact kp, HB1⟩
    case measure => simp [intOf]; omega
set_option maxRecDepth 100000 in
set_option maxHeartbeats 4000000 in
theorem Marker_to (a0 : Option Addr) (l0 c0 : Nat) (cs0 : Nat → Dv) (a1 : Option Addr) (l1 c1 : Nat) (cs1 : Nat → Dv) (x2 : Bool) (c : Bool) (W : World) (hf0 : Hid (Fits shCellS (.l l0 3 cs0))) (hs0 : Hid (szD (.l l0 3 cs0) ≤ 1048576)) (h0 : Hid (Holds W c (.l l0 3 cs0) (.slice a0 l0 c0))) (hf1 : Hid (Fits shI (.l l1 1 cs1))) (hs1 : Hid (szD (.l l1 1 cs1) ≤ 1048576)) (h1 : Hid (Holds W c (.l l1 1 cs1) (.slice a1 l1 c1))) : Calls Try.prog 16 #[.agg #[.slice a0 l0 c0, .slice a1 l1 c1, .bool x2]] W fun e W' => ∃ g0 g1 p1, e = .returned (.agg #[.slice (some ⟨g0, 0, none⟩) l0 l0, .slice (some ⟨g1, 0, none⟩) l1 l1, .bool x2]) ∧ Owns W' true W.heap.size (.l l0 3 cs0) (.slice (some ⟨g0, 0, none⟩) l0 l0) (rng W.heap.size p1) ∧ Owns W' true W.heap.size (.l l1 1 cs1) (.slice (some ⟨g1, 0, none⟩) l1 l1) (rng p1 W'.heap.size) ∧ W.heap.size ≤ p1 ∧ p1 ≤ W'.heap.size ∧ Below W.heap.size W W' := by
  go_enter Try.func16, Try.ntmps16
  obtain ⟨X0, EX0⟩ : ∃ X, X = ((W.alloc (.cells #[.slice a0 l0 c0, .slice a1 l1 c1, .bool x2] 33)).alloc (.cells #[.slice none 0 0, .slice none 0 0, .bool false] 25)).alloc (.cells #[.slice none 0 0, .slice none 0 0, .bool false] 25) := ⟨_, rfl⟩
  have RA : Hid (X0.rowIs W.heap.size 33 3 (rowF [.slice a0 l0 c0, .slice a1 l1 c1, .bool x2])) := by rw [EX0]; exact ((row_of W #[.slice a0 l0 c0, .slice a1 l1 c1, .bool x2] 33).alloc _).alloc _
  have RR : Hid (X0.rowIs (W.heap.size + 1) 25 3 (rowF [.slice none 0 0, .slice none 0 0, .bool false])) := by
    rw [EX0]
    have q := (row_of (W.alloc (.cells #[.slice a0 l0 c0, .slice a1 l1 c1, .bool x2] 33)) #[.slice none 0 0, .slice none 0 0, .bool false] 25)
    rw [show (W.alloc (.cells #[.slice a0 l0 c0, .slice a1 l1 c1, .bool x2] 33)).heap.size = W.heap.size + 1 by simp] at q
    exact q.alloc _
  have RO : Hid (X0.rowIs (W.heap.size + 1 + 1) 25 3 (rowF [.slice none 0 0, .slice none 0 0, .bool false])) := by
    rw [EX0]
    have q := (row_of ((W.alloc (.cells #[.slice a0 l0 c0, .slice a1 l1 c1, .bool x2] 33)).alloc (.cells #[.slice none 0 0, .slice none 0 0, .bool false] 25)) #[.slice none 0 0, .slice none 0 0, .bool false] 25)
    rw [show ((W.alloc (.cells #[.slice a0 l0 c0, .slice a1 l1 c1, .bool x2] 33)).alloc (.cells #[.slice none 0 0, .slice none 0 0, .bool false] 25)).heap.size = W.heap.size + 1 + 1 by simp] at q
    exact q
  have B0 : Hid (Below W.heap.size W X0) := by rw [EX0]; show Below _ _ _; go_grown
  have s0 : X0.heap.size = W.heap.size + 1 + 1 + 1 := by rw [EX0]; simp
  have x_0 : X0.cell? ⟨W.heap.size, 0, none⟩ = some (.slice a0 l0 c0) := RA.out.cell (i := 0) (by decide)
  have x_1 : X0.cell? ⟨W.heap.size, 1, none⟩ = some (.slice a1 l1 c1) := RA.out.cell (i := 1) (by decide)
  have x_2 : X0.cell? ⟨W.heap.size, 2, none⟩ = some (.bool x2) := RA.out.cell (i := 2) (by decide)
  have o_0 : X0.cell? ⟨W.heap.size + 1 + 1, 0, none⟩ = some (.slice none 0 0) := RO.out.cell (i := 0) (by decide)
  have p_0 : X0.frozen? ⟨W.heap.size + 1 + 1, 0, none⟩ = false := RO.out.frozen 0
  have o_1 : X0.cell? ⟨W.heap.size + 1 + 1, 1, none⟩ = some (.slice none 0 0) := RO.out.cell (i := 1) (by decide)
  have p_1 : X0.frozen? ⟨W.heap.size + 1 + 1, 1, none⟩ = false := RO.out.frozen 1
  have o_2 : X0.cell? ⟨W.heap.size + 1 + 1, 2, none⟩ = some (.bool false) := RO.out.cell (i := 2) (by decide)
  have p_2 : X0.frozen? ⟨W.heap.size + 1 + 1, 2, none⟩ = false := RO.out.frozen 2
  go_wp2_with fail
  rw [← EX0]
  clear x_0 o_0 p_0 x_1 o_1 p_1 x_2 o_2 p_2
  refine (CellS_to _ _ _ cs0 c _ hf0 hs0 (h0.out.kept B0.out)).mono ?_
  rintro e w0 ⟨rfl, hO, hB⟩
  have O0 : Hid (Owns w0 true X0.heap.size (.l l0 3 cs0) (.slice (some ⟨X0.heap.size, 0, none⟩) l0 l0) (rng X0.heap.size w0.heap.size)) := hO
  have sz0 : X0.heap.size ≤ w0.heap.size := hB.size
  have HA0 : Hid (w0.rowIs W.heap.size 33 3 (rowF [.slice a0 l0 c0, .slice a1 l1 c1, .bool x2])) := RA.out.of_block (hB.block _ RA.out.lt)
  have HR0 : Hid (w0.rowIs (W.heap.size + 1) 25 3 (rowF [.slice none 0 0, .slice none 0 0, .bool false])) := RR.out.of_block (hB.block _ RR.out.lt)
  have HO0 : Hid (w0.rowIs (W.heap.size + 1 + 1) 25 3 (rowF [.slice none 0 0, .slice none 0 0, .bool false])) := RO.out.of_block (hB.block _ RO.out.lt)
  have BB0 : Hid (Below W.heap.size W w0) := B0.out.trans (hB.mono B0.out.size)
  have lt0 : W.heap.size + 1 + 1 < w0.heap.size := HO0.out.lt
  have wl0 : W.heap.size + 1 + 1 < X0.heap.size := RO.out.lt
  obtain ⟨G0, hG0⟩ : ∃ g, X0.heap.size = g := ⟨_, rfl⟩
  rw [hG0] at O0 sz0 wl0 ⊢
  clear hO hB
  have x_dummy := True.intro
  have x_1 : w0.cell? ⟨W.heap.size, 1, none⟩ = some (.slice a1 l1 c1) := HA0.out.cell (i := 1) (by decide)
  have x_2 : w0.cell? ⟨W.heap.size, 2, none⟩ = some (.bool x2) := HA0.out.cell (i := 2) (by decide)
  have o_0 : w0.cell? ⟨W.heap.size + 1 + 1, 0, none⟩ = some (.slice none 0 0) := HO0.out.cell (i := 0) (by decide)
  have p_0 : w0.frozen? ⟨W.heap.size + 1 + 1, 0, none⟩ = false := HO0.out.frozen 0
  have o_1 : w0.cell? ⟨W.heap.size + 1 + 1, 1, none⟩ = some (.slice none 0 0) := HO0.out.cell (i := 1) (by decide)
  have p_1 : w0.frozen? ⟨W.heap.size + 1 + 1, 1, none⟩ = false := HO0.out.frozen 1
  have o_2 : w0.cell? ⟨W.heap.size + 1 + 1, 2, none⟩ = some (.bool false) := HO0.out.cell (i := 2) (by decide)
  have p_2 : w0.frozen? ⟨W.heap.size + 1 + 1, 2, none⟩ = false := HO0.out.frozen 2
  go_wp2_with fail
  obtain ⟨Y0, EY0⟩ : ∃ X, X = (w0.setCell ⟨W.heap.size + 1 + 1, 0, none⟩ (.slice (some ⟨G0, 0, none⟩) l0 l0)) := ⟨_, rfl⟩
  rw [← EY0]
  have RA0' : Hid (Y0.rowIs W.heap.size 33 3 (rowF [.slice a0 l0 c0, .slice a1 l1 c1, .bool x2])) := by rw [EY0]; exact (HA0.out.setOther (by show W.heap.size ≠ W.heap.size + 1 + 1; omega) _)
  have RR0' : Hid (Y0.rowIs (W.heap.size + 1) 25 3 (rowF [.slice none 0 0, .slice none 0 0, .bool false])) := by rw [EY0]; exact (HR0.out.setOther (by show W.heap.size + 1 ≠ W.heap.size + 1 + 1; omega) _)
  have RO0' : Hid (Y0.rowIs (W.heap.size + 1 + 1) 25 3 (rowF [.slice (some ⟨G0, 0, none⟩) l0 l0, .slice none 0 0, .bool false])) := by
    rw [EY0]
    refine World.rowIs.congr (HO0.out.set 0 (.slice (some ⟨G0, 0, none⟩) l0 l0)) (fun j hj => ?_)
    match j, hj with
    | 0, _ => rfl
    | 1, _ => rfl
    | 2, _ => rfl
    | j + 3, h => omega
  have BY0 : Hid (Below W.heap.size W Y0) := by
    rw [EY0]
    show Below _ _ _
    iterate 1 refine Below.setCell ?_ (by simp; try omega) _
    exact BB0.out
  have szY0 : Y0.heap.size = w0.heap.size := by rw [EY0]; simp [World.setCell]
  obtain ⟨N0, hN0⟩ : ∃ g, w0.heap.size = g := ⟨_, rfl⟩
  rw [hN0] at O0 sz0 lt0 szY0
  have O0 : Hid (Owns Y0 true G0 (.l l0 3 cs0) (.slice (some ⟨G0, 0, none⟩) l0 l0) (rng G0 N0)) := by
    rw [EY0]
    show Owns _ _ _ _ _ _
    iterate 1 refine far_set (by omega) ?_
    exact O0.out
  clear x_dummy o_0 p_0 o_1 p_1 o_2 p_2 x_1 x_2 HA0 HR0 HO0 BB0 EY0 hN0
  refine (IntS_to _ _ _ cs1 c _ hf1 (Nat.le_trans (Nat.le_add_right _ _) hs1.out) (h1.out.kept BY0.out)).mono ?_
  rintro e w1 ⟨rfl, hO, hB⟩
  have O1 : Hid (Owns w1 true Y0.heap.size (.l l1 1 cs1) (.slice (some ⟨Y0.heap.size, 0, none⟩) l1 l1) (rng Y0.heap.size w1.heap.size)) := hO
  have sz1 : Y0.heap.size ≤ w1.heap.size := hB.size
  have HA1 : Hid (w1.rowIs W.heap.size 33 3 (rowF [.slice a0 l0 c0, .slice a1 l1 c1, .bool x2])) := RA0'.out.of_block (hB.block _ RA0'.out.lt)
  have HR1 : Hid (w1.rowIs (W.heap.size + 1) 25 3 (rowF [.slice none 0 0, .slice none 0 0, .bool false])) := RR0'.out.of_block (hB.block _ RR0'.out.lt)
  have HO1 : Hid (w1.rowIs (W.heap.size + 1 + 1) 25 3 (rowF [.slice (some ⟨G0, 0, none⟩) l0 l0, .slice none 0 0, .bool false])) := RO0'.out.of_block (hB.block _ RO0'.out.lt)
  have O0 : Hid (Owns w1 true G0 (.l l0 3 cs0) (.slice (some ⟨G0, 0, none⟩) l0 l0) (rng G0 N0)) := O0.out.kept hB
  have BB1 : Hid (Below W.heap.size W w1) := BY0.out.trans (hB.mono BY0.out.size)
  have lt1 : W.heap.size + 1 + 1 < w1.heap.size := HO1.out.lt
  have wl1 : W.heap.size + 1 + 1 < Y0.heap.size := RO0'.out.lt
  obtain ⟨G1, hG1⟩ : ∃ g, Y0.heap.size = g := ⟨_, rfl⟩
  rw [hG1] at O1 sz1 wl1 ⊢
  clear hO hB
  have x_dummy := True.intro
  have x_2 : w1.cell? ⟨W.heap.size, 2, none⟩ = some (.bool x2) := HA1.out.cell (i := 2) (by decide)
  have o_0 : w1.cell? ⟨W.heap.size + 1 + 1, 0, none⟩ = some (.slice (some ⟨G0, 0, none⟩) l0 l0) := HO1.out.cell (i := 0) (by decide)
  have p_0 : w1.frozen? ⟨W.heap.size + 1 + 1, 0, none⟩ = false := HO1.out.frozen 0
  have o_1 : w1.cell? ⟨W.heap.size + 1 + 1, 1, none⟩ = some (.slice none 0 0) := HO1.out.cell (i := 1) (by decide)
  have p_1 : w1.frozen? ⟨W.heap.size + 1 + 1, 1, none⟩ = false := HO1.out.frozen 1
  have o_2 : w1.cell? ⟨W.heap.size + 1 + 1, 2, none⟩ = some (.bool false) := HO1.out.cell (i := 2) (by decide)
  have p_2 : w1.frozen? ⟨W.heap.size + 1 + 1, 2, none⟩ = false := HO1.out.frozen 2
  have r_0 : w1.cell? ⟨W.heap.size + 1, 0, none⟩ = some (.slice none 0 0) := HR1.out.cell (i := 0) (by decide)
  have t_0 : w1.frozen? ⟨W.heap.size + 1, 0, none⟩ = false := HR1.out.frozen 0
  have r_1 : w1.cell? ⟨W.heap.size + 1, 1, none⟩ = some (.slice none 0 0) := HR1.out.cell (i := 1) (by decide)
  have t_1 : w1.frozen? ⟨W.heap.size + 1, 1, none⟩ = false := HR1.out.frozen 1
  have r_2 : w1.cell? ⟨W.heap.size + 1, 2, none⟩ = some (.bool false) := HR1.out.cell (i := 2) (by decide)
  have t_2 : w1.frozen? ⟨W.heap.size + 1, 2, none⟩ = false := HR1.out.frozen 2
  go_wp2
  skip
  refine bodyPost_ret (v := .agg #[.slice (some ⟨G0, 0, none⟩) l0 l0, .slice (some ⟨G1, 0, none⟩) l1 l1, .bool x2]) (by simp only [results, Try.results16]; go_simp) rfl ⟨G0, G1, N0, rfl, ?_, ?_, ?_, ?_, ?_⟩
  · refine Owns.more (F := rng G0 N0) ?_ (fun x hx => ⟨by have := hx.1; omega, hx.2⟩)
    iterate 5 refine far_set (by omega) ?_
    exact O0.out.low (by omega)
  · refine Owns.more (F := rng G1 w1.heap.size) ?_ (fun x hx => ⟨by have := hx.1; omega, by have := hx.2; simpa [World.setCell] using this⟩)
    iterate 5 refine far_set (by omega) ?_
    exact O1.out.low (by omega)
  · omega
  · simp [World.setCell]; omega
  · refine Below.trans BB1.out ?_
    iterate 5 refine Below.setCell ?_ (by simp; try omega) _
    exact Below.refl _ _
set_option maxRecDepth 100000 in
set_option maxHeartbeats 4000000 in
theorem Marker_eq (a0 : Option Addr) (l0 c0 : Nat) (cs0 : Nat → Dv) (a1 : Option Addr) (l1 c1 : Nat) (cs1 : Nat → Dv) (x2 : Bool) (b0 : Option Addr) (e0 : Nat) (b1 : Option Addr) (e1 : Nat) (c c' : Bool) (W : World) (hf0 : Hid (Fits shCellS (.l l0 3 cs0))) (hs0 : Hid (szD (.l l0 3 cs0) ≤ 1048576)) (h0 : Hid (Holds W c (.l l0 3 cs0) (.slice a0 l0 c0))) (hf1 : Hid (Fits shI (.l l1 1 cs1))) (hs1 : Hid (szD (.l l1 1 cs1) ≤ 1048576)) (h1 : Hid (Holds W c (.l l1 1 cs1) (.slice a1 l1 c1))) (g0 : Hid (Holds W c' (.l l0 3 cs0) (.slice b0 l0 e0))) (g1 : Hid (Holds W c' (.l l1 1 cs1) (.slice b1 l1 e1))) : Calls Try.prog 11 #[.agg #[.slice a0 l0 c0, .slice a1 l1 c1, .bool x2], .agg #[.slice b0 l0 e0, .slice b1 l1 e1, .bool x2]] W fun e W' => e = .returned (.bool true) ∧ Below W.heap.size W W' := by
  have ne2 : (x2 != x2) = false := by cases x2 <;> rfl
  go_enter Try.func11, Try.ntmps11
  obtain ⟨X0, EX0⟩ : ∃ X, X = (W.alloc (.cells #[.slice a0 l0 c0, .slice a1 l1 c1, .bool x2] 25)).alloc (.cells #[.slice b0 l0 e0, .slice b1 l1 e1, .bool x2] 25) := ⟨_, rfl⟩
  have RA : Hid (X0.rowIs W.heap.size 25 3 (rowF [.slice a0 l0 c0, .slice a1 l1 c1, .bool x2])) := by rw [EX0]; exact (row_of W #[.slice a0 l0 c0, .slice a1 l1 c1, .bool x2] 25).alloc _
  have RB : Hid (X0.rowIs (W.heap.size + 1) 25 3 (rowF [.slice b0 l0 e0, .slice b1 l1 e1, .bool x2])) := by
    rw [EX0]
    have q := row_of (W.alloc (.cells #[.slice a0 l0 c0, .slice a1 l1 c1, .bool x2] 25)) #[.slice b0 l0 e0, .slice b1 l1 e1, .bool x2] 25
    rw [show (W.alloc (.cells #[.slice a0 l0 c0, .slice a1 l1 c1, .bool x2] 25)).heap.size = W.heap.size + 1 by simp] at q
    exact q
  have B0 : Hid (Below W.heap.size W X0) := by rw [EX0]; show Below _ _ _; go_grown
  go_wp2_with fail
  rw [← EX0]
  clear EX0
  refine (CellS_eq _ _ _ _ _ cs0 c c' _ hf0 hs0 (h0.out.kept B0.out) (g0.out.kept B0.out)).mono ?_
  rintro e w0 ⟨rfl, hB⟩
  have A0 : Hid (w0.rowIs W.heap.size 25 3 (rowF [.slice a0 l0 c0, .slice a1 l1 c1, .bool x2])) := RA.out.of_block (hB.block _ RA.out.lt)
  have C0 : Hid (w0.rowIs (W.heap.size + 1) 25 3 (rowF [.slice b0 l0 e0, .slice b1 l1 e1, .bool x2])) := RB.out.of_block (hB.block _ RB.out.lt)
  have BB0 : Hid (Below W.heap.size W w0) := B0.out.trans (hB.mono B0.out.size)
  clear hB B0 RA RB
  have y_1 : w0.cell? ⟨W.heap.size, 1, none⟩ = some (.slice a1 l1 c1) := A0.out.cell (i := 1) (by decide)
  have z_1 : w0.cell? ⟨W.heap.size + 1, 1, none⟩ = some (.slice b1 l1 e1) := C0.out.cell (i := 1) (by decide)
  have y_2 : w0.cell? ⟨W.heap.size, 2, none⟩ = some (.bool x2) := A0.out.cell (i := 2) (by decide)
  have z_2 : w0.cell? ⟨W.heap.size + 1, 2, none⟩ = some (.bool x2) := C0.out.cell (i := 2) (by decide)
  go_wp2_with fail
  clear y_1 z_1 y_2 z_2
  refine (IntS_eq _ _ _ _ _ cs1 c c' _ hf1 (Nat.le_trans (Nat.le_add_right _ _) hs1.out) (h1.out.kept BB0.out) (g1.out.kept BB0.out)).mono ?_
  rintro e w1 ⟨rfl, hB⟩
  have A1 : Hid (w1.rowIs W.heap.size 25 3 (rowF [.slice a0 l0 c0, .slice a1 l1 c1, .bool x2])) := A0.out.of_block (hB.block _ A0.out.lt)
  have C1 : Hid (w1.rowIs (W.heap.size + 1) 25 3 (rowF [.slice b0 l0 e0, .slice b1 l1 e1, .bool x2])) := C0.out.of_block (hB.block _ C0.out.lt)
  have BB1 : Hid (Below W.heap.size W w1) := BB0.out.trans (hB.mono BB0.out.size)
  clear hB BB0 A0 C0
  have y_2 : w1.cell? ⟨W.heap.size, 2, none⟩ = some (.bool x2) := A1.out.cell (i := 2) (by decide)
  have z_2 : w1.cell? ⟨W.heap.size + 1, 2, none⟩ = some (.bool x2) := C1.out.cell (i := 2) (by decide)
  go_wp2
  go_ret
  exact ⟨rfl, BB1.out⟩
set_option maxRecDepth 100000 in
set_option maxHeartbeats 4000000 in
theorem Marker_mark (k0 : Int) (h0k : 0 ≤ k0) (h1k : k0 ≤ 100000000) (a0 : Option Addr) (l0 c0 : Nat) (cs0 : Nat → Dv) (a1 : Option Addr) (l1 c1 : Nat) (cs1 : Nat → Dv) (x2 : Bool) (c : Bool) (W : World) (B : Nat) (F0 : Nat → Prop) (F1 : Nat → Prop) (hf0 : Hid (Fits shCellS (.l l0 3 cs0))) (hs0 : Hid (szD (.l l0 3 cs0) ≤ 1048576)) (h0 : Hid (Owns W c B (.l l0 3 cs0) (.slice a0 l0 c0) F0)) (u0 : Hid (∀ x, F0 x → x < W.heap.size)) (hf1 : Hid (Fits shI (.l l1 1 cs1))) (hs1 : Hid (szD (.l l1 1 cs1) ≤ 1048576)) (h1 : Hid (Owns W c B (.l l1 1 cs1) (.slice a1 l1 c1) F1)) (u1 : Hid (∀ x, F1 x → x < W.heap.size)) (D01 : ∀ x, F0 x → ¬ F1 x) : Calls Try.prog 12 #[.agg #[.slice a0 l0 c0, .slice a1 l1 c1, .bool x2], .int .i64 k0] W fun e W' => e = .returned (.int .i64 (k0 + (cntD (.l l0 3 cs0) : Nat) + (cntD (.l l1 1 cs1) : Nat))) ∧ Owns W' c B (mkD (k0) (.l l0 3 cs0)) (.slice a0 l0 c0) F0 ∧ Owns W' c B (mkD (k0 + (cntD (.l l0 3 cs0) : Nat)) (.l l1 1 cs1)) (.slice a1 l1 c1) F1 ∧ OnlyF W W' (fun x => F0 x ∨ F1 x) := by
  go_enter Try.func12, Try.ntmps12
  obtain ⟨X0, EX0⟩ : ∃ X, X = W.alloc (.cells #[.slice a0 l0 c0, .slice a1 l1 c1, .bool x2] 25) := ⟨_, rfl⟩
  have RA : Hid (X0.rowIs W.heap.size 25 3 (rowF [.slice a0 l0 c0, .slice a1 l1 c1, .bool x2])) := by rw [EX0]; exact row_of W #[.slice a0 l0 c0, .slice a1 l1 c1, .bool x2] 25
  have B0 : Below W.heap.size W X0 := by rw [EX0]; show Below _ _ _; go_grown
  have O0 : Hid (Owns X0 c B (.l l0 3 cs0) (.slice a0 l0 c0) F0) := h0.out.kept B0
  have O1 : Hid (Owns X0 c B (.l l1 1 cs1) (.slice a1 l1 c1) F1) := h1.out.kept B0
  have ON : Hid (OnlyF W X0 (fun x => F0 x ∨ F1 x)) := OnlyF.of_below B0
  clear B0
  have hc0 := cnt_le thin_CellS hf0.out
  have HC0 : Hid (cntD (.l l0 3 cs0) ≤ 8388609) := by have q := hs0.out; show _ ≤ _; omega
  clear hc0
  have hc1 := cnt_le (s := shI) ⟨by decide, fun _ => trivial⟩ hf1.out
  have HC1 : Hid (cntD (.l l1 1 cs1) ≤ 8388609) := by have q := hs1.out; show _ ≤ _; omega
  clear hc1
  go_wp2_with fail
  rw [← EX0]
  clear EX0
  refine (CellS_mark (k0) (by omega) (by omega) _ _ _ cs0 c _ B F0 hf0 hs0 O0).mono ?_
  obtain ⟨N0, HN0⟩ : ∃ N, Hid (cntD (.l l0 3 cs0) = N) := ⟨_, rfl⟩
  have hN0 : N0 ≤ 8388609 := by have q := HC0.out; rw [HN0.out] at q; exact q
  rw [HN0.out]
  rintro e w0 ⟨rfl, hO, hF⟩
  have P0 : Hid (Owns w0 c B (mkD (k0) (.l l0 3 cs0)) (.slice a0 l0 c0) F0) := hO
  have O1 : Hid (Owns w0 c B (.l l1 1 cs1) (.slice a1 l1 c1) F1) := hF.owns (fun x hx hy => D01 x hy hx) O1.out
  have ON0 : Hid (OnlyF W w0 (fun x => F0 x ∨ F1 x)) := ON.out.trans (hF.more (fun x hx => Or.inl hx))
  have RA0 : Hid (w0.rowIs W.heap.size 25 3 (rowF [.slice a0 l0 c0, .slice a1 l1 c1, .bool x2])) := RA.out.of_block (hF.block _ RA.out.lt (fun q => by have := u0.out _ q; omega))
  clear hF hO
  have y_1 : w0.cell? ⟨W.heap.size, 1, none⟩ = some (.slice a1 l1 c1) := RA0.out.cell (i := 1) (by decide)
  go_wp2_with fail
  clear y_1
  refine (IntS_mark (k0 + (N0 : Int)) (by omega) (by omega) _ _ _ cs1 c _ B F1 hf1 (Nat.le_trans (Nat.le_add_right _ _) hs1.out) O1).mono ?_
  obtain ⟨N1, HN1⟩ : ∃ N, Hid (cntD (.l l1 1 cs1) = N) := ⟨_, rfl⟩
  have hN1 : N1 ≤ 8388609 := by have q := HC1.out; rw [HN1.out] at q; exact q
  rw [HN1.out]
  rintro e w1 ⟨rfl, hO, hF⟩
  have P0 : Hid (Owns w1 c B (mkD (k0) (.l l0 3 cs0)) (.slice a0 l0 c0) F0) := hF.owns (fun x hx hy => D01 x hx hy) P0.out
  have P1 : Hid (Owns w1 c B (mkD (k0 + (N0 : Int)) (.l l1 1 cs1)) (.slice a1 l1 c1) F1) := hO
  have ON1 : Hid (OnlyF W w1 (fun x => F0 x ∨ F1 x)) := ON0.out.trans (hF.more (fun x hx => Or.inr (hx)))
  clear hF hO
  go_wp2
  go_ret
  refine ⟨by rw [HN0.out, HN1.out]; rfl, (by have q := P0.out; exact q), (by have q := P1.out; rw [HN0.out]; exact q), ON1.out⟩
set_option maxRecDepth 100000 in
set_option maxHeartbeats 4000000 in
theorem Marker_held (k0 : Int) (h0k : 0 ≤ k0) (a0 : Option Addr) (l0 c0 : Nat) (cs0 : Nat → Dv) (a1 : Option Addr) (l1 c1 : Nat) (cs1 : Nat → Dv) (x2 : Bool) (c : Bool) (W : World) (hf0 : Hid (Fits shCellS (.l l0 3 cs0))) (hs0 : Hid (szD (.l l0 3 cs0) ≤ 1048576)) (hf1 : Hid (Fits shI (.l l1 1 cs1))) (hs1 : Hid (szD (.l l1 1 cs1) ≤ 1048576)) (h1k : k0 + (cntD (.l l0 3 cs0) : Nat) + (cntD (.l l1 1 cs1) : Nat) ≤ 16777216) (h0 : Hid (Holds W c (mkD (k0) (.l l0 3 cs0)) (.slice a0 l0 c0))) (h1 : Hid (Holds W c (mkD (k0 + (cntD (.l l0 3 cs0) : Nat)) (.l l1 1 cs1)) (.slice a1 l1 c1))) : Calls Try.prog 13 #[.agg #[.slice a0 l0 c0, .slice a1 l1 c1, .bool x2], .int .i64 k0] W fun e W' => e = .returned (.int .i64 (k0 + (cntD (.l l0 3 cs0) : Nat) + (cntD (.l l1 1 cs1) : Nat))) ∧ Below W.heap.size W W' := by
  obtain ⟨N0, HN0⟩ : ∃ N, Hid (cntD (.l l0 3 cs0) = N) := ⟨_, rfl⟩
  obtain ⟨N1, HN1⟩ : ∃ N, Hid (cntD (.l l1 1 cs1) = N) := ⟨_, rfl⟩
  rw [HN0.out, HN1.out] at h1k
  go_enter Try.func13, Try.ntmps13
  obtain ⟨X0, EX0⟩ : ∃ X, X = W.alloc (.cells #[.slice a0 l0 c0, .slice a1 l1 c1, .bool x2] 25) := ⟨_, rfl⟩
  have RA : Hid (X0.rowIs W.heap.size 25 3 (rowF [.slice a0 l0 c0, .slice a1 l1 c1, .bool x2])) := by rw [EX0]; exact row_of W #[.slice a0 l0 c0, .slice a1 l1 c1, .bool x2] 25
  have B0 : Hid (Below W.heap.size W X0) := by rw [EX0]; show Below _ _ _; go_grown
  have H0 : Hid (Holds X0 c (mkD (k0) (.l l0 3 cs0)) (.slice a0 l0 c0)) := by have q := h0.out.kept B0.out; exact q
  have H1 : Hid (Holds X0 c (mkD (k0 + (N0 : Int)) (.l l1 1 cs1)) (.slice a1 l1 c1)) := by have q := h1.out.kept B0.out; rw [HN0.out] at q; exact q
  have y_1 : X0.cell? ⟨W.heap.size, 1, none⟩ = some (.slice a1 l1 c1) := RA.out.cell (i := 1) (by decide)
  go_wp2_with fail
  rw [← EX0]
  clear EX0
  refine (CellS_held (k0) (by omega) _ _ _ cs0 c _ hf0 hs0 (by rw [HN0.out]; omega) H0).mono ?_
  rw [HN0.out]
  rintro e w' ⟨rfl, hw⟩
  rw [hw]
  clear hw w'
  have kp0 : 0 ≤ k0 + (N0 : Int) := by omega
  go_wp2_with fail
  refine (IntS_held (k0 + (N0 : Int)) (by omega) (by omega) _ _ _ cs1 c _ hf1 (Nat.le_trans (Nat.le_add_right _ _) hs1.out) H1).mono ?_
  rw [HN1.out]
  rintro e w' ⟨rfl, hw⟩
  rw [hw]
  clear hw w'
  have kp1 : 0 ≤ k0 + (N0 : Int) + (N1 : Int) := by omega
  go_wp2
  go_ret
  exact ⟨by rw [HN0.out, HN1.out]; rfl, B0.out⟩
set_option maxRecDepth 100000 in
set_option maxHeartbeats 4000000 in
theorem Marker_size (a0 : Option Addr) (l0 c0 : Nat) (cs0 : Nat → Dv) (a1 : Option Addr) (l1 c1 : Nat) (cs1 : Nat → Dv) (x2 : Bool) (l : Int) (c : Bool) (W : World) (hf0 : Hid (Fits shCellS (.l l0 3 cs0))) (hl0 : Hid (Lens (.l l0 3 cs0))) (h0 : Hid (Holds W c (.l l0 3 cs0) (.slice a0 l0 c0))) (hf1 : Hid (Fits shI (.l l1 1 cs1))) (hl1 : Hid (Lens (.l l1 1 cs1))) (h1 : Hid (Holds W c (.l l1 1 cs1) (.slice a1 l1 c1))) (hq0 : 0 ≤ l) (hq1 : l ≤ 1048576) : Calls Try.prog 14 #[.agg #[.slice a0 l0 c0, .slice a1 l1 c1, .bool x2], .int .i64 l] W fun e W' => e = .returned (.int .i64 (if (szD (.l l0 3 cs0) : Int) + (szD (.l l1 1 cs1) : Int) ≤ l then l - ((szD (.l l0 3 cs0) : Int) + (szD (.l l1 1 cs1) : Int)) else -1)) ∧ Below W.heap.size W W' := by
  obtain ⟨N0, HN0⟩ : ∃ N, Hid (szD (.l l0 3 cs0) = N) := ⟨_, rfl⟩
  rw [HN0.out]
  obtain ⟨N1, HN1⟩ : ∃ N, Hid (szD (.l l1 1 cs1) = N) := ⟨_, rfl⟩
  rw [HN1.out]
  obtain ⟨R, HR⟩ : ∃ R : Int, Hid ((if (N0 : Int) + (N1 : Int) ≤ l then l - ((N0 : Int) + (N1 : Int)) else -1) = R) := ⟨_, rfl⟩
  rw [HR.out]
  have HRN : Hid (¬ ((N0 : Int) + (N1 : Int) ≤ l) → R = -1) := fun q => by rw [← HR.out, if_neg q]
  have HRP : Hid ((N0 : Int) + (N1 : Int) ≤ l → R = l - ((N0 : Int) + (N1 : Int))) := fun q => by rw [← HR.out, if_pos q]
  clear HR
  go_enter Try.func14, Try.ntmps14
  obtain ⟨X0, EX0⟩ : ∃ X, X = W.alloc (.cells #[.slice a0 l0 c0, .slice a1 l1 c1, .bool x2] 33) := ⟨_, rfl⟩
  have RA : Hid (X0.rowIs W.heap.size 33 3 (rowF [.slice a0 l0 c0, .slice a1 l1 c1, .bool x2])) := by rw [EX0]; exact row_of W #[.slice a0 l0 c0, .slice a1 l1 c1, .bool x2] 33
  have B0 : Hid (Below W.heap.size W X0) := by rw [EX0]; show Below _ _ _; go_grown
  go_wp2_with fail
  rw [← EX0]
  clear EX0
  refine (CellS_size _ _ _ cs0 (l) c _ hf0 hl0 (h0.out.kept B0.out) (by omega) (by omega)).mono ?_
  rw [HN0.out]
  rintro e w0 ⟨rfl, hB⟩
  have A0 : Hid (w0.rowIs W.heap.size 33 3 (rowF [.slice a0 l0 c0, .slice a1 l1 c1, .bool x2])) := RA.out.of_block (hB.block _ RA.out.lt)
  have BB0 : Hid (Below W.heap.size W w0) := B0.out.trans (hB.mono B0.out.size)
  clear hB RA B0
  by_cases q0 : (N0 : Int) ≤ l
  rotate_left
  · rw [if_neg q0]
    have HM : Hid (R = -1) := HRN.out (by omega)
    go_wp2
    go_ret
    exact ⟨by rw [HM.out]; rfl, BB0.out⟩
  rw [if_pos q0]
  have le0 : 0 ≤ l - (N0 : Int) := by omega
  have y_1 : w0.cell? ⟨W.heap.size, 1, none⟩ = some (.slice a1 l1 c1) := A0.out.cell (i := 1) (by decide)
  go_wp2_with fail
  clear y_1
  refine (IntS_size _ _ _ cs1 (l - (N0 : Int)) _ hf1 hl1 (by omega) (by omega)).mono ?_
  rw [HN1.out]
  rintro e w1 ⟨rfl, hE⟩
  have hB : Below w0.heap.size w0 w1 := by rw [hE]; exact Below.refl _ _
  clear hE
  have A1 : Hid (w1.rowIs W.heap.size 33 3 (rowF [.slice a0 l0 c0, .slice a1 l1 c1, .bool x2])) := A0.out.of_block (hB.block _ A0.out.lt)
  have BB1 : Hid (Below W.heap.size W w1) := BB0.out.trans (hB.mono BB0.out.size)
  clear hB A0 BB0
  by_cases q1 : (N1 : Int) ≤ l - (N0 : Int)
  rotate_left
  · rw [if_neg q1]
    have HM : Hid (R = -1) := HRN.out (by omega)
    go_wp2
    go_ret
    exact ⟨by rw [HM.out]; rfl, BB1.out⟩
  rw [if_pos q1]
  have le1 : 0 ≤ l - (N0 : Int) - (N1 : Int) := by omega
  have HE : Hid (R = l - (N0 : Int) - (N1 : Int)) := by have q := HRP.out (by omega); show _ = _; omega
  go_wp2
  go_ret
  exact ⟨by rw [HE.out]; rfl, BB1.out⟩
end Go.Proofs.Ytokaibpkajloeaa.deep
