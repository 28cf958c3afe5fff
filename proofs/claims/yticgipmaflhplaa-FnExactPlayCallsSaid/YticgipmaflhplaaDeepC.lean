/-
  What the laws' own helpers do on data: ClassS, WayS, S:World, S:Cache.
-/
import Derived.Test.YticgipmaflhplaaProg
import Derived.Test.YticgipmaflhplaaDeep
import Derived.Test.YticgipmaflhplaaDeepOpen
import Derived.Test.YticgipmaflhplaaDeepRow
import Derived.WalkKit
import Derived.WalkSpells
import Derived.Below
import Derived.Handy
import Derived.Deep.OwnRows
import Derived.Deep.RegionWith
import Derived.Laws.MakeOwn
namespace Go.Proofs.Yticgipmaflhplaa.deep
open Go.RowKit Go.Proofs.Yticgipmaflhplaa.ints
set_option linter.unusedVariables false

def shClassS : Sh := .l 2 (fun i => match i with | 0 => .n | _ => shI)
theorem thin_ClassS : Thin shClassS := ⟨by decide, fun i => by
  show Thin (match i with | 0 => .n | _ => shI)
  split
  · exact trivial
  · exact ⟨by decide, fun _ => trivial⟩⟩
set_option maxRecDepth 100000 in
set_option maxHeartbeats 4000000 in
theorem Class_to (x0 : Int) (a1 : Option Addr) (l1 c1 : Nat) (cs1 : Nat → Dv) (c : Bool) (W : World) (hf1 : Hid (Fits shI (.l l1 1 cs1))) (hs1 : Hid (szD (.l l1 1 cs1) ≤ 1048576)) (h1 : Hid (Holds W c (.l l1 1 cs1) (.slice a1 l1 c1))) : Calls Try.prog 58 #[.agg #[.int .i64 x0, .slice a1 l1 c1]] W fun e W' => ∃ g1, e = .returned (.agg #[.int .i64 x0, .slice (some ⟨g1, 0, none⟩) l1 l1]) ∧ Owns W' true W.heap.size (.l l1 1 cs1) (.slice (some ⟨g1, 0, none⟩) l1 l1) (rng W.heap.size W'.heap.size) ∧ W.heap.size ≤ W'.heap.size ∧ Below W.heap.size W W' := by
  go_enter Try.func58, Try.ntmps58
  obtain ⟨X0, EX0⟩ : ∃ X, X = ((W.alloc (.cells #[.int .i64 x0, .slice a1 l1 c1] 84)).alloc (.cells #[.int .i64 0, .slice none 0 0] 59)).alloc (.cells #[.int .i64 0, .slice none 0 0] 59) := ⟨_, rfl⟩
  have RA : Hid (X0.rowIs W.heap.size 84 2 (rowF [.int .i64 x0, .slice a1 l1 c1])) := by rw [EX0]; exact ((row_of W #[.int .i64 x0, .slice a1 l1 c1] 84).alloc _).alloc _
  have RR : Hid (X0.rowIs (W.heap.size + 1) 59 2 (rowF [.int .i64 0, .slice none 0 0])) := by
    rw [EX0]
    have q := (row_of (W.alloc (.cells #[.int .i64 x0, .slice a1 l1 c1] 84)) #[.int .i64 0, .slice none 0 0] 59)
    rw [show (W.alloc (.cells #[.int .i64 x0, .slice a1 l1 c1] 84)).heap.size = W.heap.size + 1 by simp] at q
    exact q.alloc _
  have RO : Hid (X0.rowIs (W.heap.size + 1 + 1) 59 2 (rowF [.int .i64 0, .slice none 0 0])) := by
    rw [EX0]
    have q := (row_of ((W.alloc (.cells #[.int .i64 x0, .slice a1 l1 c1] 84)).alloc (.cells #[.int .i64 0, .slice none 0 0] 59)) #[.int .i64 0, .slice none 0 0] 59)
    rw [show ((W.alloc (.cells #[.int .i64 x0, .slice a1 l1 c1] 84)).alloc (.cells #[.int .i64 0, .slice none 0 0] 59)).heap.size = W.heap.size + 1 + 1 by simp] at q
    exact q
  have B0 : Hid (Below W.heap.size W X0) := by rw [EX0]; show Below _ _ _; go_grown
  have s0 : X0.heap.size = W.heap.size + 1 + 1 + 1 := by rw [EX0]; simp
  have x_0 : X0.cell? ⟨W.heap.size, 0, none⟩ = some (.int .i64 x0) := RA.out.cell (i := 0) (by decide)
  have x_1 : X0.cell? ⟨W.heap.size, 1, none⟩ = some (.slice a1 l1 c1) := RA.out.cell (i := 1) (by decide)
  have o_0 : X0.cell? ⟨W.heap.size + 1 + 1, 0, none⟩ = some (.int .i64 0) := RO.out.cell (i := 0) (by decide)
  have p_0 : X0.frozen? ⟨W.heap.size + 1 + 1, 0, none⟩ = false := RO.out.frozen 0
  have o_1 : X0.cell? ⟨W.heap.size + 1 + 1, 1, none⟩ = some (.slice none 0 0) := RO.out.cell (i := 1) (by decide)
  have p_1 : X0.frozen? ⟨W.heap.size + 1 + 1, 1, none⟩ = false := RO.out.frozen 1
  go_wp2_with fail
  obtain ⟨X1, EX1⟩ : ∃ X, X = ((W.alloc (.cells #[.int .i64 x0, .slice a1 l1 c1] 84)).alloc (.cells #[.int .i64 0, .slice none 0 0] 59)).alloc (.cells #[.int .i64 x0, .slice none 0 0] 59) := ⟨_, rfl⟩
  have RA1 : Hid (X1.rowIs W.heap.size 84 2 (rowF [.int .i64 x0, .slice a1 l1 c1])) := by rw [EX1]; exact ((row_of W #[.int .i64 x0, .slice a1 l1 c1] 84).alloc _).alloc _
  have RR1 : Hid (X1.rowIs (W.heap.size + 1) 59 2 (rowF [.int .i64 0, .slice none 0 0])) := by
    rw [EX1]
    have q := (row_of (W.alloc (.cells #[.int .i64 x0, .slice a1 l1 c1] 84)) #[.int .i64 0, .slice none 0 0] 59)
    rw [show (W.alloc (.cells #[.int .i64 x0, .slice a1 l1 c1] 84)).heap.size = W.heap.size + 1 by simp] at q
    exact q.alloc _
  have RO1 : Hid (X1.rowIs (W.heap.size + 1 + 1) 59 2 (rowF [.int .i64 x0, .slice none 0 0])) := by
    rw [EX1]
    have q := (row_of ((W.alloc (.cells #[.int .i64 x0, .slice a1 l1 c1] 84)).alloc (.cells #[.int .i64 0, .slice none 0 0] 59)) #[.int .i64 x0, .slice none 0 0] 59)
    rw [show ((W.alloc (.cells #[.int .i64 x0, .slice a1 l1 c1] 84)).alloc (.cells #[.int .i64 0, .slice none 0 0] 59)).heap.size = W.heap.size + 1 + 1 by simp] at q
    exact q
  have B1 : Hid (Below W.heap.size W X1) := by rw [EX1]; show Below _ _ _; go_grown
  have s1 : X1.heap.size = W.heap.size + 1 + 1 + 1 := by rw [EX1]; simp
  rw [← EX1]
  clear RA RR RO B0 s0 EX0 x_0 o_0 p_0 x_1 o_1 p_1
  refine (IntS_to _ _ _ cs1 c _ hf1 (Nat.le_trans (Nat.le_add_right _ _) hs1.out) (h1.out.kept B1.out)).mono ?_
  rintro e w0 ⟨rfl, hO, hB⟩
  have O1 : Hid (Owns w0 true X1.heap.size (.l l1 1 cs1) (.slice (some ⟨X1.heap.size, 0, none⟩) l1 l1) (rng X1.heap.size w0.heap.size)) := hO
  have sz0 : X1.heap.size ≤ w0.heap.size := hB.size
  have HA0 : Hid (w0.rowIs W.heap.size 84 2 (rowF [.int .i64 x0, .slice a1 l1 c1])) := RA1.out.of_block (hB.block _ RA1.out.lt)
  have HR0 : Hid (w0.rowIs (W.heap.size + 1) 59 2 (rowF [.int .i64 0, .slice none 0 0])) := RR1.out.of_block (hB.block _ RR1.out.lt)
  have HO0 : Hid (w0.rowIs (W.heap.size + 1 + 1) 59 2 (rowF [.int .i64 x0, .slice none 0 0])) := RO1.out.of_block (hB.block _ RO1.out.lt)
  have BB0 : Hid (Below W.heap.size W w0) := B1.out.trans (hB.mono B1.out.size)
  have lt0 : W.heap.size + 1 + 1 < w0.heap.size := HO0.out.lt
  have wl0 : W.heap.size + 1 + 1 < X1.heap.size := RO1.out.lt
  obtain ⟨G1, hG1⟩ : ∃ g, X1.heap.size = g := ⟨_, rfl⟩
  rw [hG1] at O1 sz0 wl0 ⊢
  clear hO hB
  have x_dummy := True.intro
  have o_0 : w0.cell? ⟨W.heap.size + 1 + 1, 0, none⟩ = some (.int .i64 x0) := HO0.out.cell (i := 0) (by decide)
  have p_0 : w0.frozen? ⟨W.heap.size + 1 + 1, 0, none⟩ = false := HO0.out.frozen 0
  have o_1 : w0.cell? ⟨W.heap.size + 1 + 1, 1, none⟩ = some (.slice none 0 0) := HO0.out.cell (i := 1) (by decide)
  have p_1 : w0.frozen? ⟨W.heap.size + 1 + 1, 1, none⟩ = false := HO0.out.frozen 1
  have r_0 : w0.cell? ⟨W.heap.size + 1, 0, none⟩ = some (.int .i64 0) := HR0.out.cell (i := 0) (by decide)
  have t_0 : w0.frozen? ⟨W.heap.size + 1, 0, none⟩ = false := HR0.out.frozen 0
  have r_1 : w0.cell? ⟨W.heap.size + 1, 1, none⟩ = some (.slice none 0 0) := HR0.out.cell (i := 1) (by decide)
  have t_1 : w0.frozen? ⟨W.heap.size + 1, 1, none⟩ = false := HR0.out.frozen 1
  go_wp2
  skip
  refine bodyPost_ret (v := .agg #[.int .i64 x0, .slice (some ⟨G1, 0, none⟩) l1 l1]) (by simp only [results, Try.results58]; go_simp) rfl ⟨G1, rfl, ?_, ?_, ?_⟩
  · refine Owns.more (F := rng G1 w0.heap.size) ?_ (fun x hx => ⟨by have := hx.1; omega, by have := hx.2; simpa [World.setCell] using this⟩)
    iterate 3 refine far_set (by omega) ?_
    exact O1.out.low (by omega)
  · simp [World.setCell]; omega
  · refine Below.trans BB0.out ?_
    iterate 3 refine Below.setCell ?_ (by simp; try omega) _
    exact Below.refl _ _
theorem ClassS_info : (Try.prog.info? 59).map (fun i => (i.zero, i.size, i.bytes)) = some (some (.agg #[.int .i64 0, .slice none 0 0]), 2, 32) := by kernel_rfl
def ClassS_zero (i : Nat) : Value := rowF [.int .i64 0, .slice none 0 0] i
theorem ClassS_made (n i : Nat) (hi : i < n) : (madeCells #[.int .i64 0, .slice none 0 0] n)[i]? = some (ClassS_zero (i % 2)) := by
  have h : i % 2 < 2 := Nat.mod_lt _ (by decide)
  simp only [madeCells, Array.getElem?_map, Array.getElem?_range, hi, if_true, Option.map_some, ClassS_zero]
  generalize i % 2 = j at h
  congr 1
  match j, h with
  | 0, _ => rfl
  | 1, _ => rfl
  | j + 2, h => omega
set_option maxRecDepth 100000 in
set_option maxHeartbeats 4000000 in
theorem ClassS_to (a : Option Addr) (len cap : Nat) (cs : Nat → Dv) (c : Bool) (W : World) (hf : Hid (Fits shClassS (.l len 2 cs))) (hs : Hid (szD (.l len 2 cs) ≤ 1048576)) (h : Hid (Holds W c (.l len 2 cs) (.slice a len cap))) :
    Calls Try.prog 35 #[.slice a len cap] W fun e W' => e = .returned (.slice (some ⟨W.heap.size, 0, none⟩) len len) ∧ Owns W' true W.heap.size (.l len 2 cs) (.slice (some ⟨W.heap.size, 0, none⟩) len len) (rng W.heap.size W'.heap.size) ∧ Below W.heap.size W W' := by
  have hlen : len ≤ 1048576 := Nat.le_trans (Nat.le_add_right _ _) hs.out
  obtain ⟨i0, hi, hz0, hz1, hz2⟩ := parts_of ClassS_info
  have hmk : ∀ w : World, (Instr.makeSlice 27 (.int .i64 (len : Int)) (.int .i64 (len : Int))).run Try.prog w = .ok (.slice (some ⟨w.heap.size, 0, none⟩) len len) (w.alloc (.cells (madeCells #[.int .i64 0, .slice none 0 0] (len * 2)) 59)) := by
    intro w
    have hr := run_make (P := Try.prog) w 27 59 i0 _ Try.underlying27 hi hz0 .i64 .i64 (len : Int) (len : Int) (by omega) (Int.le_refl _) (by rw [hz2]; omega) (by omega)
    simp only [Int.toNat_natCast] at hr
    rw [hr, hz1]; rfl
  clear hi hz0 hz1 hz2
  go_enter Try.func35, Try.ntmps35
  go_wp2
  clear hmk
  go_loopw [4] (fun vi wr => ∃ (k : Nat) (U : Nat → Value), k ≤ len ∧ vi = .int .i64 k ∧ Hid (wr.rowIs W.heap.size 59 (len * 2) (fun j => if j < k * 2 then U j else ClassS_zero (j % 2))) ∧ Hid (Rowed wr true W.heap.size cs U (k * 2) (rng (W.heap.size + 1) wr.heap.size)) ∧ Hid (Below W.heap.size W wr)) (fun vi _ => len - (intOf vi).toNat)
  case atStart =>
    refine ⟨0, fun _ => .bool false, Nat.zero_le _, rfl, ?_, ?_, ?_⟩
    · have h := World.rowIs_alloc W (madeCells #[.int .i64 0, .slice none 0 0] (len * 2)) 59 (fun j => ClassS_zero (j % 2)) (fun i hi => ClassS_made _ i (by rw [size_madeCells] at hi; exact hi))
      rw [size_madeCells] at h
      exact h.congr (fun i hi => by rw [if_neg (by omega)])
    · show Rowed _ _ _ _ _ _ _
      rw [Nat.zero_mul]; exact Rowed.nil _ _ _ _ _ _
    · show Below _ _ _
      go_grown
  case round =>
    obtain ⟨k, U, hk, rfl, HR, HO, HB⟩ := hrel
    by_cases hlt : k < len
    rotate_left
    · have HK : Hid (k = len) := by show k = len; omega
      go_wp2
      go_ret
      refine ⟨rfl, ?_, HB.out⟩
      have hr := HR.out.congr (g := U) (fun i hi => by rw [if_pos (by rw [HK.out]; exact hi)])
      have ho := HO.out
      rw [HK.out] at ho
      exact ho.owns hr (Nat.le_refl _) (fun q => by have := q.1; omega) (fun x hx => ⟨by have := hx.1; omega, hx.2⟩) ⟨Nat.le_refl _, HR.out.lt⟩ (fun _ => ⟨Nat.le_refl _, hlen⟩)
    have hltI : (k : Int) < (len : Int) := by omega
    have hkn : (k + 1) * 2 ≤ len * 2 := Nat.mul_le_mul_right _ hlt
    rw [Nat.add_mul] at hkn
    obtain ⟨b, o, ha, hb, hcell⟩ := h.out.cells HB.out (show 0 < len * 2 by omega)
    subst ha
    have hbs : W.heap.size < wr.heap.size := HR.out.lt
    have hbw : b < wr.heap.size := by omega
    obtain ⟨u0, d0, q0⟩ := hcell (k * 2) (by omega)
    obtain ⟨x0, E0⟩ := (hf.out.cell hlt (c := 0) (by decide)).int
    have E0 : Hid (cs (k * 2) = .n x0) := E0
    rw [E0.out] at q0
    have q0 : u0 = .int .i64 x0 := q0
    subst q0
    obtain ⟨u1, d1, q1⟩ := hcell (k * 2 + 1) (by omega)
    rw [← Nat.add_assoc] at d1
    obtain ⟨l1, cs1, E1, F1⟩ := (hf.out.cell hlt (c := 1) (by decide)).list
    have E1 : cs (k * 2 + 1) = .l l1 1 cs1 := E1
    have hs1 : Hid (szD (.l l1 1 cs1) ≤ 1048576) := by have q := sz_at (len := len) (sz := 2) (cs := cs) (i := k * 2 + 1) (by omega); rw [E1] at q; exact Nat.le_trans q hs.out
    have E1 : Hid (cs (k * 2 + 1) = .l l1 1 cs1) := E1
    have hf1 : Hid (Fits shI (.l l1 1 cs1)) := ⟨rfl, F1⟩
    rw [E1.out] at q1
    obtain ⟨a1, c1, ev1, _⟩ := q1.slice
    subst ev1
    have h1 : Hid (Holds wr c (.l l1 1 cs1) (.slice a1 l1 c1)) := q1
    clear q1 F1
    clear hcell
    have hB0 : Hid (Below wr.heap.size wr wr) := Below.refl _ _
    go_wp2_with fail
    refine (Class_to x0 _ _ _ cs1 c _ hf1 hs1 h1).mono ?_
    rintro e w1 ⟨g, rfl, hO1, hsz, hB1⟩
    have HC1 : Hid (w1.rowIs W.heap.size 59 (len * 2) (fun j => if j < k * 2 then U j else ClassS_zero (j % 2))) := HR.out.of_block (hB1.block _ hbs)
    have HO1 : Hid (Rowed w1 true W.heap.size cs U (k * 2) (rng (W.heap.size + 1) wr.heap.size)) := HO.out.kept hB1
    have HB1 : Hid (Below W.heap.size W w1) := HB.out.trans (hB1.mono HB.out.size)
    have hws : wr.heap.size ≤ w1.heap.size := hB1.size
    have HN : Hid (Owns w1 true W.heap.size (cs (k * 2 + 1)) (.slice (some ⟨g, 0, none⟩) l1 l1) (rng wr.heap.size w1.heap.size)) := by show Owns _ _ _ _ _ _; rw [E1.out]; exact hO1.low HB.out.size
    clear hO1
    clear hB1 HR HO
    have d0' := HC1.out.cell (i := k * 2) (by omega)
    have f0' := HC1.out.frozen (k * 2)
    rw [if_neg (by omega)] at d0'
    rw [show (k * 2) % 2 = 0 by omega] at d0'
    have d0' : w1.cell? ⟨W.heap.size, k * 2, none⟩ = some (.int .i64 0) := d0'
    have d1' := HC1.out.cell (i := k * 2 + 1) (by omega)
    have f1' := HC1.out.frozen (k * 2 + 1)
    rw [if_neg (by omega)] at d1'
    rw [show (k * 2 + 1) % 2 = 1 by omega] at d1'
    have d1' : w1.cell? ⟨W.heap.size, k * 2 + 1, none⟩ = some (.slice none 0 0) := d1'
    go_wp2
    go_roundw
    case rel =>
      obtain ⟨V, hV⟩ : ∃ V : Nat → Value, V = fun j => if j = k * 2 then .int .i64 x0 else if j = k * 2 + 1 then .slice (some ⟨g, 0, none⟩) l1 l1 else U j := ⟨_, rfl⟩
      have uk : ∀ j, j < k * 2 → U j = V j := fun j hj => by rw [hV]; simp only []; rw [if_neg (show ¬ j = k * 2 by omega), if_neg (show ¬ j = k * 2 + 1 by omega)]
      have u0' : V (k * 2) = .int .i64 x0 := by rw [hV]; simp
      have u1' : V (k * 2 + 1) = .slice (some ⟨g, 0, none⟩) l1 l1 := by rw [hV]; simp
      refine ⟨k + 1, V, by omega, by go_num, ?_, ?_, ?_⟩
      · refine World.rowIs.congr ((HC1.out.set (k * 2) (.int .i64 x0)).set (k * 2 + 1) (.slice (some ⟨g, 0, none⟩) l1 l1)) ?_
        intro j hj
        rcases (show j = k * 2 ∨ j = k * 2 + 1 ∨ j < k * 2 ∨ (k + 1) * 2 ≤ j by omega) with rfl | rfl | h | h
        · rw [if_pos (show k * 2 < (k + 1) * 2 by omega), u0']; simp
        · rw [if_pos (show k * 2 + 1 < (k + 1) * 2 by omega), u1']; simp
        · rw [if_pos (show j < (k + 1) * 2 by omega), if_neg (show ¬ j = k * 2 + 1 by omega), if_neg (show ¬ j = k * 2 by omega), if_pos h, uk j h]
        · rw [if_neg (show ¬ j < (k + 1) * 2 by omega), if_neg (show ¬ j = k * 2 + 1 by omega), if_neg (show ¬ j = k * 2 by omega), if_neg (show ¬ j < k * 2 by omega)]
      · show Rowed _ _ _ _ _ _ _
        have hr : Rowed w1 true W.heap.size cs V (k * 2) (rng (W.heap.size + 1) wr.heap.size) := HO1.out.congr uk
        have hr0 := hr.flat (by rw [u0', E0.out]; exact rfl)
        have hr1 := hr0.snoc (H := rng wr.heap.size w1.heap.size) (F' := rng (W.heap.size + 1) w1.heap.size) (by rw [u1']; exact HN.out) (fun x hx hy => by have := hx.2; have := hy.1; omega) (fun x hx => ⟨hx.1, by have := hx.2; omega⟩) (fun x hx => ⟨by have := hx.1; omega, hx.2⟩)
        rw [show (k + 1) * 2 = k * 2 + 1 + 1 by omega]
        refine Rowed.more (hr1.agree (by simp [World.setCell]) (fun b hb _ => ?_)) (fun x hx => ⟨hx.1, by have := hx.2; simpa [World.setCell] using this⟩)
        have hne : b ≠ W.heap.size := by have := hb.1; omega
        iterate 2 rw [Below.heap_setCell _ _ _ _ (show b ≠ W.heap.size from hne)]
      · show Below _ _ _
        refine Below.trans HB1.out ?_
        go_grown
    case measure => simp [intOf]; omega
set_option maxRecDepth 100000 in
set_option maxHeartbeats 4000000 in
theorem Class_eq (x0 : Int) (a1 : Option Addr) (l1 c1 : Nat) (cs1 : Nat → Dv) (b1 : Option Addr) (e1 : Nat) (c c' : Bool) (W : World) (hf1 : Hid (Fits shI (.l l1 1 cs1))) (hs1 : Hid (szD (.l l1 1 cs1) ≤ 1048576)) (h1 : Hid (Holds W c (.l l1 1 cs1) (.slice a1 l1 c1))) (g1 : Hid (Holds W c' (.l l1 1 cs1) (.slice b1 l1 e1))) : Calls Try.prog 59 #[.agg #[.int .i64 x0, .slice a1 l1 c1], .agg #[.int .i64 x0, .slice b1 l1 e1]] W fun e W' => e = .returned (.bool true) ∧ Below W.heap.size W W' := by
  have ne0 : (x0 != x0) = false := by simp
  go_enter Try.func59, Try.ntmps59
  obtain ⟨X0, EX0⟩ : ∃ X, X = (W.alloc (.cells #[.int .i64 x0, .slice a1 l1 c1] 59)).alloc (.cells #[.int .i64 x0, .slice b1 l1 e1] 59) := ⟨_, rfl⟩
  have RA : Hid (X0.rowIs W.heap.size 59 2 (rowF [.int .i64 x0, .slice a1 l1 c1])) := by rw [EX0]; exact (row_of W #[.int .i64 x0, .slice a1 l1 c1] 59).alloc _
  have RB : Hid (X0.rowIs (W.heap.size + 1) 59 2 (rowF [.int .i64 x0, .slice b1 l1 e1])) := by
    rw [EX0]
    have q := row_of (W.alloc (.cells #[.int .i64 x0, .slice a1 l1 c1] 59)) #[.int .i64 x0, .slice b1 l1 e1] 59
    rw [show (W.alloc (.cells #[.int .i64 x0, .slice a1 l1 c1] 59)).heap.size = W.heap.size + 1 by simp] at q
    exact q
  have B0 : Hid (Below W.heap.size W X0) := by rw [EX0]; show Below _ _ _; go_grown
  go_wp2_with fail
  rw [← EX0]
  clear EX0
  refine (IntS_eq _ _ _ _ _ cs1 c c' _ hf1 (Nat.le_trans (Nat.le_add_right _ _) hs1.out) (h1.out.kept B0.out) (g1.out.kept B0.out)).mono ?_
  rintro e w0 ⟨rfl, hB⟩
  have A0 : Hid (w0.rowIs W.heap.size 59 2 (rowF [.int .i64 x0, .slice a1 l1 c1])) := RA.out.of_block (hB.block _ RA.out.lt)
  have C0 : Hid (w0.rowIs (W.heap.size + 1) 59 2 (rowF [.int .i64 x0, .slice b1 l1 e1])) := RB.out.of_block (hB.block _ RB.out.lt)
  have BB0 : Hid (Below W.heap.size W w0) := B0.out.trans (hB.mono B0.out.size)
  clear hB B0 RA RB
  go_wp2
  go_ret
  exact ⟨rfl, BB0.out⟩
set_option maxRecDepth 100000 in
set_option maxHeartbeats 4000000 in
theorem ClassS_eq (a a' : Option Addr) (len cap cap' : Nat) (cs : Nat → Dv) (c c' : Bool) (W : World) (hf : Hid (Fits shClassS (.l len 2 cs))) (hs : Hid (szD (.l len 2 cs) ≤ 1048576)) (h : Hid (Holds W c (.l len 2 cs) (.slice a len cap))) (h' : Hid (Holds W c' (.l len 2 cs) (.slice a' len cap'))) :
    Calls Try.prog 38 #[.slice a len cap, .slice a' len cap'] W fun e W' => e = .returned (.bool true) ∧ Below W.heap.size W W' := by
  have hlen : len ≤ 1048576 := Nat.le_trans (Nat.le_add_right _ _) hs.out
  go_enter Try.func38, Try.ntmps38
  go_wp2
  go_loopw [5] (fun vi wr => ∃ k : Nat, k ≤ len ∧ vi = .int .i64 k ∧ Hid (Below W.heap.size W wr)) (fun vi _ => len - (intOf vi).toNat)
  case atStart => exact ⟨0, Nat.zero_le _, rfl, Below.refl _ _⟩
  case round =>
    obtain ⟨k, hk, rfl, HB⟩ := hrel
    by_cases hlt : k < len
    rotate_left
    · go_wp2
      go_ret
      exact ⟨rfl, HB.out⟩
    have hltI : (k : Int) < (len : Int) := by omega
    have hkn : (k + 1) * 2 ≤ len * 2 := Nat.mul_le_mul_right _ hlt
    rw [Nat.add_mul] at hkn
    obtain ⟨b, o, ha, hb, hcell⟩ := h.out.cells HB.out (show 0 < len * 2 by omega)
    obtain ⟨b', o', ha', hb', hcell'⟩ := h'.out.cells HB.out (show 0 < len * 2 by omega)
    subst ha ha'
    have hbw : b < wr.heap.size := by have := HB.out.size; omega
    have hbw' : b' < wr.heap.size := by have := HB.out.size; omega
    obtain ⟨u0, d0, q0⟩ := hcell (k * 2) (by omega)
    obtain ⟨v0, g0, r0⟩ := hcell' (k * 2) (by omega)
    obtain ⟨x0, E0⟩ := (hf.out.cell hlt (c := 0) (by decide)).int
    have E0 : cs (k * 2) = .n x0 := E0
    rw [E0] at q0 r0
    have q0 : u0 = .int .i64 x0 := q0
    have r0 : v0 = .int .i64 x0 := r0
    subst q0 r0
    clear E0
    obtain ⟨u1, d1, q1⟩ := hcell (k * 2 + 1) (by omega)
    obtain ⟨v1, g1, r1⟩ := hcell' (k * 2 + 1) (by omega)
    rw [← Nat.add_assoc] at d1 g1
    obtain ⟨l1, cs1, E1, F1⟩ := (hf.out.cell hlt (c := 1) (by decide)).list
    have E1 : cs (k * 2 + 1) = .l l1 1 cs1 := E1
    have hs1 : Hid (szD (.l l1 1 cs1) ≤ 1048576) := by have q := sz_at (len := len) (sz := 2) (cs := cs) (i := k * 2 + 1) (by omega); rw [E1] at q; exact Nat.le_trans q hs.out
    have hf1 : Hid (Fits shI (.l l1 1 cs1)) := ⟨rfl, F1⟩
    rw [E1] at q1 r1
    obtain ⟨a1, c1, ev1, _⟩ := q1.slice
    obtain ⟨b1, e1, ew1, _⟩ := r1.slice
    subst ev1 ew1
    have h1 : Hid (Holds wr.drew c (.l l1 1 cs1) (.slice a1 l1 c1)) := q1.kept (Below.refl _ _).drew
    have g1' : Hid (Holds wr.drew c' (.l l1 1 cs1) (.slice b1 l1 e1)) := r1.kept (Below.refl _ _).drew
    clear q1 r1 F1 E1
    clear hcell hcell'
    have HD : Hid (Below W.heap.size W wr.drew) := HB.out.drew
    go_wp2_with fail
    go_region_with (go_at_call 59; refine (Class_eq x0 _ _ _ cs1 _ _ c c' _ hf1 hs1 h1 g1').mono ?_; rintro e w' ⟨rfl, hb⟩; have HX : Hid (Below W.heap.size W w') := HD.out.trans (hb.mono HD.out.size); clear hb)
    all_goals
      go_wp2
      go_roundw
      case rel => exact ⟨k + 1, by omega, by go_num, HX.out⟩
      case measure => simp [intOf]; omega
set_option maxRecDepth 100000 in
set_option maxHeartbeats 4000000 in
theorem ClassS_mark (k0 : Int) (h0 : 0 ≤ k0) (h1 : k0 ≤ 1000000000) (a : Option Addr) (len cap : Nat) (cs : Nat → Dv) (c : Bool) (W : World) (B : Nat) (F : Nat → Prop) (hf : Hid (Fits shClassS (.l len 2 cs))) (hs : Hid (szD (.l len 2 cs) ≤ 1048576)) (h : Hid (Owns W c B (.l len 2 cs) (.slice a len cap) F)) :
    Calls Try.prog 48 #[.slice a len cap, .int .i64 k0] W fun e W' => e = .returned (.int .i64 (k0 + (cntD (.l len 2 cs) : Nat))) ∧ Owns W' c B (mkD k0 (.l len 2 cs)) (.slice a len cap) F ∧ OnlyF W W' F := by
  have hlen : len ≤ 1048576 := Nat.le_trans (Nat.le_add_right _ _) hs.out
  have hcn : sumTo (fun j => cntD (cs j)) (len * 2) ≤ 8388609 := by have q := cnt_le thin_ClassS hf.out; have q2 := hs.out; simp only [cntD] at q; omega
  have hmo : ∀ m, m ≤ len * 2 → sumTo (fun j => cntD (cs j)) m ≤ 8388609 := fun m hm => Nat.le_trans (sumTo_mono _ _ hm) hcn
  have HMO : Hid (∀ m, m ≤ len * 2 → sumTo (fun j => cntD (cs j)) m ≤ 8388609) := hmo
  clear hcn hmo
  go_enter Try.func48, Try.ntmps48
  go_wp2
  go_loopw [1, 5] (fun vk vi wr => ∃ k : Nat, k ≤ len ∧ vi = .int .i64 k ∧ vk = .int .i64 (k0 + (sumTo (fun j => cntD (cs j)) (k * 2) : Nat)) ∧ Hid (Owns wr c B (.l len 2 (fun j => if j < k * 2 then mkD (k0 + (sumTo (fun j => cntD (cs j)) j : Nat)) (cs j) else cs j)) (.slice a len cap) F) ∧ Hid (OnlyF W wr F)) (fun _ vi _ => len - (intOf vi).toNat)
  case atStart => exact ⟨0, Nat.zero_le _, rfl, by simp [sumTo], h.out.congr (fun i hi => by rw [if_neg (by omega)]), OnlyF.refl _ _⟩
  case round =>
    obtain ⟨k, hk, rfl, rfl, HO, HB⟩ := hrel
    by_cases hlt : k < len
    rotate_left
    · have HK : Hid (k = len) := by show k = len; omega
      go_wp2
      go_ret
      refine ⟨by rw [HK.out]; rfl, ?_, HB.out⟩
      exact HO.out.congr (fun i hi => by rw [if_pos (by rw [HK.out]; exact hi)])
    have hltI : (k : Int) < (len : Int) := by omega
    have hkn : (k + 1) * 2 ≤ len * 2 := Nat.mul_le_mul_right _ hlt
    rw [Nat.add_mul] at hkn
    obtain ⟨b, o, ha, hbw⟩ := HO.out.addr (show 0 < len * 2 by omega)
    subst ha
    have hk1 := HMO.out (k * 2) (by omega)
    obtain ⟨kk, HKK⟩ : ∃ kk : Int, Hid (k0 + (sumTo (fun j => cntD (cs j)) (k * 2) : Nat) = kk) := ⟨_, rfl⟩
    have kk0 : 0 ≤ kk := by have := HKK.out; omega
    have kk1 : kk ≤ 1000000000 + 8388609 := by have := HKK.out; omega
    rw [HKK.out]
    clear hk1
    obtain ⟨x0, E0⟩ := (hf.out.cell hlt (c := 0) (by decide)).int
    have E0 : Hid (cs (k * 2) = .n x0) := E0
    obtain ⟨l1, cs1, E1, F1⟩ := (hf.out.cell hlt (c := 1) (by decide)).list
    have E1 : cs (k * 2 + 1) = .l l1 1 cs1 := E1
    have hs1 : Hid (szD (.l l1 1 cs1) ≤ 1048576) := by have q := sz_at (len := len) (sz := 2) (cs := cs) (i := k * 2 + 1) (by omega); rw [E1] at q; exact Nat.le_trans q hs.out
    have E1 : Hid (cs (k * 2 + 1) = .l l1 1 cs1) := E1
    have hf1 : Hid (Fits shI (.l l1 1 cs1)) := ⟨rfl, F1⟩
    clear F1
    have hcn1 : cntD (.l l1 1 cs1) ≤ 8388609 := by have q := cnt_le (s := shI) ⟨by decide, fun _ => trivial⟩ hf1.out; have q2 := hs1.out; omega
    obtain ⟨N1, HN1⟩ : ∃ N, Hid (cntD (.l l1 1 cs1) = N) := ⟨_, rfl⟩
    rw [HN1.out] at hcn1
    have HO0 : Hid (Owns wr c B (.l len 2 (fun j => if j < k * 2 then mkD (k0 + (sumTo (fun j => cntD (cs j)) j : Nat)) (cs j) else cs j)) (.slice (some ⟨b, o, none⟩) len cap) F) := HO
    clear HO
    obtain ⟨d0, f0, s0⟩ := HO0.out.num (j := k * 2) (y := x0) (by omega) (by show (if _ then _ else _) = _; rw [if_neg (by omega)]; exact E0.out)
    obtain ⟨s0, t0⟩ := s0 (kk)
    have HO1 : Hid (Owns (wr.setCell ⟨b, o + k * 2, none⟩ (.int .i64 (kk))) c B (.l len 2 (updD (fun j => if j < k * 2 then mkD (k0 + (sumTo (fun j => cntD (cs j)) j : Nat)) (cs j) else cs j) (k * 2) (.n (kk)))) (.slice (some ⟨b, o, none⟩) len cap) F) := s0
    have HB1 : Hid (OnlyF W (wr.setCell ⟨b, o + k * 2, none⟩ (.int .i64 (kk))) F) := HB.out.trans t0
    clear s0 t0
    obtain ⟨a1, c1, H1, d1, o1, s1⟩ := HO1.out.sub (j := k * 2 + 1) (l := l1) (z := 1) (es := cs1) (by omega) (by rw [updD_other _ _ (show k * 2 + 1 ≠ k * 2 by omega)]; show (if _ then _ else _) = _; rw [if_neg (by omega)]; exact E1.out)
    rw [← Nat.add_assoc] at d1
    have S1 : Hid (∀ w' d', OnlyF (wr.setCell ⟨b, o + k * 2, none⟩ (.int .i64 (kk))) w' H1 → Owns w' c B d' (.slice a1 l1 c1) H1 → Owns w' c B (.l len 2 (updD (updD (fun j => if j < k * 2 then mkD (k0 + (sumTo (fun j => cntD (cs j)) j : Nat)) (cs j) else cs j) (k * 2) (.n (kk))) (k * 2 + 1) d')) (.slice (some ⟨b, o, none⟩) len cap) F ∧ OnlyF (wr.setCell ⟨b, o + k * 2, none⟩ (.int .i64 (kk))) w' F) := s1
    have O1 : Hid (Owns (wr.setCell ⟨b, o + k * 2, none⟩ (.int .i64 (kk))) c B (.l l1 1 cs1) (.slice a1 l1 c1) H1) := o1
    clear s1 o1
    go_wp2_with fail
    refine (IntS_mark (kk + 1) (by omega) (by omega) _ _ _ cs1 c _ B H1 hf1 (Nat.le_trans (Nat.le_add_right _ _) hs1.out) O1).mono ?_
    rintro e w1 ⟨rfl, hO, hF⟩
    obtain ⟨p1, r1⟩ := S1.out w1 _ hF hO
    have HO2 : Hid (Owns w1 c B (.l len 2 (updD (updD (fun j => if j < k * 2 then mkD (k0 + (sumTo (fun j => cntD (cs j)) j : Nat)) (cs j) else cs j) (k * 2) (.n (kk))) (k * 2 + 1) (mkD (kk + 1) (.l l1 1 cs1)))) (.slice (some ⟨b, o, none⟩) len cap) F) := p1
    have HB2 : Hid (OnlyF W w1 F) := HB1.out.trans r1
    have hbw : b < w1.heap.size := by have q1 := r1.size; simp [World.setCell] at q1; omega
    rw [HN1.out]
    clear hO hF p1 r1 S1 O1
    go_wp2
    go_roundw
    case rel =>
      have e1 : sumTo (fun j => cntD (cs j)) ((k + 1) * 2) = sumTo (fun j => cntD (cs j)) (k * 2) + cntD (cs (k * 2)) + cntD (cs (k * 2 + 1)) := by rw [show (k + 1) * 2 = k * 2 + 1 + 1 by omega]; rfl
      have n0 : cntD (cs (k * 2)) = 1 := by rw [E0.out]; exact rfl
      have n1 : cntD (cs (k * 2 + 1)) = N1 := by rw [E1.out]; exact HN1.out
      have m1 : sumTo (fun j => cntD (cs j)) (k * 2 + 1) = sumTo (fun j => cntD (cs j)) (k * 2) + cntD (cs (k * 2)) := rfl
      have hkk := HKK.out
      refine ⟨k + 1, by omega, by go_num, ?_, ?_, HB2⟩
      · rw [e1, n0, n1]
        congr 1
        omega
      · refine HO2.out.congr ?_
        intro j hj
        rcases (show j = k * 2 ∨ j = k * 2 + 1 ∨ j < k * 2 ∨ (k + 1) * 2 ≤ j by omega) with e0 | e0 | h | h
        · rw [e0, if_pos (show k * 2 < (k + 1) * 2 by omega), updD_other _ _ (show k * 2 ≠ k * 2 + 1 by omega), updD_same, E0.out]
          rw [show k0 + (sumTo (fun j => cntD (cs j)) (k * 2) : Nat) = kk by omega]
          rfl
        · rw [e0, if_pos (show k * 2 + 1 < (k + 1) * 2 by omega), updD_same, E1.out]
          rw [show k0 + (sumTo (fun j => cntD (cs j)) (k * 2 + 1) : Nat) = kk + 1 by rw [m1, n0]; omega]
        · rw [updD_other _ _ (show j ≠ k * 2 + 1 by omega), updD_other _ _ (show j ≠ k * 2 by omega), if_pos h, if_pos (show j < (k + 1) * 2 by omega)]
        · rw [updD_other _ _ (show j ≠ k * 2 + 1 by omega), updD_other _ _ (show j ≠ k * 2 by omega), if_neg (show ¬ j < k * 2 by omega), if_neg (show ¬ j < (k + 1) * 2 by omega)]
    case measure => simp [intOf]; omega
set_option maxRecDepth 100000 in
set_option maxHeartbeats 4000000 in
theorem ClassS_held (k0 : Int) (h0 : 0 ≤ k0) (a : Option Addr) (len cap : Nat) (cs : Nat → Dv) (c : Bool) (W : World) (hf : Hid (Fits shClassS (.l len 2 cs))) (hs : Hid (szD (.l len 2 cs) ≤ 1048576)) (h1 : k0 + (cntD (.l len 2 cs) : Nat) ≤ 16777216) (h : Hid (Holds W c (mkD k0 (.l len 2 cs)) (.slice a len cap))) :
    Calls Try.prog 49 #[.slice a len cap, .int .i64 k0] W fun e W' => e = .returned (.int .i64 (k0 + (cntD (.l len 2 cs) : Nat))) ∧ W' = W := by
  have hlen : len ≤ 1048576 := Nat.le_trans (Nat.le_add_right _ _) hs.out
  have hmo : ∀ m, m ≤ len * 2 → k0 + (sumTo (fun j => cntD (cs j)) m : Nat) ≤ 16777216 := fun m hm => by have q := sumTo_mono (fun j => cntD (cs j)) _ hm; have q2 : k0 + (sumTo (fun j => cntD (cs j)) (len * 2) : Nat) ≤ 16777216 := h1; omega
  have HMO : Hid (∀ m, m ≤ len * 2 → k0 + (sumTo (fun j => cntD (cs j)) m : Nat) ≤ 16777216) := hmo
  clear hmo h1
  have H : Hid (Holds W c (.l len 2 (fun j => mkD (k0 + (sumTo (fun j => cntD (cs j)) j : Nat)) (cs j))) (.slice a len cap)) := h
  clear h
  go_enter Try.func49, Try.ntmps49
  go_wp2
  go_loop [1, 5] (fun vk vi => ∃ k : Nat, k ≤ len ∧ vi = .int .i64 k ∧ vk = .int .i64 (k0 + (sumTo (fun j => cntD (cs j)) (k * 2) : Nat))) (fun _ vi => len - (intOf vi).toNat)
  case atStart => exact ⟨0, Nat.zero_le _, rfl, by simp [sumTo]⟩
  case round =>
    obtain ⟨k, hk, rfl, rfl⟩ := hrel
    by_cases hlt : k < len
    rotate_left
    · have HK : Hid (k = len) := by show k = len; omega
      go_wp2
      go_ret
      exact ⟨by rw [HK.out]; rfl, rfl⟩
    have hltI : (k : Int) < (len : Int) := by omega
    have hkn : (k + 1) * 2 ≤ len * 2 := Nat.mul_le_mul_right _ hlt
    rw [Nat.add_mul] at hkn
    obtain ⟨b, o, ha, hb, hcell⟩ := H.out.cells (Below.refl _ _) (show 0 < len * 2 by omega)
    subst ha
    have hk1 := HMO.out (k * 2) (by omega)
    have HLAST := HMO.out ((k + 1) * 2) (by omega)
    obtain ⟨kk, HKK⟩ : ∃ kk : Int, Hid (k0 + (sumTo (fun j => cntD (cs j)) (k * 2) : Nat) = kk) := ⟨_, rfl⟩
    have kk0 : 0 ≤ kk := by have := HKK.out; omega
    have kk1 : kk ≤ 16777216 := by have := HKK.out; omega
    rw [HKK.out]
    clear hk1
    have e1 : sumTo (fun j => cntD (cs j)) ((k + 1) * 2) = sumTo (fun j => cntD (cs j)) (k * 2) + cntD (cs (k * 2)) + cntD (cs (k * 2 + 1)) := by rw [show (k + 1) * 2 = k * 2 + 1 + 1 by omega]; rfl
    obtain ⟨x0, E0⟩ := (hf.out.cell hlt (c := 0) (by decide)).int
    have E0 : cs (k * 2) = .n x0 := E0
    have n0 : cntD (cs (k * 2)) = 1 := by rw [E0]; rfl
    obtain ⟨u0, d0, q0⟩ := hcell (k * 2) (by omega)
    have v0 : k0 + (sumTo (fun j => cntD (cs j)) (k * 2) : Nat) = kk := by have q := HKK.out; exact q
    rw [v0, E0] at q0
    have q0 : u0 = .int .i64 (kk) := q0
    subst q0
    obtain ⟨l1, cs1, E1, F1⟩ := (hf.out.cell hlt (c := 1) (by decide)).list
    have E1 : cs (k * 2 + 1) = .l l1 1 cs1 := E1
    have hs1 : Hid (szD (.l l1 1 cs1) ≤ 1048576) := by have q := sz_at (len := len) (sz := 2) (cs := cs) (i := k * 2 + 1) (by omega); rw [E1] at q; exact Nat.le_trans q hs.out
    have hf1 : Hid (Fits shI (.l l1 1 cs1)) := ⟨rfl, F1⟩
    clear F1
    obtain ⟨N1, HN1⟩ : ∃ N, Hid (cntD (.l l1 1 cs1) = N) := ⟨_, rfl⟩
    have n1 : cntD (cs (k * 2 + 1)) = N1 := by rw [E1]; exact HN1.out
    obtain ⟨u1, d1, q1⟩ := hcell (k * 2 + 1) (by omega)
    rw [← Nat.add_assoc] at d1
    have m1 : sumTo (fun j => cntD (cs j)) (k * 2 + 1) = sumTo (fun j => cntD (cs j)) (k * 2) + cntD (cs (k * 2)) := rfl
    have v1 : k0 + (sumTo (fun j => cntD (cs j)) (k * 2 + 1) : Nat) = kk + 1 := by have q := HKK.out; rw [m1, n0]; omega
    rw [v1, E1] at q1
    have h1 : Hid (Holds W c (mkD (kk + 1) (.l l1 1 cs1)) u1) := q1
    obtain ⟨a1, c1, ev1, _⟩ := Holds.slice (sz := 1) h1.out
    subst ev1
    clear q1
    rw [e1, n0, n1] at HLAST
    have LAST : kk + 1 + (N1 : Int) ≤ 16777216 := by have q := HKK.out; omega
    have HL1 : Hid ((kk + 1) + (cntD (.l l1 1 cs1) : Nat) ≤ 16777216) := by show _ ≤ _; rw [HN1.out]; omega
    have HE : Hid (kk + 1 + (N1 : Int) = k0 + (sumTo (fun j => cntD (cs j)) ((k + 1) * 2) : Nat)) := by show _ = _; rw [e1, n0, n1]; have q := HKK.out; omega
    clear HLAST hcell e1 v0 n0 E0 v1 n1 E1 m1
    have kn1 : 0 ≤ kk + 1 := by omega
    have kp1 : 0 ≤ kk + 1 + (N1 : Int) := by omega
    go_wp2_with fail
    refine (IntS_held (kk + 1) (by omega) (by omega) _ _ _ cs1 c _ hf1 (Nat.le_trans (Nat.le_add_right _ _) hs1.out) h1).mono ?_
    rintro e w' ⟨rfl, hw⟩
    rw [hw, HN1.out]
    clear hw w'
    go_wp2
    go_round
    case rel => exact ⟨k + 1, by omega, by go_num, by rw [← HE.out]⟩
    case measure => simp [intOf]; omega
set_option maxRecDepth 100000 in
set_option maxHeartbeats 4000000 in
theorem Class_size (x0 : Int) (a1 : Option Addr) (l1 c1 : Nat) (cs1 : Nat → Dv) (l : Int) (c : Bool) (W : World) (hf1 : Hid (Fits shI (.l l1 1 cs1))) (hl1 : Hid (Lens (.l l1 1 cs1))) (h1 : Hid (Holds W c (.l l1 1 cs1) (.slice a1 l1 c1))) (hq0 : 0 ≤ l) (hq1 : l ≤ 1048576) : Calls Try.prog 57 #[.agg #[.int .i64 x0, .slice a1 l1 c1], .int .i64 l] W fun e W' => e = .returned (.int .i64 (if (szD (.l l1 1 cs1) : Int) ≤ l then l - ((szD (.l l1 1 cs1) : Int)) else -1)) ∧ Below W.heap.size W W' := by
  obtain ⟨N1, HN1⟩ : ∃ N, Hid (szD (.l l1 1 cs1) = N) := ⟨_, rfl⟩
  rw [HN1.out]
  obtain ⟨R, HR⟩ : ∃ R : Int, Hid ((if (N1 : Int) ≤ l then l - ((N1 : Int)) else -1) = R) := ⟨_, rfl⟩
  rw [HR.out]
  have HRN : Hid (¬ ((N1 : Int) ≤ l) → R = -1) := fun q => by rw [← HR.out, if_neg q]
  have HRP : Hid ((N1 : Int) ≤ l → R = l - ((N1 : Int))) := fun q => by rw [← HR.out, if_pos q]
  clear HR
  go_enter Try.func57, Try.ntmps57
  obtain ⟨X0, EX0⟩ : ∃ X, X = W.alloc (.cells #[.int .i64 x0, .slice a1 l1 c1] 84) := ⟨_, rfl⟩
  have RA : Hid (X0.rowIs W.heap.size 84 2 (rowF [.int .i64 x0, .slice a1 l1 c1])) := by rw [EX0]; exact row_of W #[.int .i64 x0, .slice a1 l1 c1] 84
  have B0 : Hid (Below W.heap.size W X0) := by rw [EX0]; show Below _ _ _; go_grown
  go_wp2_with fail
  rw [← EX0]
  clear EX0
  refine (IntS_size _ _ _ cs1 (l) _ hf1 hl1 (by omega) (by omega)).mono ?_
  rw [HN1.out]
  rintro e w0 ⟨rfl, hE⟩
  have hB : Below X0.heap.size X0 w0 := by rw [hE]; exact Below.refl _ _
  clear hE
  have A0 : Hid (w0.rowIs W.heap.size 84 2 (rowF [.int .i64 x0, .slice a1 l1 c1])) := RA.out.of_block (hB.block _ RA.out.lt)
  have BB0 : Hid (Below W.heap.size W w0) := B0.out.trans (hB.mono B0.out.size)
  clear hB RA B0
  by_cases q1 : (N1 : Int) ≤ l
  rotate_left
  · rw [if_neg q1]
    have HM : Hid (R = -1) := HRN.out (by omega)
    go_wp2
    go_ret
    exact ⟨by rw [HM.out]; rfl, BB0.out⟩
  rw [if_pos q1]
  have le1 : 0 ≤ l - (N1 : Int) := by omega
  have HE : Hid (R = l - (N1 : Int)) := by have q := HRP.out (by omega); show _ = _; omega
  go_wp2
  go_ret
  exact ⟨by rw [HE.out]; rfl, BB0.out⟩
set_option maxRecDepth 100000 in
set_option maxHeartbeats 4000000 in
theorem ClassS_size (a : Option Addr) (len cap : Nat) (cs : Nat → Dv) (l : Int) (c : Bool) (W : World) (hf : Hid (Fits shClassS (.l len 2 cs))) (hl : Hid (Lens (.l len 2 cs))) (h : Hid (Holds W c (.l len 2 cs) (.slice a len cap))) (h0 : 0 ≤ l) (h1 : l ≤ 1048576) :
    Calls Try.prog 33 #[.slice a len cap, .int .i64 l] W fun e W' => e = .returned (.int .i64 (if (szD (.l len 2 cs) : Int) ≤ l then l - (szD (.l len 2 cs) : Int) else -1)) ∧ Below W.heap.size W W' := by
  have hm := hl.out.1
  unfold maxLen at hm
  have hdef : szD (.l len 2 cs) = len + sumTo (fun j => szD (cs j)) (len * 2) := rfl
  have HDEF : Hid (szD (.l len 2 cs) = len + sumTo (fun j => szD (cs j)) (len * 2)) := hdef
  clear hdef
  obtain ⟨R, HR⟩ : ∃ R : Int, Hid ((if (szD (.l len 2 cs) : Int) ≤ l then l - (szD (.l len 2 cs) : Int) else -1) = R) := ⟨_, rfl⟩
  rw [HR.out]
  have HRN : Hid (¬ ((szD (.l len 2 cs) : Int) ≤ l) → R = -1) := fun q => by rw [← HR.out, if_neg q]
  have HRP : Hid ((szD (.l len 2 cs) : Int) ≤ l → R = l - (szD (.l len 2 cs) : Int)) := fun q => by rw [← HR.out, if_pos q]
  clear HR
  by_cases hq : (len : Int) ≤ l
  rotate_left
  · have HM : Hid (R = -1) := HRN.out (by have := HDEF.out; omega)
    have h' : l < (len : Int) := by omega
    clear hq
    go_enter Try.func33, Try.ntmps33
    go_wp2
    go_ret
    exact ⟨by rw [HM.out]; rfl, Below.refl _ _⟩
  have hlen : len ≤ 1048576 := by omega
  go_enter Try.func33, Try.ntmps33
  go_wp2
  go_loopw [1, 5] (fun vl vi wr => ∃ k : Nat, k ≤ len ∧ vi = .int .i64 k ∧ vl = .int .i64 (l - (len : Int) - (sumTo (fun j => szD (cs j)) (k * 2) : Nat)) ∧ 0 ≤ l - (len : Int) - (sumTo (fun j => szD (cs j)) (k * 2) : Nat) ∧ Hid (Below W.heap.size W wr)) (fun _ vi _ => len - (intOf vi).toNat)
  case atStart => exact ⟨0, Nat.zero_le _, rfl, by simp [sumTo], by simp [sumTo]; omega, Below.refl _ _⟩
  case round =>
    obtain ⟨k, hk, rfl, rfl, hge, HB⟩ := hrel
    by_cases hlt : k < len
    rotate_left
    · have HK : Hid (k = len) := by show k = len; omega
      rw [HK.out] at hge ⊢
      have HE : Hid (R = l - (len : Int) - (sumTo (fun j => szD (cs j)) (len * 2) : Nat)) := by show _ = _; have q1 := HDEF.out; have q2 := HRP.out (by omega); omega
      go_wp2
      go_ret
      exact ⟨by rw [HE.out]; rfl, HB.out⟩
    have hltI : (k : Int) < (len : Int) := by omega
    have hkn : (k + 1) * 2 ≤ len * 2 := Nat.mul_le_mul_right _ hlt
    rw [Nat.add_mul] at hkn
    obtain ⟨b, o, ha, hb, hcell⟩ := h.out.cells HB.out (show 0 < len * 2 by omega)
    subst ha
    have hbw : b < wr.heap.size := by have := HB.out.size; omega
    have HTOT : Hid ((sumTo (fun j => szD (cs j)) ((k + 1) * 2) : Nat) ≤ sumTo (fun j => szD (cs j)) (len * 2)) := sumTo_mono _ _ (by omega)
    obtain ⟨kk, HKK⟩ : ∃ kk : Int, Hid (l - (len : Int) - (sumTo (fun j => szD (cs j)) (k * 2) : Nat) = kk) := ⟨_, rfl⟩
    rw [HKK.out] at hge ⊢
    have kk1 : kk ≤ 1048576 := by have := HKK.out; omega
    obtain ⟨u0, d0, q0⟩ := hcell (k * 2) (by omega)
    obtain ⟨x0, E0⟩ := (hf.out.cell hlt (c := 0) (by decide)).int
    have E0 : cs (k * 2) = .n x0 := E0
    rw [E0] at q0
    have q0 : u0 = .int .i64 x0 := q0
    subst q0
    have n0 : szD (cs (k * 2)) = 0 := by rw [E0]; rfl
    obtain ⟨u1, d1, q1⟩ := hcell (k * 2 + 1) (by omega)
    rw [← Nat.add_assoc] at d1
    obtain ⟨l1, cs1, E1, F1⟩ := (hf.out.cell hlt (c := 1) (by decide)).list
    have E1 : cs (k * 2 + 1) = .l l1 1 cs1 := E1
    have hl1 : Hid (Lens (.l l1 1 cs1)) := by have q := hl.out.2 (k * 2 + 1) (by omega); rw [E1] at q; exact q
    have hf1 : Hid (Fits shI (.l l1 1 cs1)) := ⟨rfl, F1⟩
    clear F1
    obtain ⟨N1, HN1⟩ : ∃ N, Hid (szD (.l l1 1 cs1) = N) := ⟨_, rfl⟩
    have n1 : szD (cs (k * 2 + 1)) = N1 := by rw [E1]; exact HN1.out
    rw [E1] at q1
    obtain ⟨a1, c1, ev1, _⟩ := q1.slice
    subst ev1
    have h1 : Hid (Holds wr c (.l l1 1 cs1) (.slice a1 l1 c1)) := q1
    clear q1
    have HE : Hid ((sumTo (fun j => szD (cs j)) ((k + 1) * 2) : Nat) = (sumTo (fun j => szD (cs j)) (k * 2) : Nat) + N1) := by show _ = _; rw [show (k + 1) * 2 = k * 2 + 1 + 1 by omega]; simp only [sumTo, n0, n1]; try omega
    clear hcell
    go_wp2_with fail
    refine (Class_size x0 _ _ _ cs1 kk c _ hf1 hl1 h1 (by omega) (by omega)).mono ?_
    rw [HN1.out]
    rintro e w1 ⟨rfl, hB⟩
    have HB1 : Hid (Below W.heap.size W w1) := HB.out.trans (hB.mono HB.out.size)
    clear hB
    by_cases qn : (N1 : Int) ≤ kk
    rotate_left
    · rw [if_neg qn]
      have HM : Hid (R = -1) := HRN.out (by have q1 := HDEF.out; have q2 := HTOT.out; have q3 := HE.out; have q4 := HKK.out; omega)
      go_wp2
      go_ret
      exact ⟨by rw [HM.out]; rfl, HB1.out⟩
    rw [if_pos qn]
    have kp : 0 ≤ kk - (N1 : Int) := by omega
    have HV : Hid (kk - (N1 : Int) = l - (len : Int) - (sumTo (fun j => szD (cs j)) ((k + 1) * 2) : Nat)) := by show _ = _; have q3 := HE.out; have q4 := HKK.out; omega
    go_wp2
    go_roundw
    case rel => exact ⟨k + 1, by omega, by go_num, by rw [← HV.out], by rw [← HV.out]; exact kp, HB1⟩
    case measure => simp [intOf]; omega
def shWayS : Sh := .l 2 (fun i => match i with | 0 => .n | _ => .n)
theorem thin_WayS : Thin shWayS := ⟨by decide, fun i => by
  show Thin (match i with | 0 => .n | _ => .n)
  split
  · exact trivial
  · exact trivial⟩
set_option maxRecDepth 100000 in
set_option maxHeartbeats 4000000 in
theorem Way_eq (x0 : Int) (x1 : Int) (c c' : Bool) (W : World) : Calls Try.prog 64 #[.agg #[.int .i64 x0, .int .i64 x1], .agg #[.int .i64 x0, .int .i64 x1]] W fun e W' => e = .returned (.bool true) ∧ Below W.heap.size W W' := by
  have ne0 : (x0 != x0) = false := by simp
  have ne1 : (x1 != x1) = false := by simp
  go_enter Try.func64, Try.ntmps64
  go_wp2
  go_ret
  exact ⟨rfl, by go_grown⟩
set_option maxRecDepth 100000 in
set_option maxHeartbeats 4000000 in
theorem WayS_eq (a a' : Option Addr) (len cap cap' : Nat) (cs : Nat → Dv) (c c' : Bool) (W : World) (hf : Hid (Fits shWayS (.l len 2 cs))) (hs : Hid (szD (.l len 2 cs) ≤ 1048576)) (h : Hid (Holds W c (.l len 2 cs) (.slice a len cap))) (h' : Hid (Holds W c' (.l len 2 cs) (.slice a' len cap'))) :
    Calls Try.prog 50 #[.slice a len cap, .slice a' len cap'] W fun e W' => e = .returned (.bool true) ∧ Below W.heap.size W W' := by
  have hlen : len ≤ 1048576 := Nat.le_trans (Nat.le_add_right _ _) hs.out
  go_enter Try.func50, Try.ntmps50
  go_wp2
  go_loopw [5] (fun vi wr => ∃ k : Nat, k ≤ len ∧ vi = .int .i64 k ∧ Hid (Below W.heap.size W wr)) (fun vi _ => len - (intOf vi).toNat)
  case atStart => exact ⟨0, Nat.zero_le _, rfl, Below.refl _ _⟩
  case round =>
    obtain ⟨k, hk, rfl, HB⟩ := hrel
    by_cases hlt : k < len
    rotate_left
    · go_wp2
      go_ret
      exact ⟨rfl, HB.out⟩
    have hltI : (k : Int) < (len : Int) := by omega
    have hkn : (k + 1) * 2 ≤ len * 2 := Nat.mul_le_mul_right _ hlt
    rw [Nat.add_mul] at hkn
    obtain ⟨b, o, ha, hb, hcell⟩ := h.out.cells HB.out (show 0 < len * 2 by omega)
    obtain ⟨b', o', ha', hb', hcell'⟩ := h'.out.cells HB.out (show 0 < len * 2 by omega)
    subst ha ha'
    have hbw : b < wr.heap.size := by have := HB.out.size; omega
    have hbw' : b' < wr.heap.size := by have := HB.out.size; omega
    obtain ⟨u0, d0, q0⟩ := hcell (k * 2) (by omega)
    obtain ⟨v0, g0, r0⟩ := hcell' (k * 2) (by omega)
    obtain ⟨x0, E0⟩ := (hf.out.cell hlt (c := 0) (by decide)).int
    have E0 : cs (k * 2) = .n x0 := E0
    rw [E0] at q0 r0
    have q0 : u0 = .int .i64 x0 := q0
    have r0 : v0 = .int .i64 x0 := r0
    subst q0 r0
    clear E0
    obtain ⟨u1, d1, q1⟩ := hcell (k * 2 + 1) (by omega)
    obtain ⟨v1, g1, r1⟩ := hcell' (k * 2 + 1) (by omega)
    rw [← Nat.add_assoc] at d1 g1
    obtain ⟨x1, E1⟩ := (hf.out.cell hlt (c := 1) (by decide)).int
    have E1 : cs (k * 2 + 1) = .n x1 := E1
    rw [E1] at q1 r1
    have q1 : u1 = .int .i64 x1 := q1
    have r1 : v1 = .int .i64 x1 := r1
    subst q1 r1
    clear E1
    clear hcell hcell'
    have HD : Hid (Below W.heap.size W wr.drew) := HB.out.drew
    go_wp2_with fail
    go_region_with (go_at_call 64; refine (Way_eq x0 x1 c c' _  ).mono ?_; rintro e w' ⟨rfl, hb⟩; have HX : Hid (Below W.heap.size W w') := HD.out.trans (hb.mono HD.out.size); clear hb)
    all_goals
      go_wp2
      go_roundw
      case rel => exact ⟨k + 1, by omega, by go_num, HX.out⟩
      case measure => simp [intOf]; omega
set_option maxRecDepth 100000 in
set_option maxHeartbeats 4000000 in
theorem WayS_mark (k0 : Int) (h0 : 0 ≤ k0) (h1 : k0 ≤ 1000000000) (a : Option Addr) (len cap : Nat) (cs : Nat → Dv) (c : Bool) (W : World) (B : Nat) (F : Nat → Prop) (hf : Hid (Fits shWayS (.l len 2 cs))) (hs : Hid (szD (.l len 2 cs) ≤ 1048576)) (h : Hid (Owns W c B (.l len 2 cs) (.slice a len cap) F)) :
    Calls Try.prog 51 #[.slice a len cap, .int .i64 k0] W fun e W' => e = .returned (.int .i64 (k0 + (cntD (.l len 2 cs) : Nat))) ∧ Owns W' c B (mkD k0 (.l len 2 cs)) (.slice a len cap) F ∧ OnlyF W W' F := by
  have hlen : len ≤ 1048576 := Nat.le_trans (Nat.le_add_right _ _) hs.out
  have hcn : sumTo (fun j => cntD (cs j)) (len * 2) ≤ 8388609 := by have q := cnt_le thin_WayS hf.out; have q2 := hs.out; simp only [cntD] at q; omega
  have hmo : ∀ m, m ≤ len * 2 → sumTo (fun j => cntD (cs j)) m ≤ 8388609 := fun m hm => Nat.le_trans (sumTo_mono _ _ hm) hcn
  have HMO : Hid (∀ m, m ≤ len * 2 → sumTo (fun j => cntD (cs j)) m ≤ 8388609) := hmo
  clear hcn hmo
  go_enter Try.func51, Try.ntmps51
  go_wp2
  go_loopw [1, 5] (fun vk vi wr => ∃ k : Nat, k ≤ len ∧ vi = .int .i64 k ∧ vk = .int .i64 (k0 + (sumTo (fun j => cntD (cs j)) (k * 2) : Nat)) ∧ Hid (Owns wr c B (.l len 2 (fun j => if j < k * 2 then mkD (k0 + (sumTo (fun j => cntD (cs j)) j : Nat)) (cs j) else cs j)) (.slice a len cap) F) ∧ Hid (OnlyF W wr F)) (fun _ vi _ => len - (intOf vi).toNat)
  case atStart => exact ⟨0, Nat.zero_le _, rfl, by simp [sumTo], h.out.congr (fun i hi => by rw [if_neg (by omega)]), OnlyF.refl _ _⟩
  case round =>
    obtain ⟨k, hk, rfl, rfl, HO, HB⟩ := hrel
    by_cases hlt : k < len
    rotate_left
    · have HK : Hid (k = len) := by show k = len; omega
      go_wp2
      go_ret
      refine ⟨by rw [HK.out]; rfl, ?_, HB.out⟩
      exact HO.out.congr (fun i hi => by rw [if_pos (by rw [HK.out]; exact hi)])
    have hltI : (k : Int) < (len : Int) := by omega
    have hkn : (k + 1) * 2 ≤ len * 2 := Nat.mul_le_mul_right _ hlt
    rw [Nat.add_mul] at hkn
    obtain ⟨b, o, ha, hbw⟩ := HO.out.addr (show 0 < len * 2 by omega)
    subst ha
    have hk1 := HMO.out (k * 2) (by omega)
    obtain ⟨kk, HKK⟩ : ∃ kk : Int, Hid (k0 + (sumTo (fun j => cntD (cs j)) (k * 2) : Nat) = kk) := ⟨_, rfl⟩
    have kk0 : 0 ≤ kk := by have := HKK.out; omega
    have kk1 : kk ≤ 1000000000 + 8388609 := by have := HKK.out; omega
    rw [HKK.out]
    clear hk1
    obtain ⟨x0, E0⟩ := (hf.out.cell hlt (c := 0) (by decide)).int
    have E0 : Hid (cs (k * 2) = .n x0) := E0
    obtain ⟨x1, E1⟩ := (hf.out.cell hlt (c := 1) (by decide)).int
    have E1 : Hid (cs (k * 2 + 1) = .n x1) := E1
    have HO0 : Hid (Owns wr c B (.l len 2 (fun j => if j < k * 2 then mkD (k0 + (sumTo (fun j => cntD (cs j)) j : Nat)) (cs j) else cs j)) (.slice (some ⟨b, o, none⟩) len cap) F) := HO
    clear HO
    obtain ⟨d0, f0, s0⟩ := HO0.out.num (j := k * 2) (y := x0) (by omega) (by show (if _ then _ else _) = _; rw [if_neg (by omega)]; exact E0.out)
    obtain ⟨s0, t0⟩ := s0 (kk)
    have HO1 : Hid (Owns (wr.setCell ⟨b, o + k * 2, none⟩ (.int .i64 (kk))) c B (.l len 2 (updD (fun j => if j < k * 2 then mkD (k0 + (sumTo (fun j => cntD (cs j)) j : Nat)) (cs j) else cs j) (k * 2) (.n (kk)))) (.slice (some ⟨b, o, none⟩) len cap) F) := s0
    have HB1 : Hid (OnlyF W (wr.setCell ⟨b, o + k * 2, none⟩ (.int .i64 (kk))) F) := HB.out.trans t0
    clear s0 t0
    obtain ⟨d1, f1, s1⟩ := HO1.out.num (j := k * 2 + 1) (y := x1) (by omega) (by rw [updD_other _ _ (show k * 2 + 1 ≠ k * 2 by omega)]; show (if _ then _ else _) = _; rw [if_neg (by omega)]; exact E1.out)
    obtain ⟨s1, t1⟩ := s1 (kk + 1)
    rw [← Nat.add_assoc] at d1 f1 s1 t1
    have HO2 : Hid (Owns ((wr.setCell ⟨b, o + k * 2, none⟩ (.int .i64 (kk))).setCell ⟨b, o + k * 2 + 1, none⟩ (.int .i64 (kk + 1))) c B (.l len 2 (updD (updD (fun j => if j < k * 2 then mkD (k0 + (sumTo (fun j => cntD (cs j)) j : Nat)) (cs j) else cs j) (k * 2) (.n (kk))) (k * 2 + 1) (.n (kk + 1)))) (.slice (some ⟨b, o, none⟩) len cap) F) := s1
    have HB2 : Hid (OnlyF W ((wr.setCell ⟨b, o + k * 2, none⟩ (.int .i64 (kk))).setCell ⟨b, o + k * 2 + 1, none⟩ (.int .i64 (kk + 1))) F) := HB1.out.trans t1
    clear s1 t1
    go_wp2
    go_roundw
    case rel =>
      have e1 : sumTo (fun j => cntD (cs j)) ((k + 1) * 2) = sumTo (fun j => cntD (cs j)) (k * 2) + cntD (cs (k * 2)) + cntD (cs (k * 2 + 1)) := by rw [show (k + 1) * 2 = k * 2 + 1 + 1 by omega]; rfl
      have n0 : cntD (cs (k * 2)) = 1 := by rw [E0.out]; exact rfl
      have n1 : cntD (cs (k * 2 + 1)) = 1 := by rw [E1.out]; exact rfl
      have m1 : sumTo (fun j => cntD (cs j)) (k * 2 + 1) = sumTo (fun j => cntD (cs j)) (k * 2) + cntD (cs (k * 2)) := rfl
      have hkk := HKK.out
      refine ⟨k + 1, by omega, by go_num, ?_, ?_, HB2⟩
      · rw [e1, n0, n1]
        congr 1
        omega
      · refine HO2.out.congr ?_
        intro j hj
        rcases (show j = k * 2 ∨ j = k * 2 + 1 ∨ j < k * 2 ∨ (k + 1) * 2 ≤ j by omega) with e0 | e0 | h | h
        · rw [e0, if_pos (show k * 2 < (k + 1) * 2 by omega), updD_other _ _ (show k * 2 ≠ k * 2 + 1 by omega), updD_same, E0.out]
          rw [show k0 + (sumTo (fun j => cntD (cs j)) (k * 2) : Nat) = kk by omega]
          rfl
        · rw [e0, if_pos (show k * 2 + 1 < (k + 1) * 2 by omega), updD_same, E1.out]
          rw [show k0 + (sumTo (fun j => cntD (cs j)) (k * 2 + 1) : Nat) = kk + 1 by rw [m1, n0]; omega]
          rfl
        · rw [updD_other _ _ (show j ≠ k * 2 + 1 by omega), updD_other _ _ (show j ≠ k * 2 by omega), if_pos h, if_pos (show j < (k + 1) * 2 by omega)]
        · rw [updD_other _ _ (show j ≠ k * 2 + 1 by omega), updD_other _ _ (show j ≠ k * 2 by omega), if_neg (show ¬ j < k * 2 by omega), if_neg (show ¬ j < (k + 1) * 2 by omega)]
    case measure => simp [intOf]; omega
set_option maxRecDepth 100000 in
set_option maxHeartbeats 4000000 in
theorem WayS_held (k0 : Int) (h0 : 0 ≤ k0) (a : Option Addr) (len cap : Nat) (cs : Nat → Dv) (c : Bool) (W : World) (hf : Hid (Fits shWayS (.l len 2 cs))) (hs : Hid (szD (.l len 2 cs) ≤ 1048576)) (h1 : k0 + (cntD (.l len 2 cs) : Nat) ≤ 16777216) (h : Hid (Holds W c (mkD k0 (.l len 2 cs)) (.slice a len cap))) :
    Calls Try.prog 52 #[.slice a len cap, .int .i64 k0] W fun e W' => e = .returned (.int .i64 (k0 + (cntD (.l len 2 cs) : Nat))) ∧ W' = W := by
  have hlen : len ≤ 1048576 := Nat.le_trans (Nat.le_add_right _ _) hs.out
  have hmo : ∀ m, m ≤ len * 2 → k0 + (sumTo (fun j => cntD (cs j)) m : Nat) ≤ 16777216 := fun m hm => by have q := sumTo_mono (fun j => cntD (cs j)) _ hm; have q2 : k0 + (sumTo (fun j => cntD (cs j)) (len * 2) : Nat) ≤ 16777216 := h1; omega
  have HMO : Hid (∀ m, m ≤ len * 2 → k0 + (sumTo (fun j => cntD (cs j)) m : Nat) ≤ 16777216) := hmo
  clear hmo h1
  have H : Hid (Holds W c (.l len 2 (fun j => mkD (k0 + (sumTo (fun j => cntD (cs j)) j : Nat)) (cs j))) (.slice a len cap)) := h
  clear h
  go_enter Try.func52, Try.ntmps52
  go_wp2
  go_loop [1, 5] (fun vk vi => ∃ k : Nat, k ≤ len ∧ vi = .int .i64 k ∧ vk = .int .i64 (k0 + (sumTo (fun j => cntD (cs j)) (k * 2) : Nat))) (fun _ vi => len - (intOf vi).toNat)
  case atStart => exact ⟨0, Nat.zero_le _, rfl, by simp [sumTo]⟩
  case round =>
    obtain ⟨k, hk, rfl, rfl⟩ := hrel
    by_cases hlt : k < len
    rotate_left
    · have HK : Hid (k = len) := by show k = len; omega
      go_wp2
      go_ret
      exact ⟨by rw [HK.out]; rfl, rfl⟩
    have hltI : (k : Int) < (len : Int) := by omega
    have hkn : (k + 1) * 2 ≤ len * 2 := Nat.mul_le_mul_right _ hlt
    rw [Nat.add_mul] at hkn
    obtain ⟨b, o, ha, hb, hcell⟩ := H.out.cells (Below.refl _ _) (show 0 < len * 2 by omega)
    subst ha
    have hk1 := HMO.out (k * 2) (by omega)
    have HLAST := HMO.out ((k + 1) * 2) (by omega)
    obtain ⟨kk, HKK⟩ : ∃ kk : Int, Hid (k0 + (sumTo (fun j => cntD (cs j)) (k * 2) : Nat) = kk) := ⟨_, rfl⟩
    have kk0 : 0 ≤ kk := by have := HKK.out; omega
    have kk1 : kk ≤ 16777216 := by have := HKK.out; omega
    rw [HKK.out]
    clear hk1
    have e1 : sumTo (fun j => cntD (cs j)) ((k + 1) * 2) = sumTo (fun j => cntD (cs j)) (k * 2) + cntD (cs (k * 2)) + cntD (cs (k * 2 + 1)) := by rw [show (k + 1) * 2 = k * 2 + 1 + 1 by omega]; rfl
    obtain ⟨x0, E0⟩ := (hf.out.cell hlt (c := 0) (by decide)).int
    have E0 : cs (k * 2) = .n x0 := E0
    have n0 : cntD (cs (k * 2)) = 1 := by rw [E0]; rfl
    obtain ⟨u0, d0, q0⟩ := hcell (k * 2) (by omega)
    have v0 : k0 + (sumTo (fun j => cntD (cs j)) (k * 2) : Nat) = kk := by have q := HKK.out; exact q
    rw [v0, E0] at q0
    have q0 : u0 = .int .i64 (kk) := q0
    subst q0
    obtain ⟨x1, E1⟩ := (hf.out.cell hlt (c := 1) (by decide)).int
    have E1 : cs (k * 2 + 1) = .n x1 := E1
    have n1 : cntD (cs (k * 2 + 1)) = 1 := by rw [E1]; rfl
    obtain ⟨u1, d1, q1⟩ := hcell (k * 2 + 1) (by omega)
    rw [← Nat.add_assoc] at d1
    have m1 : sumTo (fun j => cntD (cs j)) (k * 2 + 1) = sumTo (fun j => cntD (cs j)) (k * 2) + cntD (cs (k * 2)) := rfl
    have v1 : k0 + (sumTo (fun j => cntD (cs j)) (k * 2 + 1) : Nat) = kk + 1 := by have q := HKK.out; rw [m1, n0]; omega
    rw [v1, E1] at q1
    have q1 : u1 = .int .i64 (kk + 1) := q1
    subst q1
    rw [e1, n0, n1] at HLAST
    have LAST : kk + 1 + 1 ≤ 16777216 := by have q := HKK.out; omega
    have HE : Hid (kk + 1 + 1 = k0 + (sumTo (fun j => cntD (cs j)) ((k + 1) * 2) : Nat)) := by show _ = _; rw [e1, n0, n1]; have q := HKK.out; omega
    clear HLAST hcell e1 v0 n0 E0 v1 n1 E1 m1
    go_wp2
    go_round
    case rel => exact ⟨k + 1, by omega, by go_num, by rw [← HE.out]⟩
    case measure => simp [intOf]; omega
set_option maxRecDepth 100000 in
set_option maxHeartbeats 4000000 in
theorem World_to (a0 : Option Addr) (l0 c0 : Nat) (cs0 : Nat → Dv) (x1 : Int) (c : Bool) (W : World) (hf0 : Hid (Fits shClassS (.l l0 2 cs0))) (hs0 : Hid (szD (.l l0 2 cs0) ≤ 1048576)) (h0 : Hid (Holds W c (.l l0 2 cs0) (.slice a0 l0 c0))) : Calls Try.prog 11 #[.agg #[.slice a0 l0 c0, .int .i64 x1]] W fun e W' => ∃ g0, e = .returned (.agg #[.slice (some ⟨g0, 0, none⟩) l0 l0, .int .i64 x1]) ∧ Owns W' true W.heap.size (.l l0 2 cs0) (.slice (some ⟨g0, 0, none⟩) l0 l0) (rng W.heap.size W'.heap.size) ∧ W.heap.size ≤ W'.heap.size ∧ Below W.heap.size W W' := by
  go_enter Try.func11, Try.ntmps11
  obtain ⟨X0, EX0⟩ : ∃ X, X = ((W.alloc (.cells #[.slice a0 l0 c0, .int .i64 x1] 24)).alloc (.cells #[.slice none 0 0, .int .i64 0] 29)).alloc (.cells #[.slice none 0 0, .int .i64 0] 29) := ⟨_, rfl⟩
  have RA : Hid (X0.rowIs W.heap.size 24 2 (rowF [.slice a0 l0 c0, .int .i64 x1])) := by rw [EX0]; exact ((row_of W #[.slice a0 l0 c0, .int .i64 x1] 24).alloc _).alloc _
  have RR : Hid (X0.rowIs (W.heap.size + 1) 29 2 (rowF [.slice none 0 0, .int .i64 0])) := by
    rw [EX0]
    have q := (row_of (W.alloc (.cells #[.slice a0 l0 c0, .int .i64 x1] 24)) #[.slice none 0 0, .int .i64 0] 29)
    rw [show (W.alloc (.cells #[.slice a0 l0 c0, .int .i64 x1] 24)).heap.size = W.heap.size + 1 by simp] at q
    exact q.alloc _
  have RO : Hid (X0.rowIs (W.heap.size + 1 + 1) 29 2 (rowF [.slice none 0 0, .int .i64 0])) := by
    rw [EX0]
    have q := (row_of ((W.alloc (.cells #[.slice a0 l0 c0, .int .i64 x1] 24)).alloc (.cells #[.slice none 0 0, .int .i64 0] 29)) #[.slice none 0 0, .int .i64 0] 29)
    rw [show ((W.alloc (.cells #[.slice a0 l0 c0, .int .i64 x1] 24)).alloc (.cells #[.slice none 0 0, .int .i64 0] 29)).heap.size = W.heap.size + 1 + 1 by simp] at q
    exact q
  have B0 : Hid (Below W.heap.size W X0) := by rw [EX0]; show Below _ _ _; go_grown
  have s0 : X0.heap.size = W.heap.size + 1 + 1 + 1 := by rw [EX0]; simp
  have x_0 : X0.cell? ⟨W.heap.size, 0, none⟩ = some (.slice a0 l0 c0) := RA.out.cell (i := 0) (by decide)
  have x_1 : X0.cell? ⟨W.heap.size, 1, none⟩ = some (.int .i64 x1) := RA.out.cell (i := 1) (by decide)
  have o_0 : X0.cell? ⟨W.heap.size + 1 + 1, 0, none⟩ = some (.slice none 0 0) := RO.out.cell (i := 0) (by decide)
  have p_0 : X0.frozen? ⟨W.heap.size + 1 + 1, 0, none⟩ = false := RO.out.frozen 0
  have o_1 : X0.cell? ⟨W.heap.size + 1 + 1, 1, none⟩ = some (.int .i64 0) := RO.out.cell (i := 1) (by decide)
  have p_1 : X0.frozen? ⟨W.heap.size + 1 + 1, 1, none⟩ = false := RO.out.frozen 1
  go_wp2_with fail
  rw [← EX0]
  clear x_0 o_0 p_0 x_1 o_1 p_1
  refine (ClassS_to _ _ _ cs0 c _ hf0 hs0 (h0.out.kept B0.out)).mono ?_
  rintro e w0 ⟨rfl, hO, hB⟩
  have O0 : Hid (Owns w0 true X0.heap.size (.l l0 2 cs0) (.slice (some ⟨X0.heap.size, 0, none⟩) l0 l0) (rng X0.heap.size w0.heap.size)) := hO
  have sz0 : X0.heap.size ≤ w0.heap.size := hB.size
  have HA0 : Hid (w0.rowIs W.heap.size 24 2 (rowF [.slice a0 l0 c0, .int .i64 x1])) := RA.out.of_block (hB.block _ RA.out.lt)
  have HR0 : Hid (w0.rowIs (W.heap.size + 1) 29 2 (rowF [.slice none 0 0, .int .i64 0])) := RR.out.of_block (hB.block _ RR.out.lt)
  have HO0 : Hid (w0.rowIs (W.heap.size + 1 + 1) 29 2 (rowF [.slice none 0 0, .int .i64 0])) := RO.out.of_block (hB.block _ RO.out.lt)
  have BB0 : Hid (Below W.heap.size W w0) := B0.out.trans (hB.mono B0.out.size)
  have lt0 : W.heap.size + 1 + 1 < w0.heap.size := HO0.out.lt
  have wl0 : W.heap.size + 1 + 1 < X0.heap.size := RO.out.lt
  obtain ⟨G0, hG0⟩ : ∃ g, X0.heap.size = g := ⟨_, rfl⟩
  rw [hG0] at O0 sz0 wl0 ⊢
  clear hO hB
  have x_dummy := True.intro
  have x_1 : w0.cell? ⟨W.heap.size, 1, none⟩ = some (.int .i64 x1) := HA0.out.cell (i := 1) (by decide)
  have o_0 : w0.cell? ⟨W.heap.size + 1 + 1, 0, none⟩ = some (.slice none 0 0) := HO0.out.cell (i := 0) (by decide)
  have p_0 : w0.frozen? ⟨W.heap.size + 1 + 1, 0, none⟩ = false := HO0.out.frozen 0
  have o_1 : w0.cell? ⟨W.heap.size + 1 + 1, 1, none⟩ = some (.int .i64 0) := HO0.out.cell (i := 1) (by decide)
  have p_1 : w0.frozen? ⟨W.heap.size + 1 + 1, 1, none⟩ = false := HO0.out.frozen 1
  have r_0 : w0.cell? ⟨W.heap.size + 1, 0, none⟩ = some (.slice none 0 0) := HR0.out.cell (i := 0) (by decide)
  have t_0 : w0.frozen? ⟨W.heap.size + 1, 0, none⟩ = false := HR0.out.frozen 0
  have r_1 : w0.cell? ⟨W.heap.size + 1, 1, none⟩ = some (.int .i64 0) := HR0.out.cell (i := 1) (by decide)
  have t_1 : w0.frozen? ⟨W.heap.size + 1, 1, none⟩ = false := HR0.out.frozen 1
  go_wp2
  skip
  refine bodyPost_ret (v := .agg #[.slice (some ⟨G0, 0, none⟩) l0 l0, .int .i64 x1]) (by simp only [results, Try.results11]; go_simp) rfl ⟨G0, rfl, ?_, ?_, ?_⟩
  · refine Owns.more (F := rng G0 w0.heap.size) ?_ (fun x hx => ⟨by have := hx.1; omega, by have := hx.2; simpa [World.setCell] using this⟩)
    iterate 4 refine far_set (by omega) ?_
    exact O0.out.low (by omega)
  · simp [World.setCell]; omega
  · refine Below.trans BB0.out ?_
    iterate 4 refine Below.setCell ?_ (by simp; try omega) _
    exact Below.refl _ _
set_option maxRecDepth 100000 in
set_option maxHeartbeats 4000000 in
theorem World_eq (a0 : Option Addr) (l0 c0 : Nat) (cs0 : Nat → Dv) (x1 : Int) (b0 : Option Addr) (e0 : Nat) (c c' : Bool) (W : World) (hf0 : Hid (Fits shClassS (.l l0 2 cs0))) (hs0 : Hid (szD (.l l0 2 cs0) ≤ 1048576)) (h0 : Hid (Holds W c (.l l0 2 cs0) (.slice a0 l0 c0))) (g0 : Hid (Holds W c' (.l l0 2 cs0) (.slice b0 l0 e0))) : Calls Try.prog 13 #[.agg #[.slice a0 l0 c0, .int .i64 x1], .agg #[.slice b0 l0 e0, .int .i64 x1]] W fun e W' => e = .returned (.bool true) ∧ Below W.heap.size W W' := by
  have ne1 : (x1 != x1) = false := by simp
  go_enter Try.func13, Try.ntmps13
  obtain ⟨X0, EX0⟩ : ∃ X, X = (W.alloc (.cells #[.slice a0 l0 c0, .int .i64 x1] 29)).alloc (.cells #[.slice b0 l0 e0, .int .i64 x1] 29) := ⟨_, rfl⟩
  have RA : Hid (X0.rowIs W.heap.size 29 2 (rowF [.slice a0 l0 c0, .int .i64 x1])) := by rw [EX0]; exact (row_of W #[.slice a0 l0 c0, .int .i64 x1] 29).alloc _
  have RB : Hid (X0.rowIs (W.heap.size + 1) 29 2 (rowF [.slice b0 l0 e0, .int .i64 x1])) := by
    rw [EX0]
    have q := row_of (W.alloc (.cells #[.slice a0 l0 c0, .int .i64 x1] 29)) #[.slice b0 l0 e0, .int .i64 x1] 29
    rw [show (W.alloc (.cells #[.slice a0 l0 c0, .int .i64 x1] 29)).heap.size = W.heap.size + 1 by simp] at q
    exact q
  have B0 : Hid (Below W.heap.size W X0) := by rw [EX0]; show Below _ _ _; go_grown
  go_wp2_with fail
  rw [← EX0]
  clear EX0
  refine (ClassS_eq _ _ _ _ _ cs0 c c' _ hf0 hs0 (h0.out.kept B0.out) (g0.out.kept B0.out)).mono ?_
  rintro e w0 ⟨rfl, hB⟩
  have A0 : Hid (w0.rowIs W.heap.size 29 2 (rowF [.slice a0 l0 c0, .int .i64 x1])) := RA.out.of_block (hB.block _ RA.out.lt)
  have C0 : Hid (w0.rowIs (W.heap.size + 1) 29 2 (rowF [.slice b0 l0 e0, .int .i64 x1])) := RB.out.of_block (hB.block _ RB.out.lt)
  have BB0 : Hid (Below W.heap.size W w0) := B0.out.trans (hB.mono B0.out.size)
  clear hB B0 RA RB
  have y_1 : w0.cell? ⟨W.heap.size, 1, none⟩ = some (.int .i64 x1) := A0.out.cell (i := 1) (by decide)
  have z_1 : w0.cell? ⟨W.heap.size + 1, 1, none⟩ = some (.int .i64 x1) := C0.out.cell (i := 1) (by decide)
  go_wp2
  go_ret
  exact ⟨rfl, BB0.out⟩
set_option maxRecDepth 100000 in
set_option maxHeartbeats 4000000 in
theorem World_mark (k0 : Int) (h0k : 0 ≤ k0) (h1k : k0 ≤ 100000000) (a0 : Option Addr) (l0 c0 : Nat) (cs0 : Nat → Dv) (x1 : Int) (c : Bool) (W : World) (B : Nat) (F0 : Nat → Prop) (hf0 : Hid (Fits shClassS (.l l0 2 cs0))) (hs0 : Hid (szD (.l l0 2 cs0) ≤ 1048576)) (h0 : Hid (Owns W c B (.l l0 2 cs0) (.slice a0 l0 c0) F0)) (u0 : Hid (∀ x, F0 x → x < W.heap.size)) : Calls Try.prog 18 #[.agg #[.slice a0 l0 c0, .int .i64 x1], .int .i64 k0] W fun e W' => e = .returned (.int .i64 (k0 + (cntD (.l l0 2 cs0) : Nat))) ∧ Owns W' c B (mkD (k0) (.l l0 2 cs0)) (.slice a0 l0 c0) F0 ∧ OnlyF W W' F0 := by
  go_enter Try.func18, Try.ntmps18
  obtain ⟨X0, EX0⟩ : ∃ X, X = W.alloc (.cells #[.slice a0 l0 c0, .int .i64 x1] 29) := ⟨_, rfl⟩
  have RA : Hid (X0.rowIs W.heap.size 29 2 (rowF [.slice a0 l0 c0, .int .i64 x1])) := by rw [EX0]; exact row_of W #[.slice a0 l0 c0, .int .i64 x1] 29
  have B0 : Below W.heap.size W X0 := by rw [EX0]; show Below _ _ _; go_grown
  have O0 : Hid (Owns X0 c B (.l l0 2 cs0) (.slice a0 l0 c0) F0) := h0.out.kept B0
  have ON : Hid (OnlyF W X0 F0) := OnlyF.of_below B0
  clear B0
  have hc0 := cnt_le thin_ClassS hf0.out
  have HC0 : Hid (cntD (.l l0 2 cs0) ≤ 8388609) := by have q := hs0.out; show _ ≤ _; omega
  clear hc0
  go_wp2_with fail
  rw [← EX0]
  clear EX0
  refine (ClassS_mark (k0) (by omega) (by omega) _ _ _ cs0 c _ B F0 hf0 hs0 O0).mono ?_
  obtain ⟨N0, HN0⟩ : ∃ N, Hid (cntD (.l l0 2 cs0) = N) := ⟨_, rfl⟩
  have hN0 : N0 ≤ 8388609 := by have q := HC0.out; rw [HN0.out] at q; exact q
  rw [HN0.out]
  rintro e w0 ⟨rfl, hO, hF⟩
  have P0 : Hid (Owns w0 c B (mkD (k0) (.l l0 2 cs0)) (.slice a0 l0 c0) F0) := hO
  have ON0 : Hid (OnlyF W w0 F0) := ON.out.trans (hF.more (fun x hx => hx))
  clear hF hO
  go_wp2
  go_ret
  refine ⟨by rw [HN0.out]; rfl, (by have q := P0.out; exact q), ON0.out⟩
set_option maxRecDepth 100000 in
set_option maxHeartbeats 4000000 in
theorem World_held (k0 : Int) (h0k : 0 ≤ k0) (a0 : Option Addr) (l0 c0 : Nat) (cs0 : Nat → Dv) (x1 : Int) (c : Bool) (W : World) (hf0 : Hid (Fits shClassS (.l l0 2 cs0))) (hs0 : Hid (szD (.l l0 2 cs0) ≤ 1048576)) (h1k : k0 + (cntD (.l l0 2 cs0) : Nat) ≤ 16777216) (h0 : Hid (Holds W c (mkD (k0) (.l l0 2 cs0)) (.slice a0 l0 c0))) : Calls Try.prog 19 #[.agg #[.slice a0 l0 c0, .int .i64 x1], .int .i64 k0] W fun e W' => e = .returned (.int .i64 (k0 + (cntD (.l l0 2 cs0) : Nat))) ∧ Below W.heap.size W W' := by
  obtain ⟨N0, HN0⟩ : ∃ N, Hid (cntD (.l l0 2 cs0) = N) := ⟨_, rfl⟩
  rw [HN0.out] at h1k
  go_enter Try.func19, Try.ntmps19
  obtain ⟨X0, EX0⟩ : ∃ X, X = W.alloc (.cells #[.slice a0 l0 c0, .int .i64 x1] 29) := ⟨_, rfl⟩
  have RA : Hid (X0.rowIs W.heap.size 29 2 (rowF [.slice a0 l0 c0, .int .i64 x1])) := by rw [EX0]; exact row_of W #[.slice a0 l0 c0, .int .i64 x1] 29
  have B0 : Hid (Below W.heap.size W X0) := by rw [EX0]; show Below _ _ _; go_grown
  have H0 : Hid (Holds X0 c (mkD (k0) (.l l0 2 cs0)) (.slice a0 l0 c0)) := by have q := h0.out.kept B0.out; exact q
  go_wp2_with fail
  rw [← EX0]
  clear EX0
  refine (ClassS_held (k0) (by omega) _ _ _ cs0 c _ hf0 hs0 (by rw [HN0.out]; omega) H0).mono ?_
  rw [HN0.out]
  rintro e w' ⟨rfl, hw⟩
  rw [hw]
  clear hw w'
  have kp0 : 0 ≤ k0 + (N0 : Int) := by omega
  go_wp2
  go_ret
  exact ⟨by rw [HN0.out]; rfl, B0.out⟩
set_option maxRecDepth 100000 in
set_option maxHeartbeats 4000000 in
theorem World_size (a0 : Option Addr) (l0 c0 : Nat) (cs0 : Nat → Dv) (x1 : Int) (l : Int) (c : Bool) (W : World) (hf0 : Hid (Fits shClassS (.l l0 2 cs0))) (hl0 : Hid (Lens (.l l0 2 cs0))) (h0 : Hid (Holds W c (.l l0 2 cs0) (.slice a0 l0 c0))) (hq0 : 0 ≤ l) (hq1 : l ≤ 1048576) : Calls Try.prog 9 #[.agg #[.slice a0 l0 c0, .int .i64 x1], .int .i64 l] W fun e W' => e = .returned (.int .i64 (if (szD (.l l0 2 cs0) : Int) ≤ l then l - ((szD (.l l0 2 cs0) : Int)) else -1)) ∧ Below W.heap.size W W' := by
  obtain ⟨N0, HN0⟩ : ∃ N, Hid (szD (.l l0 2 cs0) = N) := ⟨_, rfl⟩
  rw [HN0.out]
  obtain ⟨R, HR⟩ : ∃ R : Int, Hid ((if (N0 : Int) ≤ l then l - ((N0 : Int)) else -1) = R) := ⟨_, rfl⟩
  rw [HR.out]
  have HRN : Hid (¬ ((N0 : Int) ≤ l) → R = -1) := fun q => by rw [← HR.out, if_neg q]
  have HRP : Hid ((N0 : Int) ≤ l → R = l - ((N0 : Int))) := fun q => by rw [← HR.out, if_pos q]
  clear HR
  go_enter Try.func9, Try.ntmps9
  obtain ⟨X0, EX0⟩ : ∃ X, X = W.alloc (.cells #[.slice a0 l0 c0, .int .i64 x1] 24) := ⟨_, rfl⟩
  have RA : Hid (X0.rowIs W.heap.size 24 2 (rowF [.slice a0 l0 c0, .int .i64 x1])) := by rw [EX0]; exact row_of W #[.slice a0 l0 c0, .int .i64 x1] 24
  have B0 : Hid (Below W.heap.size W X0) := by rw [EX0]; show Below _ _ _; go_grown
  go_wp2_with fail
  rw [← EX0]
  clear EX0
  refine (ClassS_size _ _ _ cs0 (l) c _ hf0 hl0 (h0.out.kept B0.out) (by omega) (by omega)).mono ?_
  rw [HN0.out]
  rintro e w0 ⟨rfl, hB⟩
  have A0 : Hid (w0.rowIs W.heap.size 24 2 (rowF [.slice a0 l0 c0, .int .i64 x1])) := RA.out.of_block (hB.block _ RA.out.lt)
  have BB0 : Hid (Below W.heap.size W w0) := B0.out.trans (hB.mono B0.out.size)
  clear hB RA B0
  by_cases q0 : (N0 : Int) ≤ l
  rotate_left
  · rw [if_neg q0]
    have HM : Hid (R = -1) := HRN.out (by omega)
    go_wp2
    go_ret
    exact ⟨by rw [HM.out]; rfl, BB0.out⟩
  rw [if_pos q0]
  have le0 : 0 ≤ l - (N0 : Int) := by omega
  have HE : Hid (R = l - (N0 : Int)) := by have q := HRP.out (by omega); show _ = _; omega
  go_wp2
  go_ret
  exact ⟨by rw [HE.out]; rfl, BB0.out⟩
set_option maxRecDepth 100000 in
set_option maxHeartbeats 4000000 in
theorem Cache_eq (x0 : Int) (x1 : Int) (a2 : Option Addr) (l2 c2 : Nat) (cs2 : Nat → Dv) (x3 : Int) (x4 : Int) (x5 : Int) (b2 : Option Addr) (e2 : Nat) (c c' : Bool) (W : World) (hf2 : Hid (Fits shWayS (.l l2 2 cs2))) (hs2 : Hid (szD (.l l2 2 cs2) ≤ 1048576)) (h2 : Hid (Holds W c (.l l2 2 cs2) (.slice a2 l2 c2))) (g2 : Hid (Holds W c' (.l l2 2 cs2) (.slice b2 l2 e2))) : Calls Try.prog 22 #[.agg #[.int .i64 x0, .int .i64 x1, .slice a2 l2 c2, .int .i64 x3, .int .i64 x4, .int .i64 x5], .agg #[.int .i64 x0, .int .i64 x1, .slice b2 l2 e2, .int .i64 x3, .int .i64 x4, .int .i64 x5]] W fun e W' => e = .returned (.bool true) ∧ Below W.heap.size W W' := by
  have ne0 : (x0 != x0) = false := by simp
  have ne1 : (x1 != x1) = false := by simp
  have ne3 : (x3 != x3) = false := by simp
  have ne4 : (x4 != x4) = false := by simp
  have ne5 : (x5 != x5) = false := by simp
  go_enter Try.func22, Try.ntmps22
  obtain ⟨X0, EX0⟩ : ∃ X, X = (W.alloc (.cells #[.int .i64 x0, .int .i64 x1, .slice a2 l2 c2, .int .i64 x3, .int .i64 x4, .int .i64 x5] 42)).alloc (.cells #[.int .i64 x0, .int .i64 x1, .slice b2 l2 e2, .int .i64 x3, .int .i64 x4, .int .i64 x5] 42) := ⟨_, rfl⟩
  have RA : Hid (X0.rowIs W.heap.size 42 6 (rowF [.int .i64 x0, .int .i64 x1, .slice a2 l2 c2, .int .i64 x3, .int .i64 x4, .int .i64 x5])) := by rw [EX0]; exact (row_of W #[.int .i64 x0, .int .i64 x1, .slice a2 l2 c2, .int .i64 x3, .int .i64 x4, .int .i64 x5] 42).alloc _
  have RB : Hid (X0.rowIs (W.heap.size + 1) 42 6 (rowF [.int .i64 x0, .int .i64 x1, .slice b2 l2 e2, .int .i64 x3, .int .i64 x4, .int .i64 x5])) := by
    rw [EX0]
    have q := row_of (W.alloc (.cells #[.int .i64 x0, .int .i64 x1, .slice a2 l2 c2, .int .i64 x3, .int .i64 x4, .int .i64 x5] 42)) #[.int .i64 x0, .int .i64 x1, .slice b2 l2 e2, .int .i64 x3, .int .i64 x4, .int .i64 x5] 42
    rw [show (W.alloc (.cells #[.int .i64 x0, .int .i64 x1, .slice a2 l2 c2, .int .i64 x3, .int .i64 x4, .int .i64 x5] 42)).heap.size = W.heap.size + 1 by simp] at q
    exact q
  have B0 : Hid (Below W.heap.size W X0) := by rw [EX0]; show Below _ _ _; go_grown
  go_wp2_with fail
  rw [← EX0]
  clear EX0
  refine (WayS_eq _ _ _ _ _ cs2 c c' _ hf2 hs2 (h2.out.kept B0.out) (g2.out.kept B0.out)).mono ?_
  rintro e w0 ⟨rfl, hB⟩
  have A0 : Hid (w0.rowIs W.heap.size 42 6 (rowF [.int .i64 x0, .int .i64 x1, .slice a2 l2 c2, .int .i64 x3, .int .i64 x4, .int .i64 x5])) := RA.out.of_block (hB.block _ RA.out.lt)
  have C0 : Hid (w0.rowIs (W.heap.size + 1) 42 6 (rowF [.int .i64 x0, .int .i64 x1, .slice b2 l2 e2, .int .i64 x3, .int .i64 x4, .int .i64 x5])) := RB.out.of_block (hB.block _ RB.out.lt)
  have BB0 : Hid (Below W.heap.size W w0) := B0.out.trans (hB.mono B0.out.size)
  clear hB B0 RA RB
  have y_3 : w0.cell? ⟨W.heap.size, 3, none⟩ = some (.int .i64 x3) := A0.out.cell (i := 3) (by decide)
  have z_3 : w0.cell? ⟨W.heap.size + 1, 3, none⟩ = some (.int .i64 x3) := C0.out.cell (i := 3) (by decide)
  have y_4 : w0.cell? ⟨W.heap.size, 4, none⟩ = some (.int .i64 x4) := A0.out.cell (i := 4) (by decide)
  have z_4 : w0.cell? ⟨W.heap.size + 1, 4, none⟩ = some (.int .i64 x4) := C0.out.cell (i := 4) (by decide)
  have y_5 : w0.cell? ⟨W.heap.size, 5, none⟩ = some (.int .i64 x5) := A0.out.cell (i := 5) (by decide)
  have z_5 : w0.cell? ⟨W.heap.size + 1, 5, none⟩ = some (.int .i64 x5) := C0.out.cell (i := 5) (by decide)
  go_wp2
  go_ret
  exact ⟨rfl, BB0.out⟩
set_option maxRecDepth 100000 in
set_option maxHeartbeats 4000000 in
theorem Cache_mark (k0 : Int) (h0k : 0 ≤ k0) (h1k : k0 ≤ 100000000) (x0 : Int) (x1 : Int) (a2 : Option Addr) (l2 c2 : Nat) (cs2 : Nat → Dv) (x3 : Int) (x4 : Int) (x5 : Int) (c : Bool) (W : World) (B : Nat) (F2 : Nat → Prop) (hf2 : Hid (Fits shWayS (.l l2 2 cs2))) (hs2 : Hid (szD (.l l2 2 cs2) ≤ 1048576)) (h2 : Hid (Owns W c B (.l l2 2 cs2) (.slice a2 l2 c2) F2)) (u2 : Hid (∀ x, F2 x → x < W.heap.size)) : Calls Try.prog 23 #[.agg #[.int .i64 x0, .int .i64 x1, .slice a2 l2 c2, .int .i64 x3, .int .i64 x4, .int .i64 x5], .int .i64 k0] W fun e W' => e = .returned (.int .i64 (k0 + (cntD (.l l2 2 cs2) : Nat))) ∧ Owns W' c B (mkD (k0) (.l l2 2 cs2)) (.slice a2 l2 c2) F2 ∧ OnlyF W W' F2 := by
  go_enter Try.func23, Try.ntmps23
  obtain ⟨X0, EX0⟩ : ∃ X, X = W.alloc (.cells #[.int .i64 x0, .int .i64 x1, .slice a2 l2 c2, .int .i64 x3, .int .i64 x4, .int .i64 x5] 42) := ⟨_, rfl⟩
  have RA : Hid (X0.rowIs W.heap.size 42 6 (rowF [.int .i64 x0, .int .i64 x1, .slice a2 l2 c2, .int .i64 x3, .int .i64 x4, .int .i64 x5])) := by rw [EX0]; exact row_of W #[.int .i64 x0, .int .i64 x1, .slice a2 l2 c2, .int .i64 x3, .int .i64 x4, .int .i64 x5] 42
  have B0 : Below W.heap.size W X0 := by rw [EX0]; show Below _ _ _; go_grown
  have O2 : Hid (Owns X0 c B (.l l2 2 cs2) (.slice a2 l2 c2) F2) := h2.out.kept B0
  have ON : Hid (OnlyF W X0 F2) := OnlyF.of_below B0
  clear B0
  have hc2 := cnt_le thin_WayS hf2.out
  have HC2 : Hid (cntD (.l l2 2 cs2) ≤ 8388609) := by have q := hs2.out; show _ ≤ _; omega
  clear hc2
  go_wp2_with fail
  rw [← EX0]
  clear EX0
  refine (WayS_mark (k0) (by omega) (by omega) _ _ _ cs2 c _ B F2 hf2 hs2 O2).mono ?_
  obtain ⟨N2, HN2⟩ : ∃ N, Hid (cntD (.l l2 2 cs2) = N) := ⟨_, rfl⟩
  have hN2 : N2 ≤ 8388609 := by have q := HC2.out; rw [HN2.out] at q; exact q
  rw [HN2.out]
  rintro e w0 ⟨rfl, hO, hF⟩
  have P2 : Hid (Owns w0 c B (mkD (k0) (.l l2 2 cs2)) (.slice a2 l2 c2) F2) := hO
  have ON0 : Hid (OnlyF W w0 F2) := ON.out.trans (hF.more (fun x hx => hx))
  clear hF hO
  go_wp2
  go_ret
  refine ⟨by rw [HN2.out]; rfl, (by have q := P2.out; exact q), ON0.out⟩
set_option maxRecDepth 100000 in
set_option maxHeartbeats 4000000 in
theorem Cache_held (k0 : Int) (h0k : 0 ≤ k0) (x0 : Int) (x1 : Int) (a2 : Option Addr) (l2 c2 : Nat) (cs2 : Nat → Dv) (x3 : Int) (x4 : Int) (x5 : Int) (c : Bool) (W : World) (hf2 : Hid (Fits shWayS (.l l2 2 cs2))) (hs2 : Hid (szD (.l l2 2 cs2) ≤ 1048576)) (h1k : k0 + (cntD (.l l2 2 cs2) : Nat) ≤ 16777216) (h2 : Hid (Holds W c (mkD (k0) (.l l2 2 cs2)) (.slice a2 l2 c2))) : Calls Try.prog 24 #[.agg #[.int .i64 x0, .int .i64 x1, .slice a2 l2 c2, .int .i64 x3, .int .i64 x4, .int .i64 x5], .int .i64 k0] W fun e W' => e = .returned (.int .i64 (k0 + (cntD (.l l2 2 cs2) : Nat))) ∧ Below W.heap.size W W' := by
  obtain ⟨N2, HN2⟩ : ∃ N, Hid (cntD (.l l2 2 cs2) = N) := ⟨_, rfl⟩
  rw [HN2.out] at h1k
  go_enter Try.func24, Try.ntmps24
  obtain ⟨X0, EX0⟩ : ∃ X, X = W.alloc (.cells #[.int .i64 x0, .int .i64 x1, .slice a2 l2 c2, .int .i64 x3, .int .i64 x4, .int .i64 x5] 42) := ⟨_, rfl⟩
  have RA : Hid (X0.rowIs W.heap.size 42 6 (rowF [.int .i64 x0, .int .i64 x1, .slice a2 l2 c2, .int .i64 x3, .int .i64 x4, .int .i64 x5])) := by rw [EX0]; exact row_of W #[.int .i64 x0, .int .i64 x1, .slice a2 l2 c2, .int .i64 x3, .int .i64 x4, .int .i64 x5] 42
  have B0 : Hid (Below W.heap.size W X0) := by rw [EX0]; show Below _ _ _; go_grown
  have H2 : Hid (Holds X0 c (mkD (k0) (.l l2 2 cs2)) (.slice a2 l2 c2)) := by have q := h2.out.kept B0.out; exact q
  go_wp2_with fail
  rw [← EX0]
  clear EX0
  refine (WayS_held (k0) (by omega) _ _ _ cs2 c _ hf2 hs2 (by rw [HN2.out]; omega) H2).mono ?_
  rw [HN2.out]
  rintro e w' ⟨rfl, hw⟩
  rw [hw]
  clear hw w'
  have kp2 : 0 ≤ k0 + (N2 : Int) := by omega
  go_wp2
  go_ret
  exact ⟨by rw [HN2.out]; rfl, B0.out⟩
end Go.Proofs.Yticgipmaflhplaa.deep
