/-
  What the laws' own helpers do on data: ObjectS, S:Heap.
-/
import Derived.Test.YthomonidconmcaaProg
import Derived.Test.YthomonidconmcaaDeep
import Derived.Test.YthomonidconmcaaDeepOpen
import Derived.Test.YthomonidconmcaaDeepRow
import Derived.WalkKit
import Derived.WalkSpells
import Derived.Below
import Derived.Handy
import Derived.Deep.OwnRows
import Derived.Deep.RegionWith
import Derived.Laws.MakeOwn
namespace Go.Proofs.Ythomonidconmcaa.deep
open Go.RowKit Go.Proofs.Ythomonidconmcaa.ints
set_option linter.unusedVariables false

def shObjectS : Sh := .l 3 (fun i => match i with | 0 => .n | 1 => .t | _ => shI)
theorem thin_ObjectS : Thin shObjectS := ⟨by decide, fun i => by
  show Thin (match i with | 0 => .n | 1 => .t | _ => shI)
  split
  · exact trivial
  · exact trivial
  · exact ⟨by decide, fun _ => trivial⟩⟩
set_option maxRecDepth 100000 in
set_option maxHeartbeats 4000000 in
theorem Object_to (x0 : Int) (x1 : Bool) (a2 : Option Addr) (l2 c2 : Nat) (cs2 : Nat → Dv) (c : Bool) (W : World) (hf2 : Hid (Fits shI (.l l2 1 cs2))) (hs2 : Hid (szD (.l l2 1 cs2) ≤ 1048576)) (h2 : Hid (Holds W c (.l l2 1 cs2) (.slice a2 l2 c2))) : Calls Try.prog 49 #[.agg #[.int .i64 x0, .bool x1, .slice a2 l2 c2]] W fun e W' => ∃ g2, e = .returned (.agg #[.int .i64 x0, .bool x1, .slice (some ⟨g2, 0, none⟩) l2 l2]) ∧ Owns W' true W.heap.size (.l l2 1 cs2) (.slice (some ⟨g2, 0, none⟩) l2 l2) (rng W.heap.size W'.heap.size) ∧ W.heap.size ≤ W'.heap.size ∧ Below W.heap.size W W' := by
  go_enter Try.func49, Try.ntmps49
  obtain ⟨X0, EX0⟩ : ∃ X, X = ((W.alloc (.cells #[.int .i64 x0, .bool x1, .slice a2 l2 c2] 63)).alloc (.cells #[.int .i64 0, .bool false, .slice none 0 0] 45)).alloc (.cells #[.int .i64 0, .bool false, .slice none 0 0] 45) := ⟨_, rfl⟩
  have RA : Hid (X0.rowIs W.heap.size 63 3 (rowF [.int .i64 x0, .bool x1, .slice a2 l2 c2])) := by rw [EX0]; exact ((row_of W #[.int .i64 x0, .bool x1, .slice a2 l2 c2] 63).alloc _).alloc _
  have RR : Hid (X0.rowIs (W.heap.size + 1) 45 3 (rowF [.int .i64 0, .bool false, .slice none 0 0])) := by
    rw [EX0]
    have q := (row_of (W.alloc (.cells #[.int .i64 x0, .bool x1, .slice a2 l2 c2] 63)) #[.int .i64 0, .bool false, .slice none 0 0] 45)
    rw [show (W.alloc (.cells #[.int .i64 x0, .bool x1, .slice a2 l2 c2] 63)).heap.size = W.heap.size + 1 by simp] at q
    exact q.alloc _
  have RO : Hid (X0.rowIs (W.heap.size + 1 + 1) 45 3 (rowF [.int .i64 0, .bool false, .slice none 0 0])) := by
    rw [EX0]
    have q := (row_of ((W.alloc (.cells #[.int .i64 x0, .bool x1, .slice a2 l2 c2] 63)).alloc (.cells #[.int .i64 0, .bool false, .slice none 0 0] 45)) #[.int .i64 0, .bool false, .slice none 0 0] 45)
    rw [show ((W.alloc (.cells #[.int .i64 x0, .bool x1, .slice a2 l2 c2] 63)).alloc (.cells #[.int .i64 0, .bool false, .slice none 0 0] 45)).heap.size = W.heap.size + 1 + 1 by simp] at q
    exact q
  have B0 : Hid (Below W.heap.size W X0) := by rw [EX0]; show Below _ _ _; go_grown
  have s0 : X0.heap.size = W.heap.size + 1 + 1 + 1 := by rw [EX0]; simp
  have x_0 : X0.cell? ⟨W.heap.size, 0, none⟩ = some (.int .i64 x0) := RA.out.cell (i := 0) (by decide)
  have x_1 : X0.cell? ⟨W.heap.size, 1, none⟩ = some (.bool x1) := RA.out.cell (i := 1) (by decide)
  have x_2 : X0.cell? ⟨W.heap.size, 2, none⟩ = some (.slice a2 l2 c2) := RA.out.cell (i := 2) (by decide)
  have o_0 : X0.cell? ⟨W.heap.size + 1 + 1, 0, none⟩ = some (.int .i64 0) := RO.out.cell (i := 0) (by decide)
  have p_0 : X0.frozen? ⟨W.heap.size + 1 + 1, 0, none⟩ = false := RO.out.frozen 0
  have o_1 : X0.cell? ⟨W.heap.size + 1 + 1, 1, none⟩ = some (.bool false) := RO.out.cell (i := 1) (by decide)
  have p_1 : X0.frozen? ⟨W.heap.size + 1 + 1, 1, none⟩ = false := RO.out.frozen 1
  have o_2 : X0.cell? ⟨W.heap.size + 1 + 1, 2, none⟩ = some (.slice none 0 0) := RO.out.cell (i := 2) (by decide)
  have p_2 : X0.frozen? ⟨W.heap.size + 1 + 1, 2, none⟩ = false := RO.out.frozen 2
  go_wp2_with fail
  obtain ⟨X1, EX1⟩ : ∃ X, X = ((W.alloc (.cells #[.int .i64 x0, .bool x1, .slice a2 l2 c2] 63)).alloc (.cells #[.int .i64 0, .bool false, .slice none 0 0] 45)).alloc (.cells #[.int .i64 x0, .bool x1, .slice none 0 0] 45) := ⟨_, rfl⟩
  have RA1 : Hid (X1.rowIs W.heap.size 63 3 (rowF [.int .i64 x0, .bool x1, .slice a2 l2 c2])) := by rw [EX1]; exact ((row_of W #[.int .i64 x0, .bool x1, .slice a2 l2 c2] 63).alloc _).alloc _
  have RR1 : Hid (X1.rowIs (W.heap.size + 1) 45 3 (rowF [.int .i64 0, .bool false, .slice none 0 0])) := by
    rw [EX1]
    have q := (row_of (W.alloc (.cells #[.int .i64 x0, .bool x1, .slice a2 l2 c2] 63)) #[.int .i64 0, .bool false, .slice none 0 0] 45)
    rw [show (W.alloc (.cells #[.int .i64 x0, .bool x1, .slice a2 l2 c2] 63)).heap.size = W.heap.size + 1 by simp] at q
    exact q.alloc _
  have RO1 : Hid (X1.rowIs (W.heap.size + 1 + 1) 45 3 (rowF [.int .i64 x0, .bool x1, .slice none 0 0])) := by
    rw [EX1]
    have q := (row_of ((W.alloc (.cells #[.int .i64 x0, .bool x1, .slice a2 l2 c2] 63)).alloc (.cells #[.int .i64 0, .bool false, .slice none 0 0] 45)) #[.int .i64 x0, .bool x1, .slice none 0 0] 45)
    rw [show ((W.alloc (.cells #[.int .i64 x0, .bool x1, .slice a2 l2 c2] 63)).alloc (.cells #[.int .i64 0, .bool false, .slice none 0 0] 45)).heap.size = W.heap.size + 1 + 1 by simp] at q
    exact q
  have B1 : Hid (Below W.heap.size W X1) := by rw [EX1]; show Below _ _ _; go_grown
  have s1 : X1.heap.size = W.heap.size + 1 + 1 + 1 := by rw [EX1]; simp
  rw [← EX1]
  clear RA RR RO B0 s0 EX0 x_0 o_0 p_0 x_1 o_1 p_1 x_2 o_2 p_2
  refine (IntS_to _ _ _ cs2 c _ hf2 (Nat.le_trans (Nat.le_add_right _ _) hs2.out) (h2.out.kept B1.out)).mono ?_
  rintro e w0 ⟨rfl, hO, hB⟩
  have O2 : Hid (Owns w0 true X1.heap.size (.l l2 1 cs2) (.slice (some ⟨X1.heap.size, 0, none⟩) l2 l2) (rng X1.heap.size w0.heap.size)) := hO
  have sz0 : X1.heap.size ≤ w0.heap.size := hB.size
  have HA0 : Hid (w0.rowIs W.heap.size 63 3 (rowF [.int .i64 x0, .bool x1, .slice a2 l2 c2])) := RA1.out.of_block (hB.block _ RA1.out.lt)
  have HR0 : Hid (w0.rowIs (W.heap.size + 1) 45 3 (rowF [.int .i64 0, .bool false, .slice none 0 0])) := RR1.out.of_block (hB.block _ RR1.out.lt)
  have HO0 : Hid (w0.rowIs (W.heap.size + 1 + 1) 45 3 (rowF [.int .i64 x0, .bool x1, .slice none 0 0])) := RO1.out.of_block (hB.block _ RO1.out.lt)
  have BB0 : Hid (Below W.heap.size W w0) := B1.out.trans (hB.mono B1.out.size)
  have lt0 : W.heap.size + 1 + 1 < w0.heap.size := HO0.out.lt
  have wl0 : W.heap.size + 1 + 1 < X1.heap.size := RO1.out.lt
  obtain ⟨G2, hG2⟩ : ∃ g, X1.heap.size = g := ⟨_, rfl⟩
  rw [hG2] at O2 sz0 wl0 ⊢
  clear hO hB
  have x_dummy := True.intro
  have o_0 : w0.cell? ⟨W.heap.size + 1 + 1, 0, none⟩ = some (.int .i64 x0) := HO0.out.cell (i := 0) (by decide)
  have p_0 : w0.frozen? ⟨W.heap.size + 1 + 1, 0, none⟩ = false := HO0.out.frozen 0
  have o_1 : w0.cell? ⟨W.heap.size + 1 + 1, 1, none⟩ = some (.bool x1) := HO0.out.cell (i := 1) (by decide)
  have p_1 : w0.frozen? ⟨W.heap.size + 1 + 1, 1, none⟩ = false := HO0.out.frozen 1
  have o_2 : w0.cell? ⟨W.heap.size + 1 + 1, 2, none⟩ = some (.slice none 0 0) := HO0.out.cell (i := 2) (by decide)
  have p_2 : w0.frozen? ⟨W.heap.size + 1 + 1, 2, none⟩ = false := HO0.out.frozen 2
  have r_0 : w0.cell? ⟨W.heap.size + 1, 0, none⟩ = some (.int .i64 0) := HR0.out.cell (i := 0) (by decide)
  have t_0 : w0.frozen? ⟨W.heap.size + 1, 0, none⟩ = false := HR0.out.frozen 0
  have r_1 : w0.cell? ⟨W.heap.size + 1, 1, none⟩ = some (.bool false) := HR0.out.cell (i := 1) (by decide)
  have t_1 : w0.frozen? ⟨W.heap.size + 1, 1, none⟩ = false := HR0.out.frozen 1
  have r_2 : w0.cell? ⟨W.heap.size + 1, 2, none⟩ = some (.slice none 0 0) := HR0.out.cell (i := 2) (by decide)
  have t_2 : w0.frozen? ⟨W.heap.size + 1, 2, none⟩ = false := HR0.out.frozen 2
  go_wp2
  skip
  refine bodyPost_ret (v := .agg #[.int .i64 x0, .bool x1, .slice (some ⟨G2, 0, none⟩) l2 l2]) (by simp only [results, Try.results49]; go_simp) rfl ⟨G2, rfl, ?_, ?_, ?_⟩
  · refine Owns.more (F := rng G2 w0.heap.size) ?_ (fun x hx => ⟨by have := hx.1; omega, by have := hx.2; simpa [World.setCell] using this⟩)
    iterate 4 refine far_set (by omega) ?_
    exact O2.out.low (by omega)
  · simp [World.setCell]; omega
  · refine Below.trans BB0.out ?_
    iterate 4 refine Below.setCell ?_ (by simp; try omega) _
    exact Below.refl _ _
theorem ObjectS_info : (Try.prog.info? 45).map (fun i => (i.zero, i.size, i.bytes)) = some (some (.agg #[.int .i64 0, .bool false, .slice none 0 0]), 3, 40) := by kernel_rfl
def ObjectS_zero (i : Nat) : Value := rowF [.int .i64 0, .bool false, .slice none 0 0] i
theorem ObjectS_made (n i : Nat) (hi : i < n) : (madeCells #[.int .i64 0, .bool false, .slice none 0 0] n)[i]? = some (ObjectS_zero (i % 3)) := by
  have h : i % 3 < 3 := Nat.mod_lt _ (by decide)
  simp only [madeCells, Array.getElem?_map, Array.getElem?_range, hi, if_true, Option.map_some, ObjectS_zero]
  generalize i % 3 = j at h
  congr 1
  match j, h with
  | 0, _ => rfl
  | 1, _ => rfl
  | 2, _ => rfl
  | j + 3, h => omega
set_option maxRecDepth 100000 in
set_option maxHeartbeats 4000000 in
theorem ObjectS_to (a : Option Addr) (len cap : Nat) (cs : Nat → Dv) (c : Bool) (W : World) (hf : Hid (Fits shObjectS (.l len 3 cs))) (hs : Hid (szD (.l len 3 cs) ≤ 1048576)) (h : Hid (Holds W c (.l len 3 cs) (.slice a len cap))) :
    Calls Try.prog 32 #[.slice a len cap] W fun e W' => e = .returned (.slice (some ⟨W.heap.size, 0, none⟩) len len) ∧ Owns W' true W.heap.size (.l len 3 cs) (.slice (some ⟨W.heap.size, 0, none⟩) len len) (rng W.heap.size W'.heap.size) ∧ Below W.heap.size W W' := by
  have hlen : len ≤ 1048576 := Nat.le_trans (Nat.le_add_right _ _) hs.out
  obtain ⟨i0, hi, hz0, hz1, hz2⟩ := parts_of ObjectS_info
  have hmk : ∀ w : World, (Instr.makeSlice 28 (.int .i64 (len : Int)) (.int .i64 (len : Int))).run Try.prog w = .ok (.slice (some ⟨w.heap.size, 0, none⟩) len len) (w.alloc (.cells (madeCells #[.int .i64 0, .bool false, .slice none 0 0] (len * 3)) 45)) := by
    intro w
    have hr := run_make (P := Try.prog) w 28 45 i0 _ Try.underlying28 hi hz0 .i64 .i64 (len : Int) (len : Int) (by omega) (Int.le_refl _) (by rw [hz2]; omega) (by omega)
    simp only [Int.toNat_natCast] at hr
    rw [hr, hz1]; rfl
  clear hi hz0 hz1 hz2
  go_enter Try.func32, Try.ntmps32
  go_wp2
  clear hmk
  go_loopw [4] (fun vi wr => ∃ (k : Nat) (U : Nat → Value), k ≤ len ∧ vi = .int .i64 k ∧ Hid (wr.rowIs W.heap.size 45 (len * 3) (fun j => if j < k * 3 then U j else ObjectS_zero (j % 3))) ∧ Hid (Rowed wr true W.heap.size cs U (k * 3) (rng (W.heap.size + 1) wr.heap.size)) ∧ Hid (Below W.heap.size W wr)) (fun vi _ => len - (intOf vi).toNat)
  case atStart =>
    refine ⟨0, fun _ => .bool false, Nat.zero_le _, rfl, ?_, ?_, ?_⟩
    · have h := World.rowIs_alloc W (madeCells #[.int .i64 0, .bool false, .slice none 0 0] (len * 3)) 45 (fun j => ObjectS_zero (j % 3)) (fun i hi => ObjectS_made _ i (by rw [size_madeCells] at hi; exact hi))
      rw [size_madeCells] at h
      exact h.congr (fun i hi => by rw [if_neg (by omega)])
    · show Rowed _ _ _ _ _ _ _
      rw [Nat.zero_mul]; exact Rowed.nil _ _ _ _ _ _
    · show Below _ _ _
      go_grown
  case round =>
    obtain ⟨k, U, hk, rfl, HR, HO, HB⟩ := hrel
    by_cases hlt : k < len
    rotate_left
    · have HK : Hid (k = len) := by show k = len; omega
      go_wp2
      go_ret
      refine ⟨rfl, ?_, HB.out⟩
      have hr := HR.out.congr (g := U) (fun i hi => by rw [if_pos (by rw [HK.out]; exact hi)])
      have ho := HO.out
      rw [HK.out] at ho
      exact ho.owns hr (Nat.le_refl _) (fun q => by have := q.1; omega) (fun x hx => ⟨by have := hx.1; omega, hx.2⟩) ⟨Nat.le_refl _, HR.out.lt⟩ (fun _ => ⟨Nat.le_refl _, hlen⟩)
    have hltI : (k : Int) < (len : Int) := by omega
    have hkn : (k + 1) * 3 ≤ len * 3 := Nat.mul_le_mul_right _ hlt
    rw [Nat.add_mul] at hkn
    obtain ⟨b, o, ha, hb, hcell⟩ := h.out.cells HB.out (show 0 < len * 3 by omega)
    subst ha
    have hbs : W.heap.size < wr.heap.size := HR.out.lt
    have hbw : b < wr.heap.size := by omega
    obtain ⟨u0, d0, q0⟩ := hcell (k * 3) (by omega)
    obtain ⟨x0, E0⟩ := (hf.out.cell hlt (c := 0) (by decide)).int
    have E0 : Hid (cs (k * 3) = .n x0) := E0
    rw [E0.out] at q0
    have q0 : u0 = .int .i64 x0 := q0
    subst q0
    obtain ⟨u1, d1, q1⟩ := hcell (k * 3 + 1) (by omega)
    rw [← Nat.add_assoc] at d1
    obtain ⟨x1, E1⟩ := (hf.out.cell hlt (c := 1) (by decide)).bool
    have E1 : Hid (cs (k * 3 + 1) = .t x1) := E1
    rw [E1.out] at q1
    have q1 : u1 = .bool x1 := q1
    subst q1
    obtain ⟨u2, d2, q2⟩ := hcell (k * 3 + 2) (by omega)
    rw [← Nat.add_assoc] at d2
    obtain ⟨l2, cs2, E2, F2⟩ := (hf.out.cell hlt (c := 2) (by decide)).list
    have E2 : cs (k * 3 + 2) = .l l2 1 cs2 := E2
    have hs2 : Hid (szD (.l l2 1 cs2) ≤ 1048576) := by have q := sz_at (len := len) (sz := 3) (cs := cs) (i := k * 3 + 2) (by omega); rw [E2] at q; exact Nat.le_trans q hs.out
    have E2 : Hid (cs (k * 3 + 2) = .l l2 1 cs2) := E2
    have hf2 : Hid (Fits shI (.l l2 1 cs2)) := ⟨rfl, F2⟩
    rw [E2.out] at q2
    obtain ⟨a2, c2, ev2, _⟩ := q2.slice
    subst ev2
    have h2 : Hid (Holds wr c (.l l2 1 cs2) (.slice a2 l2 c2)) := q2
    clear q2 F2
    clear hcell
    have hB0 : Hid (Below wr.heap.size wr wr) := Below.refl _ _
    go_wp2_with fail
    refine (Object_to x0 x1 _ _ _ cs2 c _ hf2 hs2 h2).mono ?_
    rintro e w1 ⟨g, rfl, hO1, hsz, hB1⟩
    have HC1 : Hid (w1.rowIs W.heap.size 45 (len * 3) (fun j => if j < k * 3 then U j else ObjectS_zero (j % 3))) := HR.out.of_block (hB1.block _ hbs)
    have HO1 : Hid (Rowed w1 true W.heap.size cs U (k * 3) (rng (W.heap.size + 1) wr.heap.size)) := HO.out.kept hB1
    have HB1 : Hid (Below W.heap.size W w1) := HB.out.trans (hB1.mono HB.out.size)
    have hws : wr.heap.size ≤ w1.heap.size := hB1.size
    have HN : Hid (Owns w1 true W.heap.size (cs (k * 3 + 2)) (.slice (some ⟨g, 0, none⟩) l2 l2) (rng wr.heap.size w1.heap.size)) := by show Owns _ _ _ _ _ _; rw [E2.out]; exact hO1.low HB.out.size
    clear hO1
    clear hB1 HR HO
    have d0' := HC1.out.cell (i := k * 3) (by omega)
    have f0' := HC1.out.frozen (k * 3)
    rw [if_neg (by omega)] at d0'
    rw [show (k * 3) % 3 = 0 by omega] at d0'
    have d0' : w1.cell? ⟨W.heap.size, k * 3, none⟩ = some (.int .i64 0) := d0'
    have d1' := HC1.out.cell (i := k * 3 + 1) (by omega)
    have f1' := HC1.out.frozen (k * 3 + 1)
    rw [if_neg (by omega)] at d1'
    rw [show (k * 3 + 1) % 3 = 1 by omega] at d1'
    have d1' : w1.cell? ⟨W.heap.size, k * 3 + 1, none⟩ = some (.bool false) := d1'
    have d2' := HC1.out.cell (i := k * 3 + 2) (by omega)
    have f2' := HC1.out.frozen (k * 3 + 2)
    rw [if_neg (by omega)] at d2'
    rw [show (k * 3 + 2) % 3 = 2 by omega] at d2'
    have d2' : w1.cell? ⟨W.heap.size, k * 3 + 2, none⟩ = some (.slice none 0 0) := d2'
    go_wp2
    go_roundw
    case rel =>
      obtain ⟨V, hV⟩ : ∃ V : Nat → Value, V = fun j => if j = k * 3 then .int .i64 x0 else if j = k * 3 + 1 then .bool x1 else if j = k * 3 + 2 then .slice (some ⟨g, 0, none⟩) l2 l2 else U j := ⟨_, rfl⟩
      have uk : ∀ j, j < k * 3 → U j = V j := fun j hj => by rw [hV]; simp only []; rw [if_neg (show ¬ j = k * 3 by omega), if_neg (show ¬ j = k * 3 + 1 by omega), if_neg (show ¬ j = k * 3 + 2 by omega)]
      have u0' : V (k * 3) = .int .i64 x0 := by rw [hV]; simp
      have u1' : V (k * 3 + 1) = .bool x1 := by rw [hV]; simp
      have u2' : V (k * 3 + 2) = .slice (some ⟨g, 0, none⟩) l2 l2 := by rw [hV]; simp
      refine ⟨k + 1, V, by omega, by go_num, ?_, ?_, ?_⟩
      · refine World.rowIs.congr (((HC1.out.set (k * 3) (.int .i64 x0)).set (k * 3 + 1) (.bool x1)).set (k * 3 + 2) (.slice (some ⟨g, 0, none⟩) l2 l2)) ?_
        intro j hj
        rcases (show j = k * 3 ∨ j = k * 3 + 1 ∨ j = k * 3 + 2 ∨ j < k * 3 ∨ (k + 1) * 3 ≤ j by omega) with rfl | rfl | rfl | h | h
        · rw [if_pos (show k * 3 < (k + 1) * 3 by omega), u0']; simp
        · rw [if_pos (show k * 3 + 1 < (k + 1) * 3 by omega), u1']; simp
        · rw [if_pos (show k * 3 + 2 < (k + 1) * 3 by omega), u2']; simp
        · rw [if_pos (show j < (k + 1) * 3 by omega), if_neg (show ¬ j = k * 3 + 2 by omega), if_neg (show ¬ j = k * 3 + 1 by omega), if_neg (show ¬ j = k * 3 by omega), if_pos h, uk j h]
        · rw [if_neg (show ¬ j < (k + 1) * 3 by omega), if_neg (show ¬ j = k * 3 + 2 by omega), if_neg (show ¬ j = k * 3 + 1 by omega), if_neg (show ¬ j = k * 3 by omega), if_neg (show ¬ j < k * 3 by omega)]
      · show Rowed _ _ _ _ _ _ _
        have hr : Rowed w1 true W.heap.size cs V (k * 3) (rng (W.heap.size + 1) wr.heap.size) := HO1.out.congr uk
        have hr0 := hr.flat (by rw [u0', E0.out]; exact rfl)
        have hr1 := hr0.flat (by rw [u1', E1.out]; exact rfl)
        have hr2 := hr1.snoc (H := rng wr.heap.size w1.heap.size) (F' := rng (W.heap.size + 1) w1.heap.size) (by rw [u2']; exact HN.out) (fun x hx hy => by have := hx.2; have := hy.1; omega) (fun x hx => ⟨hx.1, by have := hx.2; omega⟩) (fun x hx => ⟨by have := hx.1; omega, hx.2⟩)
        rw [show (k + 1) * 3 = k * 3 + 1 + 1 + 1 by omega]
        refine Rowed.more (hr2.agree (by simp [World.setCell]) (fun b hb _ => ?_)) (fun x hx => ⟨hx.1, by have := hx.2; simpa [World.setCell] using this⟩)
        have hne : b ≠ W.heap.size := by have := hb.1; omega
        iterate 3 rw [Below.heap_setCell _ _ _ _ (show b ≠ W.heap.size from hne)]
      · show Below _ _ _
        refine Below.trans HB1.out ?_
        go_grown
    case measure => simp [intOf]; omega
set_option maxRecDepth 100000 in
set_option maxHeartbeats 4000000 in
theorem Object_eq (x0 : Int) (x1 : Bool) (a2 : Option Addr) (l2 c2 : Nat) (cs2 : Nat → Dv) (b2 : Option Addr) (e2 : Nat) (c c' : Bool) (W : World) (hf2 : Hid (Fits shI (.l l2 1 cs2))) (hs2 : Hid (szD (.l l2 1 cs2) ≤ 1048576)) (h2 : Hid (Holds W c (.l l2 1 cs2) (.slice a2 l2 c2))) (g2 : Hid (Holds W c' (.l l2 1 cs2) (.slice b2 l2 e2))) : Calls Try.prog 56 #[.agg #[.int .i64 x0, .bool x1, .slice a2 l2 c2], .agg #[.int .i64 x0, .bool x1, .slice b2 l2 e2]] W fun e W' => e = .returned (.bool true) ∧ Below W.heap.size W W' := by
  have ne0 : (x0 != x0) = false := by simp
  have ne1 : (x1 != x1) = false := by cases x1 <;> rfl
  go_enter Try.func56, Try.ntmps56
  obtain ⟨X0, EX0⟩ : ∃ X, X = (W.alloc (.cells #[.int .i64 x0, .bool x1, .slice a2 l2 c2] 45)).alloc (.cells #[.int .i64 x0, .bool x1, .slice b2 l2 e2] 45) := ⟨_, rfl⟩
  have RA : Hid (X0.rowIs W.heap.size 45 3 (rowF [.int .i64 x0, .bool x1, .slice a2 l2 c2])) := by rw [EX0]; exact (row_of W #[.int .i64 x0, .bool x1, .slice a2 l2 c2] 45).alloc _
  have RB : Hid (X0.rowIs (W.heap.size + 1) 45 3 (rowF [.int .i64 x0, .bool x1, .slice b2 l2 e2])) := by
    rw [EX0]
    have q := row_of (W.alloc (.cells #[.int .i64 x0, .bool x1, .slice a2 l2 c2] 45)) #[.int .i64 x0, .bool x1, .slice b2 l2 e2] 45
    rw [show (W.alloc (.cells #[.int .i64 x0, .bool x1, .slice a2 l2 c2] 45)).heap.size = W.heap.size + 1 by simp] at q
    exact q
  have B0 : Hid (Below W.heap.size W X0) := by rw [EX0]; show Below _ _ _; go_grown
  go_wp2_with fail
  rw [← EX0]
  clear EX0
  refine (IntS_eq _ _ _ _ _ cs2 c c' _ hf2 (Nat.le_trans (Nat.le_add_right _ _) hs2.out) (h2.out.kept B0.out) (g2.out.kept B0.out)).mono ?_
  rintro e w0 ⟨rfl, hB⟩
  have A0 : Hid (w0.rowIs W.heap.size 45 3 (rowF [.int .i64 x0, .bool x1, .slice a2 l2 c2])) := RA.out.of_block (hB.block _ RA.out.lt)
  have C0 : Hid (w0.rowIs (W.heap.size + 1) 45 3 (rowF [.int .i64 x0, .bool x1, .slice b2 l2 e2])) := RB.out.of_block (hB.block _ RB.out.lt)
  have BB0 : Hid (Below W.heap.size W w0) := B0.out.trans (hB.mono B0.out.size)
  clear hB B0 RA RB
  go_wp2
  go_ret
  exact ⟨rfl, BB0.out⟩
set_option maxRecDepth 100000 in
set_option maxHeartbeats 4000000 in
theorem ObjectS_eq (a a' : Option Addr) (len cap cap' : Nat) (cs : Nat → Dv) (c c' : Bool) (W : World) (hf : Hid (Fits shObjectS (.l len 3 cs))) (hs : Hid (szD (.l len 3 cs) ≤ 1048576)) (h : Hid (Holds W c (.l len 3 cs) (.slice a len cap))) (h' : Hid (Holds W c' (.l len 3 cs) (.slice a' len cap'))) :
    Calls Try.prog 35 #[.slice a len cap, .slice a' len cap'] W fun e W' => e = .returned (.bool true) ∧ Below W.heap.size W W' := by
  have hlen : len ≤ 1048576 := Nat.le_trans (Nat.le_add_right _ _) hs.out
  go_enter Try.func35, Try.ntmps35
  go_wp2
  go_loopw [5] (fun vi wr => ∃ k : Nat, k ≤ len ∧ vi = .int .i64 k ∧ Hid (Below W.heap.size W wr)) (fun vi _ => len - (intOf vi).toNat)
  case atStart => exact ⟨0, Nat.zero_le _, rfl, Below.refl _ _⟩
  case round =>
    obtain ⟨k, hk, rfl, HB⟩ := hrel
    by_cases hlt : k < len
    rotate_left
    · go_wp2
      go_ret
      exact ⟨rfl, HB.out⟩
    have hltI : (k : Int) < (len : Int) := by omega
    have hkn : (k + 1) * 3 ≤ len * 3 := Nat.mul_le_mul_right _ hlt
    rw [Nat.add_mul] at hkn
    obtain ⟨b, o, ha, hb, hcell⟩ := h.out.cells HB.out (show 0 < len * 3 by omega)
    obtain ⟨b', o', ha', hb', hcell'⟩ := h'.out.cells HB.out (show 0 < len * 3 by omega)
    subst ha ha'
    have hbw : b < wr.heap.size := by have := HB.out.size; omega
    have hbw' : b' < wr.heap.size := by have := HB.out.size; omega
    obtain ⟨u0, d0, q0⟩ := hcell (k * 3) (by omega)
    obtain ⟨v0, g0, r0⟩ := hcell' (k * 3) (by omega)
    obtain ⟨x0, E0⟩ := (hf.out.cell hlt (c := 0) (by decide)).int
    have E0 : cs (k * 3) = .n x0 := E0
    rw [E0] at q0 r0
    have q0 : u0 = .int .i64 x0 := q0
    have r0 : v0 = .int .i64 x0 := r0
    subst q0 r0
    clear E0
    obtain ⟨u1, d1, q1⟩ := hcell (k * 3 + 1) (by omega)
    obtain ⟨v1, g1, r1⟩ := hcell' (k * 3 + 1) (by omega)
    rw [← Nat.add_assoc] at d1 g1
    obtain ⟨x1, E1⟩ := (hf.out.cell hlt (c := 1) (by decide)).bool
    have E1 : cs (k * 3 + 1) = .t x1 := E1
    rw [E1] at q1 r1
    have q1 : u1 = .bool x1 := q1
    have r1 : v1 = .bool x1 := r1
    subst q1 r1
    clear E1
    obtain ⟨u2, d2, q2⟩ := hcell (k * 3 + 2) (by omega)
    obtain ⟨v2, g2, r2⟩ := hcell' (k * 3 + 2) (by omega)
    rw [← Nat.add_assoc] at d2 g2
    obtain ⟨l2, cs2, E2, F2⟩ := (hf.out.cell hlt (c := 2) (by decide)).list
    have E2 : cs (k * 3 + 2) = .l l2 1 cs2 := E2
    have hs2 : Hid (szD (.l l2 1 cs2) ≤ 1048576) := by have q := sz_at (len := len) (sz := 3) (cs := cs) (i := k * 3 + 2) (by omega); rw [E2] at q; exact Nat.le_trans q hs.out
    have hf2 : Hid (Fits shI (.l l2 1 cs2)) := ⟨rfl, F2⟩
    rw [E2] at q2 r2
    obtain ⟨a2, c2, ev2, _⟩ := q2.slice
    obtain ⟨b2, e2, ew2, _⟩ := r2.slice
    subst ev2 ew2
    have h2 : Hid (Holds wr.drew c (.l l2 1 cs2) (.slice a2 l2 c2)) := q2.kept (Below.refl _ _).drew
    have g2' : Hid (Holds wr.drew c' (.l l2 1 cs2) (.slice b2 l2 e2)) := r2.kept (Below.refl _ _).drew
    clear q2 r2 F2 E2
    clear hcell hcell'
    have HD : Hid (Below W.heap.size W wr.drew) := HB.out.drew
    go_wp2_with fail
    go_region_with (go_at_call 56; refine (Object_eq x0 x1 _ _ _ cs2 _ _ c c' _ hf2 hs2 h2 g2').mono ?_; rintro e w' ⟨rfl, hb⟩; have HX : Hid (Below W.heap.size W w') := HD.out.trans (hb.mono HD.out.size); clear hb)
    all_goals
      go_wp2
      go_roundw
      case rel => exact ⟨k + 1, by omega, by go_num, HX.out⟩
      case measure => simp [intOf]; omega
set_option maxRecDepth 100000 in
set_option maxHeartbeats 4000000 in
theorem ObjectS_mark (k0 : Int) (h0 : 0 ≤ k0) (h1 : k0 ≤ 1000000000) (a : Option Addr) (len cap : Nat) (cs : Nat → Dv) (c : Bool) (W : World) (B : Nat) (F : Nat → Prop) (hf : Hid (Fits shObjectS (.l len 3 cs))) (hs : Hid (szD (.l len 3 cs) ≤ 1048576)) (h : Hid (Owns W c B (.l len 3 cs) (.slice a len cap) F)) :
    Calls Try.prog 41 #[.slice a len cap, .int .i64 k0] W fun e W' => e = .returned (.int .i64 (k0 + (cntD (.l len 3 cs) : Nat))) ∧ Owns W' c B (mkD k0 (.l len 3 cs)) (.slice a len cap) F ∧ OnlyF W W' F := by
  have hlen : len ≤ 1048576 := Nat.le_trans (Nat.le_add_right _ _) hs.out
  have hcn : sumTo (fun j => cntD (cs j)) (len * 3) ≤ 8388609 := by have q := cnt_le thin_ObjectS hf.out; have q2 := hs.out; simp only [cntD] at q; omega
  have hmo : ∀ m, m ≤ len * 3 → sumTo (fun j => cntD (cs j)) m ≤ 8388609 := fun m hm => Nat.le_trans (sumTo_mono _ _ hm) hcn
  have HMO : Hid (∀ m, m ≤ len * 3 → sumTo (fun j => cntD (cs j)) m ≤ 8388609) := hmo
  clear hcn hmo
  go_enter Try.func41, Try.ntmps41
  go_wp2
  go_loopw [1, 5] (fun vk vi wr => ∃ k : Nat, k ≤ len ∧ vi = .int .i64 k ∧ vk = .int .i64 (k0 + (sumTo (fun j => cntD (cs j)) (k * 3) : Nat)) ∧ Hid (Owns wr c B (.l len 3 (fun j => if j < k * 3 then mkD (k0 + (sumTo (fun j => cntD (cs j)) j : Nat)) (cs j) else cs j)) (.slice a len cap) F) ∧ Hid (OnlyF W wr F)) (fun _ vi _ => len - (intOf vi).toNat)
  case atStart => exact ⟨0, Nat.zero_le _, rfl, by simp [sumTo], h.out.congr (fun i hi => by rw [if_neg (by omega)]), OnlyF.refl _ _⟩
  case round =>
    obtain ⟨k, hk, rfl, rfl, HO, HB⟩ := hrel
    by_cases hlt : k < len
    rotate_left
    · have HK : Hid (k = len) := by show k = len; omega
      go_wp2
      go_ret
      refine ⟨by rw [HK.out]; rfl, ?_, HB.out⟩
      exact HO.out.congr (fun i hi => by rw [if_pos (by rw [HK.out]; exact hi)])
    have hltI : (k : Int) < (len : Int) := by omega
    have hkn : (k + 1) * 3 ≤ len * 3 := Nat.mul_le_mul_right _ hlt
    rw [Nat.add_mul] at hkn
    obtain ⟨b, o, ha, hbw⟩ := HO.out.addr (show 0 < len * 3 by omega)
    subst ha
    have hk1 := HMO.out (k * 3) (by omega)
    obtain ⟨kk, HKK⟩ : ∃ kk : Int, Hid (k0 + (sumTo (fun j => cntD (cs j)) (k * 3) : Nat) = kk) := ⟨_, rfl⟩
    have kk0 : 0 ≤ kk := by have := HKK.out; omega
    have kk1 : kk ≤ 1000000000 + 8388609 := by have := HKK.out; omega
    rw [HKK.out]
    clear hk1
    obtain ⟨x0, E0⟩ := (hf.out.cell hlt (c := 0) (by decide)).int
    have E0 : Hid (cs (k * 3) = .n x0) := E0
    obtain ⟨x1, E1⟩ := (hf.out.cell hlt (c := 1) (by decide)).bool
    have E1 : Hid (cs (k * 3 + 1) = .t x1) := E1
    obtain ⟨l2, cs2, E2, F2⟩ := (hf.out.cell hlt (c := 2) (by decide)).list
    have E2 : cs (k * 3 + 2) = .l l2 1 cs2 := E2
    have hs2 : Hid (szD (.l l2 1 cs2) ≤ 1048576) := by have q := sz_at (len := len) (sz := 3) (cs := cs) (i := k * 3 + 2) (by omega); rw [E2] at q; exact Nat.le_trans q hs.out
    have E2 : Hid (cs (k * 3 + 2) = .l l2 1 cs2) := E2
    have hf2 : Hid (Fits shI (.l l2 1 cs2)) := ⟨rfl, F2⟩
    clear F2
    have hcn2 : cntD (.l l2 1 cs2) ≤ 8388609 := by have q := cnt_le (s := shI) ⟨by decide, fun _ => trivial⟩ hf2.out; have q2 := hs2.out; omega
    obtain ⟨N2, HN2⟩ : ∃ N, Hid (cntD (.l l2 1 cs2) = N) := ⟨_, rfl⟩
    rw [HN2.out] at hcn2
    have HO0 : Hid (Owns wr c B (.l len 3 (fun j => if j < k * 3 then mkD (k0 + (sumTo (fun j => cntD (cs j)) j : Nat)) (cs j) else cs j)) (.slice (some ⟨b, o, none⟩) len cap) F) := HO
    clear HO
    obtain ⟨d0, f0, s0⟩ := HO0.out.num (j := k * 3) (y := x0) (by omega) (by show (if _ then _ else _) = _; rw [if_neg (by omega)]; exact E0.out)
    obtain ⟨s0, t0⟩ := s0 (kk)
    have HO1 : Hid (Owns (wr.setCell ⟨b, o + k * 3, none⟩ (.int .i64 (kk))) c B (.l len 3 (updD (fun j => if j < k * 3 then mkD (k0 + (sumTo (fun j => cntD (cs j)) j : Nat)) (cs j) else cs j) (k * 3) (.n (kk)))) (.slice (some ⟨b, o, none⟩) len cap) F) := s0
    have HB1 : Hid (OnlyF W (wr.setCell ⟨b, o + k * 3, none⟩ (.int .i64 (kk))) F) := HB.out.trans t0
    clear s0 t0
    obtain ⟨d1, f1, s1⟩ := HO1.out.tru (j := k * 3 + 1) (y := x1) (by omega) (by rw [updD_other _ _ (show k * 3 + 1 ≠ k * 3 by omega)]; show (if _ then _ else _) = _; rw [if_neg (by omega)]; exact E1.out)
    obtain ⟨s1, t1⟩ := s1 ((kk + 1) % 3 == 0)
    rw [← Nat.add_assoc] at d1 f1 s1 t1
    have HO2 : Hid (Owns ((wr.setCell ⟨b, o + k * 3, none⟩ (.int .i64 (kk))).setCell ⟨b, o + k * 3 + 1, none⟩ (.bool ((kk + 1) % 3 == 0))) c B (.l len 3 (updD (updD (fun j => if j < k * 3 then mkD (k0 + (sumTo (fun j => cntD (cs j)) j : Nat)) (cs j) else cs j) (k * 3) (.n (kk))) (k * 3 + 1) (.t ((kk + 1) % 3 == 0)))) (.slice (some ⟨b, o, none⟩) len cap) F) := s1
    have HB2 : Hid (OnlyF W ((wr.setCell ⟨b, o + k * 3, none⟩ (.int .i64 (kk))).setCell ⟨b, o + k * 3 + 1, none⟩ (.bool ((kk + 1) % 3 == 0))) F) := HB1.out.trans t1
    clear s1 t1
    obtain ⟨a2, c2, H2, d2, o2, s2⟩ := HO2.out.sub (j := k * 3 + 2) (l := l2) (z := 1) (es := cs2) (by omega) (by rw [updD_other _ _ (show k * 3 + 2 ≠ k * 3 + 1 by omega)]; rw [updD_other _ _ (show k * 3 + 2 ≠ k * 3 by omega)]; show (if _ then _ else _) = _; rw [if_neg (by omega)]; exact E2.out)
    rw [← Nat.add_assoc] at d2
    have S2 : Hid (∀ w' d', OnlyF ((wr.setCell ⟨b, o + k * 3, none⟩ (.int .i64 (kk))).setCell ⟨b, o + k * 3 + 1, none⟩ (.bool ((kk + 1) % 3 == 0))) w' H2 → Owns w' c B d' (.slice a2 l2 c2) H2 → Owns w' c B (.l len 3 (updD (updD (updD (fun j => if j < k * 3 then mkD (k0 + (sumTo (fun j => cntD (cs j)) j : Nat)) (cs j) else cs j) (k * 3) (.n (kk))) (k * 3 + 1) (.t ((kk + 1) % 3 == 0))) (k * 3 + 2) d')) (.slice (some ⟨b, o, none⟩) len cap) F ∧ OnlyF ((wr.setCell ⟨b, o + k * 3, none⟩ (.int .i64 (kk))).setCell ⟨b, o + k * 3 + 1, none⟩ (.bool ((kk + 1) % 3 == 0))) w' F) := s2
    have O2 : Hid (Owns ((wr.setCell ⟨b, o + k * 3, none⟩ (.int .i64 (kk))).setCell ⟨b, o + k * 3 + 1, none⟩ (.bool ((kk + 1) % 3 == 0))) c B (.l l2 1 cs2) (.slice a2 l2 c2) H2) := o2
    clear s2 o2
    go_wp2_with fail
    refine (IntS_mark (kk + 1 + 1) (by omega) (by omega) _ _ _ cs2 c _ B H2 hf2 (Nat.le_trans (Nat.le_add_right _ _) hs2.out) O2).mono ?_
    rintro e w2 ⟨rfl, hO, hF⟩
    obtain ⟨p2, r2⟩ := S2.out w2 _ hF hO
    have HO3 : Hid (Owns w2 c B (.l len 3 (updD (updD (updD (fun j => if j < k * 3 then mkD (k0 + (sumTo (fun j => cntD (cs j)) j : Nat)) (cs j) else cs j) (k * 3) (.n (kk))) (k * 3 + 1) (.t ((kk + 1) % 3 == 0))) (k * 3 + 2) (mkD (kk + 1 + 1) (.l l2 1 cs2)))) (.slice (some ⟨b, o, none⟩) len cap) F) := p2
    have HB3 : Hid (OnlyF W w2 F) := HB2.out.trans r2
    have hbw : b < w2.heap.size := by have q1 := r2.size; simp [World.setCell] at q1; omega
    rw [HN2.out]
    clear hO hF p2 r2 S2 O2
    go_wp2
    go_roundw
    case rel =>
      have e1 : sumTo (fun j => cntD (cs j)) ((k + 1) * 3) = sumTo (fun j => cntD (cs j)) (k * 3) + cntD (cs (k * 3)) + cntD (cs (k * 3 + 1)) + cntD (cs (k * 3 + 2)) := by rw [show (k + 1) * 3 = k * 3 + 1 + 1 + 1 by omega]; rfl
      have n0 : cntD (cs (k * 3)) = 1 := by rw [E0.out]; exact rfl
      have n1 : cntD (cs (k * 3 + 1)) = 1 := by rw [E1.out]; exact rfl
      have n2 : cntD (cs (k * 3 + 2)) = N2 := by rw [E2.out]; exact HN2.out
      have m1 : sumTo (fun j => cntD (cs j)) (k * 3 + 1) = sumTo (fun j => cntD (cs j)) (k * 3) + cntD (cs (k * 3)) := rfl
      have m2 : sumTo (fun j => cntD (cs j)) (k * 3 + 2) = sumTo (fun j => cntD (cs j)) (k * 3) + cntD (cs (k * 3)) + cntD (cs (k * 3 + 1)) := rfl
      have hkk := HKK.out
      refine ⟨k + 1, by omega, by go_num, ?_, ?_, HB3⟩
      · rw [e1, n0, n1, n2]
        congr 1
        omega
      · refine HO3.out.congr ?_
        intro j hj
        rcases (show j = k * 3 ∨ j = k * 3 + 1 ∨ j = k * 3 + 2 ∨ j < k * 3 ∨ (k + 1) * 3 ≤ j by omega) with e0 | e0 | e0 | h | h
        · rw [e0, if_pos (show k * 3 < (k + 1) * 3 by omega), updD_other _ _ (show k * 3 ≠ k * 3 + 2 by omega), updD_other _ _ (show k * 3 ≠ k * 3 + 1 by omega), updD_same, E0.out]
          rw [show k0 + (sumTo (fun j => cntD (cs j)) (k * 3) : Nat) = kk by omega]
          rfl
        · rw [e0, if_pos (show k * 3 + 1 < (k + 1) * 3 by omega), updD_other _ _ (show k * 3 + 1 ≠ k * 3 + 2 by omega), updD_same, E1.out]
          rw [show k0 + (sumTo (fun j => cntD (cs j)) (k * 3 + 1) : Nat) = kk + 1 by rw [m1, n0]; omega]
          rfl
        · rw [e0, if_pos (show k * 3 + 2 < (k + 1) * 3 by omega), updD_same, E2.out]
          rw [show k0 + (sumTo (fun j => cntD (cs j)) (k * 3 + 2) : Nat) = kk + 1 + 1 by rw [m2, n0, n1]; omega]
        · rw [updD_other _ _ (show j ≠ k * 3 + 2 by omega), updD_other _ _ (show j ≠ k * 3 + 1 by omega), updD_other _ _ (show j ≠ k * 3 by omega), if_pos h, if_pos (show j < (k + 1) * 3 by omega)]
        · rw [updD_other _ _ (show j ≠ k * 3 + 2 by omega), updD_other _ _ (show j ≠ k * 3 + 1 by omega), updD_other _ _ (show j ≠ k * 3 by omega), if_neg (show ¬ j < k * 3 by omega), if_neg (show ¬ j < (k + 1) * 3 by omega)]
    case measure => simp [intOf]; omega
set_option maxRecDepth 100000 in
set_option maxHeartbeats 4000000 in
theorem Object_size (x0 : Int) (x1 : Bool) (a2 : Option Addr) (l2 c2 : Nat) (cs2 : Nat → Dv) (l : Int) (c : Bool) (W : World) (hf2 : Hid (Fits shI (.l l2 1 cs2))) (hl2 : Hid (Lens (.l l2 1 cs2))) (h2 : Hid (Holds W c (.l l2 1 cs2) (.slice a2 l2 c2))) (hq0 : 0 ≤ l) (hq1 : l ≤ 1048576) : Calls Try.prog 48 #[.agg #[.int .i64 x0, .bool x1, .slice a2 l2 c2], .int .i64 l] W fun e W' => e = .returned (.int .i64 (if (szD (.l l2 1 cs2) : Int) ≤ l then l - ((szD (.l l2 1 cs2) : Int)) else -1)) ∧ Below W.heap.size W W' := by
  obtain ⟨N2, HN2⟩ : ∃ N, Hid (szD (.l l2 1 cs2) = N) := ⟨_, rfl⟩
  rw [HN2.out]
  obtain ⟨R, HR⟩ : ∃ R : Int, Hid ((if (N2 : Int) ≤ l then l - ((N2 : Int)) else -1) = R) := ⟨_, rfl⟩
  rw [HR.out]
  have HRN : Hid (¬ ((N2 : Int) ≤ l) → R = -1) := fun q => by rw [← HR.out, if_neg q]
  have HRP : Hid ((N2 : Int) ≤ l → R = l - ((N2 : Int))) := fun q => by rw [← HR.out, if_pos q]
  clear HR
  go_enter Try.func48, Try.ntmps48
  obtain ⟨X0, EX0⟩ : ∃ X, X = W.alloc (.cells #[.int .i64 x0, .bool x1, .slice a2 l2 c2] 63) := ⟨_, rfl⟩
  have RA : Hid (X0.rowIs W.heap.size 63 3 (rowF [.int .i64 x0, .bool x1, .slice a2 l2 c2])) := by rw [EX0]; exact row_of W #[.int .i64 x0, .bool x1, .slice a2 l2 c2] 63
  have B0 : Hid (Below W.heap.size W X0) := by rw [EX0]; show Below _ _ _; go_grown
  go_wp2_with fail
  rw [← EX0]
  clear EX0
  refine (IntS_size _ _ _ cs2 (l) _ hf2 hl2 (by omega) (by omega)).mono ?_
  rw [HN2.out]
  rintro e w0 ⟨rfl, hE⟩
  have hB : Below X0.heap.size X0 w0 := by rw [hE]; exact Below.refl _ _
  clear hE
  have A0 : Hid (w0.rowIs W.heap.size 63 3 (rowF [.int .i64 x0, .bool x1, .slice a2 l2 c2])) := RA.out.of_block (hB.block _ RA.out.lt)
  have BB0 : Hid (Below W.heap.size W w0) := B0.out.trans (hB.mono B0.out.size)
  clear hB RA B0
  by_cases q2 : (N2 : Int) ≤ l
  rotate_left
  · rw [if_neg q2]
    have HM : Hid (R = -1) := HRN.out (by omega)
    go_wp2
    go_ret
    exact ⟨by rw [HM.out]; rfl, BB0.out⟩
  rw [if_pos q2]
  have le2 : 0 ≤ l - (N2 : Int) := by omega
  have HE : Hid (R = l - (N2 : Int)) := by have q := HRP.out (by omega); show _ = _; omega
  go_wp2
  go_ret
  exact ⟨by rw [HE.out]; rfl, BB0.out⟩
set_option maxRecDepth 100000 in
set_option maxHeartbeats 4000000 in
theorem ObjectS_size (a : Option Addr) (len cap : Nat) (cs : Nat → Dv) (l : Int) (c : Bool) (W : World) (hf : Hid (Fits shObjectS (.l len 3 cs))) (hl : Hid (Lens (.l len 3 cs))) (h : Hid (Holds W c (.l len 3 cs) (.slice a len cap))) (h0 : 0 ≤ l) (h1 : l ≤ 1048576) :
    Calls Try.prog 25 #[.slice a len cap, .int .i64 l] W fun e W' => e = .returned (.int .i64 (if (szD (.l len 3 cs) : Int) ≤ l then l - (szD (.l len 3 cs) : Int) else -1)) ∧ Below W.heap.size W W' := by
  have hm := hl.out.1
  unfold maxLen at hm
  have hdef : szD (.l len 3 cs) = len + sumTo (fun j => szD (cs j)) (len * 3) := rfl
  have HDEF : Hid (szD (.l len 3 cs) = len + sumTo (fun j => szD (cs j)) (len * 3)) := hdef
  clear hdef
  obtain ⟨R, HR⟩ : ∃ R : Int, Hid ((if (szD (.l len 3 cs) : Int) ≤ l then l - (szD (.l len 3 cs) : Int) else -1) = R) := ⟨_, rfl⟩
  rw [HR.out]
  have HRN : Hid (¬ ((szD (.l len 3 cs) : Int) ≤ l) → R = -1) := fun q => by rw [← HR.out, if_neg q]
  have HRP : Hid ((szD (.l len 3 cs) : Int) ≤ l → R = l - (szD (.l len 3 cs) : Int)) := fun q => by rw [← HR.out, if_pos q]
  clear HR
  by_cases hq : (len : Int) ≤ l
  rotate_left
  · have HM : Hid (R = -1) := HRN.out (by have := HDEF.out; omega)
    have h' : l < (len : Int) := by omega
    clear hq
    go_enter Try.func25, Try.ntmps25
    go_wp2
    go_ret
    exact ⟨by rw [HM.out]; rfl, Below.refl _ _⟩
  have hlen : len ≤ 1048576 := by omega
  go_enter Try.func25, Try.ntmps25
  go_wp2
  go_loopw [1, 5] (fun vl vi wr => ∃ k : Nat, k ≤ len ∧ vi = .int .i64 k ∧ vl = .int .i64 (l - (len : Int) - (sumTo (fun j => szD (cs j)) (k * 3) : Nat)) ∧ 0 ≤ l - (len : Int) - (sumTo (fun j => szD (cs j)) (k * 3) : Nat) ∧ Hid (Below W.heap.size W wr)) (fun _ vi _ => len - (intOf vi).toNat)
  case atStart => exact ⟨0, Nat.zero_le _, rfl, by simp [sumTo], by simp [sumTo]; omega, Below.refl _ _⟩
  case round =>
    obtain ⟨k, hk, rfl, rfl, hge, HB⟩ := hrel
    by_cases hlt : k < len
    rotate_left
    · have HK : Hid (k = len) := by show k = len; omega
      rw [HK.out] at hge ⊢
      have HE : Hid (R = l - (len : Int) - (sumTo (fun j => szD (cs j)) (len * 3) : Nat)) := by show _ = _; have q1 := HDEF.out; have q2 := HRP.out (by omega); omega
      go_wp2
      go_ret
      exact ⟨by rw [HE.out]; rfl, HB.out⟩
    have hltI : (k : Int) < (len : Int) := by omega
    have hkn : (k + 1) * 3 ≤ len * 3 := Nat.mul_le_mul_right _ hlt
    rw [Nat.add_mul] at hkn
    obtain ⟨b, o, ha, hb, hcell⟩ := h.out.cells HB.out (show 0 < len * 3 by omega)
    subst ha
    have hbw : b < wr.heap.size := by have := HB.out.size; omega
    have HTOT : Hid ((sumTo (fun j => szD (cs j)) ((k + 1) * 3) : Nat) ≤ sumTo (fun j => szD (cs j)) (len * 3)) := sumTo_mono _ _ (by omega)
    obtain ⟨kk, HKK⟩ : ∃ kk : Int, Hid (l - (len : Int) - (sumTo (fun j => szD (cs j)) (k * 3) : Nat) = kk) := ⟨_, rfl⟩
    rw [HKK.out] at hge ⊢
    have kk1 : kk ≤ 1048576 := by have := HKK.out; omega
    obtain ⟨u0, d0, q0⟩ := hcell (k * 3) (by omega)
    obtain ⟨x0, E0⟩ := (hf.out.cell hlt (c := 0) (by decide)).int
    have E0 : cs (k * 3) = .n x0 := E0
    rw [E0] at q0
    have q0 : u0 = .int .i64 x0 := q0
    subst q0
    have n0 : szD (cs (k * 3)) = 0 := by rw [E0]; rfl
    obtain ⟨u1, d1, q1⟩ := hcell (k * 3 + 1) (by omega)
    rw [← Nat.add_assoc] at d1
    obtain ⟨x1, E1⟩ := (hf.out.cell hlt (c := 1) (by decide)).bool
    have E1 : cs (k * 3 + 1) = .t x1 := E1
    rw [E1] at q1
    have q1 : u1 = .bool x1 := q1
    subst q1
    have n1 : szD (cs (k * 3 + 1)) = 0 := by rw [E1]; rfl
    obtain ⟨u2, d2, q2⟩ := hcell (k * 3 + 2) (by omega)
    rw [← Nat.add_assoc] at d2
    obtain ⟨l2, cs2, E2, F2⟩ := (hf.out.cell hlt (c := 2) (by decide)).list
    have E2 : cs (k * 3 + 2) = .l l2 1 cs2 := E2
    have hl2 : Hid (Lens (.l l2 1 cs2)) := by have q := hl.out.2 (k * 3 + 2) (by omega); rw [E2] at q; exact q
    have hf2 : Hid (Fits shI (.l l2 1 cs2)) := ⟨rfl, F2⟩
    clear F2
    obtain ⟨N2, HN2⟩ : ∃ N, Hid (szD (.l l2 1 cs2) = N) := ⟨_, rfl⟩
    have n2 : szD (cs (k * 3 + 2)) = N2 := by rw [E2]; exact HN2.out
    rw [E2] at q2
    obtain ⟨a2, c2, ev2, _⟩ := q2.slice
    subst ev2
    have h2 : Hid (Holds wr c (.l l2 1 cs2) (.slice a2 l2 c2)) := q2
    clear q2
    have HE : Hid ((sumTo (fun j => szD (cs j)) ((k + 1) * 3) : Nat) = (sumTo (fun j => szD (cs j)) (k * 3) : Nat) + N2) := by show _ = _; rw [show (k + 1) * 3 = k * 3 + 1 + 1 + 1 by omega]; simp only [sumTo, n0, n1, n2]; try omega
    clear hcell
    go_wp2_with fail
    refine (Object_size x0 x1 _ _ _ cs2 kk c _ hf2 hl2 h2 (by omega) (by omega)).mono ?_
    rw [HN2.out]
    rintro e w1 ⟨rfl, hB⟩
    have HB1 : Hid (Below W.heap.size W w1) := HB.out.trans (hB.mono HB.out.size)
    clear hB
    by_cases qn : (N2 : Int) ≤ kk
    rotate_left
    · rw [if_neg qn]
      have HM : Hid (R = -1) := HRN.out (by have q1 := HDEF.out; have q2 := HTOT.out; have q3 := HE.out; have q4 := HKK.out; omega)
      go_wp2
      go_ret
      exact ⟨by rw [HM.out]; rfl, HB1.out⟩
    rw [if_pos qn]
    have kp : 0 ≤ kk - (N2 : Int) := by omega
    have HV : Hid (kk - (N2 : Int) = l - (len : Int) - (sumTo (fun j => szD (cs j)) ((k + 1) * 3) : Nat)) := by show _ = _; have q3 := HE.out; have q4 := HKK.out; omega
    go_wp2
    go_roundw
    case rel => exact ⟨k + 1, by omega, by go_num, by rw [← HV.out], by rw [← HV.out]; exact kp, HB1⟩
    case measure => simp [intOf]; omega
set_option maxRecDepth 100000 in
set_option maxHeartbeats 4000000 in
theorem Heap_to (a0 : Option Addr) (l0 c0 : Nat) (cs0 : Nat → Dv) (a1 : Option Addr) (l1 c1 : Nat) (cs1 : Nat → Dv) (a2 : Option Addr) (l2 c2 : Nat) (cs2 : Nat → Dv) (x3 : Int) (c : Bool) (W : World) (hf0 : Hid (Fits shObjectS (.l l0 3 cs0))) (hs0 : Hid (szD (.l l0 3 cs0) ≤ 1048576)) (h0 : Hid (Holds W c (.l l0 3 cs0) (.slice a0 l0 c0))) (hf1 : Hid (Fits shI (.l l1 1 cs1))) (hs1 : Hid (szD (.l l1 1 cs1) ≤ 1048576)) (h1 : Hid (Holds W c (.l l1 1 cs1) (.slice a1 l1 c1))) (hf2 : Hid (Fits shI (.l l2 1 cs2))) (hs2 : Hid (szD (.l l2 1 cs2) ≤ 1048576)) (h2 : Hid (Holds W c (.l l2 1 cs2) (.slice a2 l2 c2))) : Calls Try.prog 10 #[.agg #[.slice a0 l0 c0, .slice a1 l1 c1, .slice a2 l2 c2, .int .i64 x3]] W fun e W' => ∃ g0 g1 g2 p1 p2, e = .returned (.agg #[.slice (some ⟨g0, 0, none⟩) l0 l0, .slice (some ⟨g1, 0, none⟩) l1 l1, .slice (some ⟨g2, 0, none⟩) l2 l2, .int .i64 x3]) ∧ Owns W' true W.heap.size (.l l0 3 cs0) (.slice (some ⟨g0, 0, none⟩) l0 l0) (rng W.heap.size p1) ∧ Owns W' true W.heap.size (.l l1 1 cs1) (.slice (some ⟨g1, 0, none⟩) l1 l1) (rng p1 p2) ∧ Owns W' true W.heap.size (.l l2 1 cs2) (.slice (some ⟨g2, 0, none⟩) l2 l2) (rng p2 W'.heap.size) ∧ W.heap.size ≤ p1 ∧ p1 ≤ p2 ∧ p2 ≤ W'.heap.size ∧ Below W.heap.size W W' := by
  go_enter Try.func10, Try.ntmps10
  obtain ⟨X0, EX0⟩ : ∃ X, X = ((W.alloc (.cells #[.slice a0 l0 c0, .slice a1 l1 c1, .slice a2 l2 c2, .int .i64 x3] 25)).alloc (.cells #[.slice none 0 0, .slice none 0 0, .slice none 0 0, .int .i64 0] 30)).alloc (.cells #[.slice none 0 0, .slice none 0 0, .slice none 0 0, .int .i64 0] 30) := ⟨_, rfl⟩
  have RA : Hid (X0.rowIs W.heap.size 25 4 (rowF [.slice a0 l0 c0, .slice a1 l1 c1, .slice a2 l2 c2, .int .i64 x3])) := by rw [EX0]; exact ((row_of W #[.slice a0 l0 c0, .slice a1 l1 c1, .slice a2 l2 c2, .int .i64 x3] 25).alloc _).alloc _
  have RR : Hid (X0.rowIs (W.heap.size + 1) 30 4 (rowF [.slice none 0 0, .slice none 0 0, .slice none 0 0, .int .i64 0])) := by
    rw [EX0]
    have q := (row_of (W.alloc (.cells #[.slice a0 l0 c0, .slice a1 l1 c1, .slice a2 l2 c2, .int .i64 x3] 25)) #[.slice none 0 0, .slice none 0 0, .slice none 0 0, .int .i64 0] 30)
    rw [show (W.alloc (.cells #[.slice a0 l0 c0, .slice a1 l1 c1, .slice a2 l2 c2, .int .i64 x3] 25)).heap.size = W.heap.size + 1 by simp] at q
    exact q.alloc _
  have RO : Hid (X0.rowIs (W.heap.size + 1 + 1) 30 4 (rowF [.slice none 0 0, .slice none 0 0, .slice none 0 0, .int .i64 0])) := by
    rw [EX0]
    have q := (row_of ((W.alloc (.cells #[.slice a0 l0 c0, .slice a1 l1 c1, .slice a2 l2 c2, .int .i64 x3] 25)).alloc (.cells #[.slice none 0 0, .slice none 0 0, .slice none 0 0, .int .i64 0] 30)) #[.slice none 0 0, .slice none 0 0, .slice none 0 0, .int .i64 0] 30)
    rw [show ((W.alloc (.cells #[.slice a0 l0 c0, .slice a1 l1 c1, .slice a2 l2 c2, .int .i64 x3] 25)).alloc (.cells #[.slice none 0 0, .slice none 0 0, .slice none 0 0, .int .i64 0] 30)).heap.size = W.heap.size + 1 + 1 by simp] at q
    exact q
  have B0 : Hid (Below W.heap.size W X0) := by rw [EX0]; show Below _ _ _; go_grown
  have s0 : X0.heap.size = W.heap.size + 1 + 1 + 1 := by rw [EX0]; simp
  have x_0 : X0.cell? ⟨W.heap.size, 0, none⟩ = some (.slice a0 l0 c0) := RA.out.cell (i := 0) (by decide)
  have x_1 : X0.cell? ⟨W.heap.size, 1, none⟩ = some (.slice a1 l1 c1) := RA.out.cell (i := 1) (by decide)
  have x_2 : X0.cell? ⟨W.heap.size, 2, none⟩ = some (.slice a2 l2 c2) := RA.out.cell (i := 2) (by decide)
  have x_3 : X0.cell? ⟨W.heap.size, 3, none⟩ = some (.int .i64 x3) := RA.out.cell (i := 3) (by decide)
  have o_0 : X0.cell? ⟨W.heap.size + 1 + 1, 0, none⟩ = some (.slice none 0 0) := RO.out.cell (i := 0) (by decide)
  have p_0 : X0.frozen? ⟨W.heap.size + 1 + 1, 0, none⟩ = false := RO.out.frozen 0
  have o_1 : X0.cell? ⟨W.heap.size + 1 + 1, 1, none⟩ = some (.slice none 0 0) := RO.out.cell (i := 1) (by decide)
  have p_1 : X0.frozen? ⟨W.heap.size + 1 + 1, 1, none⟩ = false := RO.out.frozen 1
  have o_2 : X0.cell? ⟨W.heap.size + 1 + 1, 2, none⟩ = some (.slice none 0 0) := RO.out.cell (i := 2) (by decide)
  have p_2 : X0.frozen? ⟨W.heap.size + 1 + 1, 2, none⟩ = false := RO.out.frozen 2
  have o_3 : X0.cell? ⟨W.heap.size + 1 + 1, 3, none⟩ = some (.int .i64 0) := RO.out.cell (i := 3) (by decide)
  have p_3 : X0.frozen? ⟨W.heap.size + 1 + 1, 3, none⟩ = false := RO.out.frozen 3
  go_wp2_with fail
  rw [← EX0]
  clear x_0 o_0 p_0 x_1 o_1 p_1 x_2 o_2 p_2 x_3 o_3 p_3
  refine (ObjectS_to _ _ _ cs0 c _ hf0 hs0 (h0.out.kept B0.out)).mono ?_
  rintro e w0 ⟨rfl, hO, hB⟩
  have O0 : Hid (Owns w0 true X0.heap.size (.l l0 3 cs0) (.slice (some ⟨X0.heap.size, 0, none⟩) l0 l0) (rng X0.heap.size w0.heap.size)) := hO
  have sz0 : X0.heap.size ≤ w0.heap.size := hB.size
  have HA0 : Hid (w0.rowIs W.heap.size 25 4 (rowF [.slice a0 l0 c0, .slice a1 l1 c1, .slice a2 l2 c2, .int .i64 x3])) := RA.out.of_block (hB.block _ RA.out.lt)
  have HR0 : Hid (w0.rowIs (W.heap.size + 1) 30 4 (rowF [.slice none 0 0, .slice none 0 0, .slice none 0 0, .int .i64 0])) := RR.out.of_block (hB.block _ RR.out.lt)
  have HO0 : Hid (w0.rowIs (W.heap.size + 1 + 1) 30 4 (rowF [.slice none 0 0, .slice none 0 0, .slice none 0 0, .int .i64 0])) := RO.out.of_block (hB.block _ RO.out.lt)
  have BB0 : Hid (Below W.heap.size W w0) := B0.out.trans (hB.mono B0.out.size)
  have lt0 : W.heap.size + 1 + 1 < w0.heap.size := HO0.out.lt
  have wl0 : W.heap.size + 1 + 1 < X0.heap.size := RO.out.lt
  obtain ⟨G0, hG0⟩ : ∃ g, X0.heap.size = g := ⟨_, rfl⟩
  rw [hG0] at O0 sz0 wl0 ⊢
  clear hO hB
  have x_dummy := True.intro
  have x_1 : w0.cell? ⟨W.heap.size, 1, none⟩ = some (.slice a1 l1 c1) := HA0.out.cell (i := 1) (by decide)
  have x_2 : w0.cell? ⟨W.heap.size, 2, none⟩ = some (.slice a2 l2 c2) := HA0.out.cell (i := 2) (by decide)
  have x_3 : w0.cell? ⟨W.heap.size, 3, none⟩ = some (.int .i64 x3) := HA0.out.cell (i := 3) (by decide)
  have o_0 : w0.cell? ⟨W.heap.size + 1 + 1, 0, none⟩ = some (.slice none 0 0) := HO0.out.cell (i := 0) (by decide)
  have p_0 : w0.frozen? ⟨W.heap.size + 1 + 1, 0, none⟩ = false := HO0.out.frozen 0
  have o_1 : w0.cell? ⟨W.heap.size + 1 + 1, 1, none⟩ = some (.slice none 0 0) := HO0.out.cell (i := 1) (by decide)
  have p_1 : w0.frozen? ⟨W.heap.size + 1 + 1, 1, none⟩ = false := HO0.out.frozen 1
  have o_2 : w0.cell? ⟨W.heap.size + 1 + 1, 2, none⟩ = some (.slice none 0 0) := HO0.out.cell (i := 2) (by decide)
  have p_2 : w0.frozen? ⟨W.heap.size + 1 + 1, 2, none⟩ = false := HO0.out.frozen 2
  have o_3 : w0.cell? ⟨W.heap.size + 1 + 1, 3, none⟩ = some (.int .i64 0) := HO0.out.cell (i := 3) (by decide)
  have p_3 : w0.frozen? ⟨W.heap.size + 1 + 1, 3, none⟩ = false := HO0.out.frozen 3
  go_wp2_with fail
  obtain ⟨Y0, EY0⟩ : ∃ X, X = (w0.setCell ⟨W.heap.size + 1 + 1, 0, none⟩ (.slice (some ⟨G0, 0, none⟩) l0 l0)) := ⟨_, rfl⟩
  rw [← EY0]
  have RA0' : Hid (Y0.rowIs W.heap.size 25 4 (rowF [.slice a0 l0 c0, .slice a1 l1 c1, .slice a2 l2 c2, .int .i64 x3])) := by rw [EY0]; exact (HA0.out.setOther (by show W.heap.size ≠ W.heap.size + 1 + 1; omega) _)
  have RR0' : Hid (Y0.rowIs (W.heap.size + 1) 30 4 (rowF [.slice none 0 0, .slice none 0 0, .slice none 0 0, .int .i64 0])) := by rw [EY0]; exact (HR0.out.setOther (by show W.heap.size + 1 ≠ W.heap.size + 1 + 1; omega) _)
  have RO0' : Hid (Y0.rowIs (W.heap.size + 1 + 1) 30 4 (rowF [.slice (some ⟨G0, 0, none⟩) l0 l0, .slice none 0 0, .slice none 0 0, .int .i64 0])) := by
    rw [EY0]
    refine World.rowIs.congr (HO0.out.set 0 (.slice (some ⟨G0, 0, none⟩) l0 l0)) (fun j hj => ?_)
    match j, hj with
    | 0, _ => rfl
    | 1, _ => rfl
    | 2, _ => rfl
    | 3, _ => rfl
    | j + 4, h => omega
  have BY0 : Hid (Below W.heap.size W Y0) := by
    rw [EY0]
    show Below _ _ _
    iterate 1 refine Below.setCell ?_ (by simp; try omega) _
    exact BB0.out
  have szY0 : Y0.heap.size = w0.heap.size := by rw [EY0]; simp [World.setCell]
  obtain ⟨N0, hN0⟩ : ∃ g, w0.heap.size = g := ⟨_, rfl⟩
  rw [hN0] at O0 sz0 lt0 szY0
  have O0 : Hid (Owns Y0 true G0 (.l l0 3 cs0) (.slice (some ⟨G0, 0, none⟩) l0 l0) (rng G0 N0)) := by
    rw [EY0]
    show Owns _ _ _ _ _ _
    iterate 1 refine far_set (by omega) ?_
    exact O0.out
  clear x_dummy o_0 p_0 o_1 p_1 o_2 p_2 o_3 p_3 x_1 x_2 x_3 HA0 HR0 HO0 BB0 EY0 hN0
  refine (IntS_to _ _ _ cs1 c _ hf1 (Nat.le_trans (Nat.le_add_right _ _) hs1.out) (h1.out.kept BY0.out)).mono ?_
  rintro e w1 ⟨rfl, hO, hB⟩
  have O1 : Hid (Owns w1 true Y0.heap.size (.l l1 1 cs1) (.slice (some ⟨Y0.heap.size, 0, none⟩) l1 l1) (rng Y0.heap.size w1.heap.size)) := hO
  have sz1 : Y0.heap.size ≤ w1.heap.size := hB.size
  have HA1 : Hid (w1.rowIs W.heap.size 25 4 (rowF [.slice a0 l0 c0, .slice a1 l1 c1, .slice a2 l2 c2, .int .i64 x3])) := RA0'.out.of_block (hB.block _ RA0'.out.lt)
  have HR1 : Hid (w1.rowIs (W.heap.size + 1) 30 4 (rowF [.slice none 0 0, .slice none 0 0, .slice none 0 0, .int .i64 0])) := RR0'.out.of_block (hB.block _ RR0'.out.lt)
  have HO1 : Hid (w1.rowIs (W.heap.size + 1 + 1) 30 4 (rowF [.slice (some ⟨G0, 0, none⟩) l0 l0, .slice none 0 0, .slice none 0 0, .int .i64 0])) := RO0'.out.of_block (hB.block _ RO0'.out.lt)
  have O0 : Hid (Owns w1 true G0 (.l l0 3 cs0) (.slice (some ⟨G0, 0, none⟩) l0 l0) (rng G0 N0)) := O0.out.kept hB
  have BB1 : Hid (Below W.heap.size W w1) := BY0.out.trans (hB.mono BY0.out.size)
  have lt1 : W.heap.size + 1 + 1 < w1.heap.size := HO1.out.lt
  have wl1 : W.heap.size + 1 + 1 < Y0.heap.size := RO0'.out.lt
  obtain ⟨G1, hG1⟩ : ∃ g, Y0.heap.size = g := ⟨_, rfl⟩
  rw [hG1] at O1 sz1 wl1 ⊢
  clear hO hB
  have x_dummy := True.intro
  have x_2 : w1.cell? ⟨W.heap.size, 2, none⟩ = some (.slice a2 l2 c2) := HA1.out.cell (i := 2) (by decide)
  have x_3 : w1.cell? ⟨W.heap.size, 3, none⟩ = some (.int .i64 x3) := HA1.out.cell (i := 3) (by decide)
  have o_0 : w1.cell? ⟨W.heap.size + 1 + 1, 0, none⟩ = some (.slice (some ⟨G0, 0, none⟩) l0 l0) := HO1.out.cell (i := 0) (by decide)
  have p_0 : w1.frozen? ⟨W.heap.size + 1 + 1, 0, none⟩ = false := HO1.out.frozen 0
  have o_1 : w1.cell? ⟨W.heap.size + 1 + 1, 1, none⟩ = some (.slice none 0 0) := HO1.out.cell (i := 1) (by decide)
  have p_1 : w1.frozen? ⟨W.heap.size + 1 + 1, 1, none⟩ = false := HO1.out.frozen 1
  have o_2 : w1.cell? ⟨W.heap.size + 1 + 1, 2, none⟩ = some (.slice none 0 0) := HO1.out.cell (i := 2) (by decide)
  have p_2 : w1.frozen? ⟨W.heap.size + 1 + 1, 2, none⟩ = false := HO1.out.frozen 2
  have o_3 : w1.cell? ⟨W.heap.size + 1 + 1, 3, none⟩ = some (.int .i64 0) := HO1.out.cell (i := 3) (by decide)
  have p_3 : w1.frozen? ⟨W.heap.size + 1 + 1, 3, none⟩ = false := HO1.out.frozen 3
  go_wp2_with fail
  obtain ⟨Y1, EY1⟩ : ∃ X, X = (w1.setCell ⟨W.heap.size + 1 + 1, 1, none⟩ (.slice (some ⟨G1, 0, none⟩) l1 l1)) := ⟨_, rfl⟩
  rw [← EY1]
  have RA1' : Hid (Y1.rowIs W.heap.size 25 4 (rowF [.slice a0 l0 c0, .slice a1 l1 c1, .slice a2 l2 c2, .int .i64 x3])) := by rw [EY1]; exact (HA1.out.setOther (by show W.heap.size ≠ W.heap.size + 1 + 1; omega) _)
  have RR1' : Hid (Y1.rowIs (W.heap.size + 1) 30 4 (rowF [.slice none 0 0, .slice none 0 0, .slice none 0 0, .int .i64 0])) := by rw [EY1]; exact (HR1.out.setOther (by show W.heap.size + 1 ≠ W.heap.size + 1 + 1; omega) _)
  have RO1' : Hid (Y1.rowIs (W.heap.size + 1 + 1) 30 4 (rowF [.slice (some ⟨G0, 0, none⟩) l0 l0, .slice (some ⟨G1, 0, none⟩) l1 l1, .slice none 0 0, .int .i64 0])) := by
    rw [EY1]
    refine World.rowIs.congr (HO1.out.set 1 (.slice (some ⟨G1, 0, none⟩) l1 l1)) (fun j hj => ?_)
    match j, hj with
    | 0, _ => rfl
    | 1, _ => rfl
    | 2, _ => rfl
    | 3, _ => rfl
    | j + 4, h => omega
  have BY1 : Hid (Below W.heap.size W Y1) := by
    rw [EY1]
    show Below _ _ _
    iterate 1 refine Below.setCell ?_ (by simp; try omega) _
    exact BB1.out
  have szY1 : Y1.heap.size = w1.heap.size := by rw [EY1]; simp [World.setCell]
  obtain ⟨N1, hN1⟩ : ∃ g, w1.heap.size = g := ⟨_, rfl⟩
  rw [hN1] at O1 sz1 lt1 szY1
  have O0 : Hid (Owns Y1 true G0 (.l l0 3 cs0) (.slice (some ⟨G0, 0, none⟩) l0 l0) (rng G0 N0)) := by
    rw [EY1]
    show Owns _ _ _ _ _ _
    iterate 1 refine far_set (by omega) ?_
    exact O0.out
  have O1 : Hid (Owns Y1 true G1 (.l l1 1 cs1) (.slice (some ⟨G1, 0, none⟩) l1 l1) (rng G1 N1)) := by
    rw [EY1]
    show Owns _ _ _ _ _ _
    iterate 1 refine far_set (by omega) ?_
    exact O1.out
  clear x_dummy o_0 p_0 o_1 p_1 o_2 p_2 o_3 p_3 x_2 x_3 HA1 HR1 HO1 BB1 EY1 hN1
  refine (IntS_to _ _ _ cs2 c _ hf2 (Nat.le_trans (Nat.le_add_right _ _) hs2.out) (h2.out.kept BY1.out)).mono ?_
  rintro e w2 ⟨rfl, hO, hB⟩
  have O2 : Hid (Owns w2 true Y1.heap.size (.l l2 1 cs2) (.slice (some ⟨Y1.heap.size, 0, none⟩) l2 l2) (rng Y1.heap.size w2.heap.size)) := hO
  have sz2 : Y1.heap.size ≤ w2.heap.size := hB.size
  have HA2 : Hid (w2.rowIs W.heap.size 25 4 (rowF [.slice a0 l0 c0, .slice a1 l1 c1, .slice a2 l2 c2, .int .i64 x3])) := RA1'.out.of_block (hB.block _ RA1'.out.lt)
  have HR2 : Hid (w2.rowIs (W.heap.size + 1) 30 4 (rowF [.slice none 0 0, .slice none 0 0, .slice none 0 0, .int .i64 0])) := RR1'.out.of_block (hB.block _ RR1'.out.lt)
  have HO2 : Hid (w2.rowIs (W.heap.size + 1 + 1) 30 4 (rowF [.slice (some ⟨G0, 0, none⟩) l0 l0, .slice (some ⟨G1, 0, none⟩) l1 l1, .slice none 0 0, .int .i64 0])) := RO1'.out.of_block (hB.block _ RO1'.out.lt)
  have O0 : Hid (Owns w2 true G0 (.l l0 3 cs0) (.slice (some ⟨G0, 0, none⟩) l0 l0) (rng G0 N0)) := O0.out.kept hB
  have O1 : Hid (Owns w2 true G1 (.l l1 1 cs1) (.slice (some ⟨G1, 0, none⟩) l1 l1) (rng G1 N1)) := O1.out.kept hB
  have BB2 : Hid (Below W.heap.size W w2) := BY1.out.trans (hB.mono BY1.out.size)
  have lt2 : W.heap.size + 1 + 1 < w2.heap.size := HO2.out.lt
  have wl2 : W.heap.size + 1 + 1 < Y1.heap.size := RO1'.out.lt
  obtain ⟨G2, hG2⟩ : ∃ g, Y1.heap.size = g := ⟨_, rfl⟩
  rw [hG2] at O2 sz2 wl2 ⊢
  clear hO hB
  have x_dummy := True.intro
  have x_3 : w2.cell? ⟨W.heap.size, 3, none⟩ = some (.int .i64 x3) := HA2.out.cell (i := 3) (by decide)
  have o_0 : w2.cell? ⟨W.heap.size + 1 + 1, 0, none⟩ = some (.slice (some ⟨G0, 0, none⟩) l0 l0) := HO2.out.cell (i := 0) (by decide)
  have p_0 : w2.frozen? ⟨W.heap.size + 1 + 1, 0, none⟩ = false := HO2.out.frozen 0
  have o_1 : w2.cell? ⟨W.heap.size + 1 + 1, 1, none⟩ = some (.slice (some ⟨G1, 0, none⟩) l1 l1) := HO2.out.cell (i := 1) (by decide)
  have p_1 : w2.frozen? ⟨W.heap.size + 1 + 1, 1, none⟩ = false := HO2.out.frozen 1
  have o_2 : w2.cell? ⟨W.heap.size + 1 + 1, 2, none⟩ = some (.slice none 0 0) := HO2.out.cell (i := 2) (by decide)
  have p_2 : w2.frozen? ⟨W.heap.size + 1 + 1, 2, none⟩ = false := HO2.out.frozen 2
  have o_3 : w2.cell? ⟨W.heap.size + 1 + 1, 3, none⟩ = some (.int .i64 0) := HO2.out.cell (i := 3) (by decide)
  have p_3 : w2.frozen? ⟨W.heap.size + 1 + 1, 3, none⟩ = false := HO2.out.frozen 3
  have r_0 : w2.cell? ⟨W.heap.size + 1, 0, none⟩ = some (.slice none 0 0) := HR2.out.cell (i := 0) (by decide)
  have t_0 : w2.frozen? ⟨W.heap.size + 1, 0, none⟩ = false := HR2.out.frozen 0
  have r_1 : w2.cell? ⟨W.heap.size + 1, 1, none⟩ = some (.slice none 0 0) := HR2.out.cell (i := 1) (by decide)
  have t_1 : w2.frozen? ⟨W.heap.size + 1, 1, none⟩ = false := HR2.out.frozen 1
  have r_2 : w2.cell? ⟨W.heap.size + 1, 2, none⟩ = some (.slice none 0 0) := HR2.out.cell (i := 2) (by decide)
  have t_2 : w2.frozen? ⟨W.heap.size + 1, 2, none⟩ = false := HR2.out.frozen 2
  have r_3 : w2.cell? ⟨W.heap.size + 1, 3, none⟩ = some (.int .i64 0) := HR2.out.cell (i := 3) (by decide)
  have t_3 : w2.frozen? ⟨W.heap.size + 1, 3, none⟩ = false := HR2.out.frozen 3
  go_wp2
  skip
  refine bodyPost_ret (v := .agg #[.slice (some ⟨G0, 0, none⟩) l0 l0, .slice (some ⟨G1, 0, none⟩) l1 l1, .slice (some ⟨G2, 0, none⟩) l2 l2, .int .i64 x3]) (by simp only [results, Try.results10]; go_simp) rfl ⟨G0, G1, G2, N0, N1, rfl, ?_, ?_, ?_, ?_, ?_, ?_, ?_⟩
  · refine Owns.more (F := rng G0 N0) ?_ (fun x hx => ⟨by have := hx.1; omega, hx.2⟩)
    iterate 6 refine far_set (by omega) ?_
    exact O0.out.low (by omega)
  · refine Owns.more (F := rng G1 N1) ?_ (fun x hx => ⟨by have := hx.1; omega, hx.2⟩)
    iterate 6 refine far_set (by omega) ?_
    exact O1.out.low (by omega)
  · refine Owns.more (F := rng G2 w2.heap.size) ?_ (fun x hx => ⟨by have := hx.1; omega, by have := hx.2; simpa [World.setCell] using this⟩)
    iterate 6 refine far_set (by omega) ?_
    exact O2.out.low (by omega)
  · omega
  · omega
  · simp [World.setCell]; omega
  · refine Below.trans BB2.out ?_
    iterate 6 refine Below.setCell ?_ (by simp; try omega) _
    exact Below.refl _ _
set_option maxRecDepth 100000 in
set_option maxHeartbeats 4000000 in
theorem Heap_eq (a0 : Option Addr) (l0 c0 : Nat) (cs0 : Nat → Dv) (a1 : Option Addr) (l1 c1 : Nat) (cs1 : Nat → Dv) (a2 : Option Addr) (l2 c2 : Nat) (cs2 : Nat → Dv) (x3 : Int) (b0 : Option Addr) (e0 : Nat) (b1 : Option Addr) (e1 : Nat) (b2 : Option Addr) (e2 : Nat) (c c' : Bool) (W : World) (hf0 : Hid (Fits shObjectS (.l l0 3 cs0))) (hs0 : Hid (szD (.l l0 3 cs0) ≤ 1048576)) (h0 : Hid (Holds W c (.l l0 3 cs0) (.slice a0 l0 c0))) (hf1 : Hid (Fits shI (.l l1 1 cs1))) (hs1 : Hid (szD (.l l1 1 cs1) ≤ 1048576)) (h1 : Hid (Holds W c (.l l1 1 cs1) (.slice a1 l1 c1))) (hf2 : Hid (Fits shI (.l l2 1 cs2))) (hs2 : Hid (szD (.l l2 1 cs2) ≤ 1048576)) (h2 : Hid (Holds W c (.l l2 1 cs2) (.slice a2 l2 c2))) (g0 : Hid (Holds W c' (.l l0 3 cs0) (.slice b0 l0 e0))) (g1 : Hid (Holds W c' (.l l1 1 cs1) (.slice b1 l1 e1))) (g2 : Hid (Holds W c' (.l l2 1 cs2) (.slice b2 l2 e2))) : Calls Try.prog 12 #[.agg #[.slice a0 l0 c0, .slice a1 l1 c1, .slice a2 l2 c2, .int .i64 x3], .agg #[.slice b0 l0 e0, .slice b1 l1 e1, .slice b2 l2 e2, .int .i64 x3]] W fun e W' => e = .returned (.bool true) ∧ Below W.heap.size W W' := by
  have ne3 : (x3 != x3) = false := by simp
  go_enter Try.func12, Try.ntmps12
  obtain ⟨X0, EX0⟩ : ∃ X, X = (W.alloc (.cells #[.slice a0 l0 c0, .slice a1 l1 c1, .slice a2 l2 c2, .int .i64 x3] 30)).alloc (.cells #[.slice b0 l0 e0, .slice b1 l1 e1, .slice b2 l2 e2, .int .i64 x3] 30) := ⟨_, rfl⟩
  have RA : Hid (X0.rowIs W.heap.size 30 4 (rowF [.slice a0 l0 c0, .slice a1 l1 c1, .slice a2 l2 c2, .int .i64 x3])) := by rw [EX0]; exact (row_of W #[.slice a0 l0 c0, .slice a1 l1 c1, .slice a2 l2 c2, .int .i64 x3] 30).alloc _
  have RB : Hid (X0.rowIs (W.heap.size + 1) 30 4 (rowF [.slice b0 l0 e0, .slice b1 l1 e1, .slice b2 l2 e2, .int .i64 x3])) := by
    rw [EX0]
    have q := row_of (W.alloc (.cells #[.slice a0 l0 c0, .slice a1 l1 c1, .slice a2 l2 c2, .int .i64 x3] 30)) #[.slice b0 l0 e0, .slice b1 l1 e1, .slice b2 l2 e2, .int .i64 x3] 30
    rw [show (W.alloc (.cells #[.slice a0 l0 c0, .slice a1 l1 c1, .slice a2 l2 c2, .int .i64 x3] 30)).heap.size = W.heap.size + 1 by simp] at q
    exact q
  have B0 : Hid (Below W.heap.size W X0) := by rw [EX0]; show Below _ _ _; go_grown
  go_wp2_with fail
  rw [← EX0]
  clear EX0
  refine (ObjectS_eq _ _ _ _ _ cs0 c c' _ hf0 hs0 (h0.out.kept B0.out) (g0.out.kept B0.out)).mono ?_
  rintro e w0 ⟨rfl, hB⟩
  have A0 : Hid (w0.rowIs W.heap.size 30 4 (rowF [.slice a0 l0 c0, .slice a1 l1 c1, .slice a2 l2 c2, .int .i64 x3])) := RA.out.of_block (hB.block _ RA.out.lt)
  have C0 : Hid (w0.rowIs (W.heap.size + 1) 30 4 (rowF [.slice b0 l0 e0, .slice b1 l1 e1, .slice b2 l2 e2, .int .i64 x3])) := RB.out.of_block (hB.block _ RB.out.lt)
  have BB0 : Hid (Below W.heap.size W w0) := B0.out.trans (hB.mono B0.out.size)
  clear hB B0 RA RB
  have y_1 : w0.cell? ⟨W.heap.size, 1, none⟩ = some (.slice a1 l1 c1) := A0.out.cell (i := 1) (by decide)
  have z_1 : w0.cell? ⟨W.heap.size + 1, 1, none⟩ = some (.slice b1 l1 e1) := C0.out.cell (i := 1) (by decide)
  have y_2 : w0.cell? ⟨W.heap.size, 2, none⟩ = some (.slice a2 l2 c2) := A0.out.cell (i := 2) (by decide)
  have z_2 : w0.cell? ⟨W.heap.size + 1, 2, none⟩ = some (.slice b2 l2 e2) := C0.out.cell (i := 2) (by decide)
  have y_3 : w0.cell? ⟨W.heap.size, 3, none⟩ = some (.int .i64 x3) := A0.out.cell (i := 3) (by decide)
  have z_3 : w0.cell? ⟨W.heap.size + 1, 3, none⟩ = some (.int .i64 x3) := C0.out.cell (i := 3) (by decide)
  go_wp2_with fail
  clear y_1 z_1 y_2 z_2 y_3 z_3
  refine (IntS_eq _ _ _ _ _ cs1 c c' _ hf1 (Nat.le_trans (Nat.le_add_right _ _) hs1.out) (h1.out.kept BB0.out) (g1.out.kept BB0.out)).mono ?_
  rintro e w1 ⟨rfl, hB⟩
  have A1 : Hid (w1.rowIs W.heap.size 30 4 (rowF [.slice a0 l0 c0, .slice a1 l1 c1, .slice a2 l2 c2, .int .i64 x3])) := A0.out.of_block (hB.block _ A0.out.lt)
  have C1 : Hid (w1.rowIs (W.heap.size + 1) 30 4 (rowF [.slice b0 l0 e0, .slice b1 l1 e1, .slice b2 l2 e2, .int .i64 x3])) := C0.out.of_block (hB.block _ C0.out.lt)
  have BB1 : Hid (Below W.heap.size W w1) := BB0.out.trans (hB.mono BB0.out.size)
  clear hB BB0 A0 C0
  have y_2 : w1.cell? ⟨W.heap.size, 2, none⟩ = some (.slice a2 l2 c2) := A1.out.cell (i := 2) (by decide)
  have z_2 : w1.cell? ⟨W.heap.size + 1, 2, none⟩ = some (.slice b2 l2 e2) := C1.out.cell (i := 2) (by decide)
  have y_3 : w1.cell? ⟨W.heap.size, 3, none⟩ = some (.int .i64 x3) := A1.out.cell (i := 3) (by decide)
  have z_3 : w1.cell? ⟨W.heap.size + 1, 3, none⟩ = some (.int .i64 x3) := C1.out.cell (i := 3) (by decide)
  go_wp2_with fail
  clear y_2 z_2 y_3 z_3
  refine (IntS_eq _ _ _ _ _ cs2 c c' _ hf2 (Nat.le_trans (Nat.le_add_right _ _) hs2.out) (h2.out.kept BB1.out) (g2.out.kept BB1.out)).mono ?_
  rintro e w2 ⟨rfl, hB⟩
  have A2 : Hid (w2.rowIs W.heap.size 30 4 (rowF [.slice a0 l0 c0, .slice a1 l1 c1, .slice a2 l2 c2, .int .i64 x3])) := A1.out.of_block (hB.block _ A1.out.lt)
  have C2 : Hid (w2.rowIs (W.heap.size + 1) 30 4 (rowF [.slice b0 l0 e0, .slice b1 l1 e1, .slice b2 l2 e2, .int .i64 x3])) := C1.out.of_block (hB.block _ C1.out.lt)
  have BB2 : Hid (Below W.heap.size W w2) := BB1.out.trans (hB.mono BB1.out.size)
  clear hB BB1 A1 C1
  have y_3 : w2.cell? ⟨W.heap.size, 3, none⟩ = some (.int .i64 x3) := A2.out.cell (i := 3) (by decide)
  have z_3 : w2.cell? ⟨W.heap.size + 1, 3, none⟩ = some (.int .i64 x3) := C2.out.cell (i := 3) (by decide)
  go_wp2
  go_ret
  exact ⟨rfl, BB2.out⟩
set_option maxRecDepth 100000 in
set_option maxHeartbeats 4000000 in
theorem Heap_mark (k0 : Int) (h0k : 0 ≤ k0) (h1k : k0 ≤ 100000000) (a0 : Option Addr) (l0 c0 : Nat) (cs0 : Nat → Dv) (a1 : Option Addr) (l1 c1 : Nat) (cs1 : Nat → Dv) (a2 : Option Addr) (l2 c2 : Nat) (cs2 : Nat → Dv) (x3 : Int) (c : Bool) (W : World) (B : Nat) (F0 : Nat → Prop) (F1 : Nat → Prop) (F2 : Nat → Prop) (hf0 : Hid (Fits shObjectS (.l l0 3 cs0))) (hs0 : Hid (szD (.l l0 3 cs0) ≤ 1048576)) (h0 : Hid (Owns W c B (.l l0 3 cs0) (.slice a0 l0 c0) F0)) (u0 : Hid (∀ x, F0 x → x < W.heap.size)) (hf1 : Hid (Fits shI (.l l1 1 cs1))) (hs1 : Hid (szD (.l l1 1 cs1) ≤ 1048576)) (h1 : Hid (Owns W c B (.l l1 1 cs1) (.slice a1 l1 c1) F1)) (u1 : Hid (∀ x, F1 x → x < W.heap.size)) (hf2 : Hid (Fits shI (.l l2 1 cs2))) (hs2 : Hid (szD (.l l2 1 cs2) ≤ 1048576)) (h2 : Hid (Owns W c B (.l l2 1 cs2) (.slice a2 l2 c2) F2)) (u2 : Hid (∀ x, F2 x → x < W.heap.size)) (D01 : ∀ x, F0 x → ¬ F1 x) (D02 : ∀ x, F0 x → ¬ F2 x) (D12 : ∀ x, F1 x → ¬ F2 x) : Calls Try.prog 16 #[.agg #[.slice a0 l0 c0, .slice a1 l1 c1, .slice a2 l2 c2, .int .i64 x3], .int .i64 k0] W fun e W' => e = .returned (.int .i64 (k0 + (cntD (.l l0 3 cs0) : Nat) + (cntD (.l l1 1 cs1) : Nat) + (cntD (.l l2 1 cs2) : Nat))) ∧ Owns W' c B (mkD (k0) (.l l0 3 cs0)) (.slice a0 l0 c0) F0 ∧ Owns W' c B (mkD (k0 + (cntD (.l l0 3 cs0) : Nat)) (.l l1 1 cs1)) (.slice a1 l1 c1) F1 ∧ Owns W' c B (mkD (k0 + (cntD (.l l0 3 cs0) : Nat) + (cntD (.l l1 1 cs1) : Nat)) (.l l2 1 cs2)) (.slice a2 l2 c2) F2 ∧ OnlyF W W' (fun x => F0 x ∨ F1 x ∨ F2 x) := by
  go_enter Try.func16, Try.ntmps16
  obtain ⟨X0, EX0⟩ : ∃ X, X = W.alloc (.cells #[.slice a0 l0 c0, .slice a1 l1 c1, .slice a2 l2 c2, .int .i64 x3] 30) := ⟨_, rfl⟩
  have RA : Hid (X0.rowIs W.heap.size 30 4 (rowF [.slice a0 l0 c0, .slice a1 l1 c1, .slice a2 l2 c2, .int .i64 x3])) := by rw [EX0]; exact row_of W #[.slice a0 l0 c0, .slice a1 l1 c1, .slice a2 l2 c2, .int .i64 x3] 30
  have B0 : Below W.heap.size W X0 := by rw [EX0]; show Below _ _ _; go_grown
  have O0 : Hid (Owns X0 c B (.l l0 3 cs0) (.slice a0 l0 c0) F0) := h0.out.kept B0
  have O1 : Hid (Owns X0 c B (.l l1 1 cs1) (.slice a1 l1 c1) F1) := h1.out.kept B0
  have O2 : Hid (Owns X0 c B (.l l2 1 cs2) (.slice a2 l2 c2) F2) := h2.out.kept B0
  have ON : Hid (OnlyF W X0 (fun x => F0 x ∨ F1 x ∨ F2 x)) := OnlyF.of_below B0
  clear B0
  have hc0 := cnt_le thin_ObjectS hf0.out
  have HC0 : Hid (cntD (.l l0 3 cs0) ≤ 8388609) := by have q := hs0.out; show _ ≤ _; omega
  clear hc0
  have hc1 := cnt_le (s := shI) ⟨by decide, fun _ => trivial⟩ hf1.out
  have HC1 : Hid (cntD (.l l1 1 cs1) ≤ 8388609) := by have q := hs1.out; show _ ≤ _; omega
  clear hc1
  have hc2 := cnt_le (s := shI) ⟨by decide, fun _ => trivial⟩ hf2.out
  have HC2 : Hid (cntD (.l l2 1 cs2) ≤ 8388609) := by have q := hs2.out; show _ ≤ _; omega
  clear hc2
  go_wp2_with fail
  rw [← EX0]
  clear EX0
  refine (ObjectS_mark (k0) (by omega) (by omega) _ _ _ cs0 c _ B F0 hf0 hs0 O0).mono ?_
  obtain ⟨N0, HN0⟩ : ∃ N, Hid (cntD (.l l0 3 cs0) = N) := ⟨_, rfl⟩
  have hN0 : N0 ≤ 8388609 := by have q := HC0.out; rw [HN0.out] at q; exact q
  rw [HN0.out]
  rintro e w0 ⟨rfl, hO, hF⟩
  have P0 : Hid (Owns w0 c B (mkD (k0) (.l l0 3 cs0)) (.slice a0 l0 c0) F0) := hO
  have O1 : Hid (Owns w0 c B (.l l1 1 cs1) (.slice a1 l1 c1) F1) := hF.owns (fun x hx hy => D01 x hy hx) O1.out
  have O2 : Hid (Owns w0 c B (.l l2 1 cs2) (.slice a2 l2 c2) F2) := hF.owns (fun x hx hy => D02 x hy hx) O2.out
  have ON0 : Hid (OnlyF W w0 (fun x => F0 x ∨ F1 x ∨ F2 x)) := ON.out.trans (hF.more (fun x hx => Or.inl hx))
  have RA0 : Hid (w0.rowIs W.heap.size 30 4 (rowF [.slice a0 l0 c0, .slice a1 l1 c1, .slice a2 l2 c2, .int .i64 x3])) := RA.out.of_block (hF.block _ RA.out.lt (fun q => by have := u0.out _ q; omega))
  clear hF hO
  have y_1 : w0.cell? ⟨W.heap.size, 1, none⟩ = some (.slice a1 l1 c1) := RA0.out.cell (i := 1) (by decide)
  go_wp2_with fail
  clear y_1
  refine (IntS_mark (k0 + (N0 : Int)) (by omega) (by omega) _ _ _ cs1 c _ B F1 hf1 (Nat.le_trans (Nat.le_add_right _ _) hs1.out) O1).mono ?_
  obtain ⟨N1, HN1⟩ : ∃ N, Hid (cntD (.l l1 1 cs1) = N) := ⟨_, rfl⟩
  have hN1 : N1 ≤ 8388609 := by have q := HC1.out; rw [HN1.out] at q; exact q
  rw [HN1.out]
  rintro e w1 ⟨rfl, hO, hF⟩
  have P0 : Hid (Owns w1 c B (mkD (k0) (.l l0 3 cs0)) (.slice a0 l0 c0) F0) := hF.owns (fun x hx hy => D01 x hx hy) P0.out
  have P1 : Hid (Owns w1 c B (mkD (k0 + (N0 : Int)) (.l l1 1 cs1)) (.slice a1 l1 c1) F1) := hO
  have O2 : Hid (Owns w1 c B (.l l2 1 cs2) (.slice a2 l2 c2) F2) := hF.owns (fun x hx hy => D12 x hy hx) O2.out
  have ON1 : Hid (OnlyF W w1 (fun x => F0 x ∨ F1 x ∨ F2 x)) := ON0.out.trans (hF.more (fun x hx => Or.inr (Or.inl hx)))
  have RA1 : Hid (w1.rowIs W.heap.size 30 4 (rowF [.slice a0 l0 c0, .slice a1 l1 c1, .slice a2 l2 c2, .int .i64 x3])) := RA0.out.of_block (hF.block _ RA0.out.lt (fun q => by have := u1.out _ q; omega))
  clear hF hO
  have y_2 : w1.cell? ⟨W.heap.size, 2, none⟩ = some (.slice a2 l2 c2) := RA1.out.cell (i := 2) (by decide)
  go_wp2_with fail
  clear y_2
  refine (IntS_mark (k0 + (N0 : Int) + (N1 : Int)) (by omega) (by omega) _ _ _ cs2 c _ B F2 hf2 (Nat.le_trans (Nat.le_add_right _ _) hs2.out) O2).mono ?_
  obtain ⟨N2, HN2⟩ : ∃ N, Hid (cntD (.l l2 1 cs2) = N) := ⟨_, rfl⟩
  have hN2 : N2 ≤ 8388609 := by have q := HC2.out; rw [HN2.out] at q; exact q
  rw [HN2.out]
  rintro e w2 ⟨rfl, hO, hF⟩
  have P0 : Hid (Owns w2 c B (mkD (k0) (.l l0 3 cs0)) (.slice a0 l0 c0) F0) := hF.owns (fun x hx hy => D02 x hx hy) P0.out
  have P1 : Hid (Owns w2 c B (mkD (k0 + (N0 : Int)) (.l l1 1 cs1)) (.slice a1 l1 c1) F1) := hF.owns (fun x hx hy => D12 x hx hy) P1.out
  have P2 : Hid (Owns w2 c B (mkD (k0 + (N0 : Int) + (N1 : Int)) (.l l2 1 cs2)) (.slice a2 l2 c2) F2) := hO
  have ON2 : Hid (OnlyF W w2 (fun x => F0 x ∨ F1 x ∨ F2 x)) := ON1.out.trans (hF.more (fun x hx => Or.inr (Or.inr (hx))))
  clear hF hO
  go_wp2
  go_ret
  refine ⟨by rw [HN0.out, HN1.out, HN2.out]; rfl, (by have q := P0.out; exact q), (by have q := P1.out; rw [HN0.out]; exact q), (by have q := P2.out; rw [HN0.out, HN1.out]; exact q), ON2.out⟩
set_option maxRecDepth 100000 in
set_option maxHeartbeats 4000000 in
theorem Heap_size (a0 : Option Addr) (l0 c0 : Nat) (cs0 : Nat → Dv) (a1 : Option Addr) (l1 c1 : Nat) (cs1 : Nat → Dv) (a2 : Option Addr) (l2 c2 : Nat) (cs2 : Nat → Dv) (x3 : Int) (l : Int) (c : Bool) (W : World) (hf0 : Hid (Fits shObjectS (.l l0 3 cs0))) (hl0 : Hid (Lens (.l l0 3 cs0))) (h0 : Hid (Holds W c (.l l0 3 cs0) (.slice a0 l0 c0))) (hf1 : Hid (Fits shI (.l l1 1 cs1))) (hl1 : Hid (Lens (.l l1 1 cs1))) (h1 : Hid (Holds W c (.l l1 1 cs1) (.slice a1 l1 c1))) (hf2 : Hid (Fits shI (.l l2 1 cs2))) (hl2 : Hid (Lens (.l l2 1 cs2))) (h2 : Hid (Holds W c (.l l2 1 cs2) (.slice a2 l2 c2))) (hq0 : 0 ≤ l) (hq1 : l ≤ 1048576) : Calls Try.prog 8 #[.agg #[.slice a0 l0 c0, .slice a1 l1 c1, .slice a2 l2 c2, .int .i64 x3], .int .i64 l] W fun e W' => e = .returned (.int .i64 (if (szD (.l l0 3 cs0) : Int) + (szD (.l l1 1 cs1) : Int) + (szD (.l l2 1 cs2) : Int) ≤ l then l - ((szD (.l l0 3 cs0) : Int) + (szD (.l l1 1 cs1) : Int) + (szD (.l l2 1 cs2) : Int)) else -1)) ∧ Below W.heap.size W W' := by
  obtain ⟨N0, HN0⟩ : ∃ N, Hid (szD (.l l0 3 cs0) = N) := ⟨_, rfl⟩
  rw [HN0.out]
  obtain ⟨N1, HN1⟩ : ∃ N, Hid (szD (.l l1 1 cs1) = N) := ⟨_, rfl⟩
  rw [HN1.out]
  obtain ⟨N2, HN2⟩ : ∃ N, Hid (szD (.l l2 1 cs2) = N) := ⟨_, rfl⟩
  rw [HN2.out]
  obtain ⟨R, HR⟩ : ∃ R : Int, Hid ((if (N0 : Int) + (N1 : Int) + (N2 : Int) ≤ l then l - ((N0 : Int) + (N1 : Int) + (N2 : Int)) else -1) = R) := ⟨_, rfl⟩
  rw [HR.out]
  have HRN : Hid (¬ ((N0 : Int) + (N1 : Int) + (N2 : Int) ≤ l) → R = -1) := fun q => by rw [← HR.out, if_neg q]
  have HRP : Hid ((N0 : Int) + (N1 : Int) + (N2 : Int) ≤ l → R = l - ((N0 : Int) + (N1 : Int) + (N2 : Int))) := fun q => by rw [← HR.out, if_pos q]
  clear HR
  go_enter Try.func8, Try.ntmps8
  obtain ⟨X0, EX0⟩ : ∃ X, X = W.alloc (.cells #[.slice a0 l0 c0, .slice a1 l1 c1, .slice a2 l2 c2, .int .i64 x3] 25) := ⟨_, rfl⟩
  have RA : Hid (X0.rowIs W.heap.size 25 4 (rowF [.slice a0 l0 c0, .slice a1 l1 c1, .slice a2 l2 c2, .int .i64 x3])) := by rw [EX0]; exact row_of W #[.slice a0 l0 c0, .slice a1 l1 c1, .slice a2 l2 c2, .int .i64 x3] 25
  have B0 : Hid (Below W.heap.size W X0) := by rw [EX0]; show Below _ _ _; go_grown
  go_wp2_with fail
  rw [← EX0]
  clear EX0
  refine (ObjectS_size _ _ _ cs0 (l) c _ hf0 hl0 (h0.out.kept B0.out) (by omega) (by omega)).mono ?_
  rw [HN0.out]
  rintro e w0 ⟨rfl, hB⟩
  have A0 : Hid (w0.rowIs W.heap.size 25 4 (rowF [.slice a0 l0 c0, .slice a1 l1 c1, .slice a2 l2 c2, .int .i64 x3])) := RA.out.of_block (hB.block _ RA.out.lt)
  have BB0 : Hid (Below W.heap.size W w0) := B0.out.trans (hB.mono B0.out.size)
  clear hB RA B0
  by_cases q0 : (N0 : Int) ≤ l
  rotate_left
  · rw [if_neg q0]
    have HM : Hid (R = -1) := HRN.out (by omega)
    go_wp2
    go_ret
    exact ⟨by rw [HM.out]; rfl, BB0.out⟩
  rw [if_pos q0]
  have le0 : 0 ≤ l - (N0 : Int) := by omega
  have y_1 : w0.cell? ⟨W.heap.size, 1, none⟩ = some (.slice a1 l1 c1) := A0.out.cell (i := 1) (by decide)
  go_wp2_with fail
  clear y_1
  refine (IntS_size _ _ _ cs1 (l - (N0 : Int)) _ hf1 hl1 (by omega) (by omega)).mono ?_
  rw [HN1.out]
  rintro e w1 ⟨rfl, hE⟩
  have hB : Below w0.heap.size w0 w1 := by rw [hE]; exact Below.refl _ _
  clear hE
  have A1 : Hid (w1.rowIs W.heap.size 25 4 (rowF [.slice a0 l0 c0, .slice a1 l1 c1, .slice a2 l2 c2, .int .i64 x3])) := A0.out.of_block (hB.block _ A0.out.lt)
  have BB1 : Hid (Below W.heap.size W w1) := BB0.out.trans (hB.mono BB0.out.size)
  clear hB A0 BB0
  by_cases q1 : (N1 : Int) ≤ l - (N0 : Int)
  rotate_left
  · rw [if_neg q1]
    have HM : Hid (R = -1) := HRN.out (by omega)
    go_wp2
    go_ret
    exact ⟨by rw [HM.out]; rfl, BB1.out⟩
  rw [if_pos q1]
  have le1 : 0 ≤ l - (N0 : Int) - (N1 : Int) := by omega
  have y_2 : w1.cell? ⟨W.heap.size, 2, none⟩ = some (.slice a2 l2 c2) := A1.out.cell (i := 2) (by decide)
  go_wp2_with fail
  clear y_2
  refine (IntS_size _ _ _ cs2 (l - (N0 : Int) - (N1 : Int)) _ hf2 hl2 (by omega) (by omega)).mono ?_
  rw [HN2.out]
  rintro e w2 ⟨rfl, hE⟩
  have hB : Below w1.heap.size w1 w2 := by rw [hE]; exact Below.refl _ _
  clear hE
  have A2 : Hid (w2.rowIs W.heap.size 25 4 (rowF [.slice a0 l0 c0, .slice a1 l1 c1, .slice a2 l2 c2, .int .i64 x3])) := A1.out.of_block (hB.block _ A1.out.lt)
  have BB2 : Hid (Below W.heap.size W w2) := BB1.out.trans (hB.mono BB1.out.size)
  clear hB A1 BB1
  by_cases q2 : (N2 : Int) ≤ l - (N0 : Int) - (N1 : Int)
  rotate_left
  · rw [if_neg q2]
    have HM : Hid (R = -1) := HRN.out (by omega)
    go_wp2
    go_ret
    exact ⟨by rw [HM.out]; rfl, BB2.out⟩
  rw [if_pos q2]
  have le2 : 0 ≤ l - (N0 : Int) - (N1 : Int) - (N2 : Int) := by omega
  have HE : Hid (R = l - (N0 : Int) - (N1 : Int) - (N2 : Int)) := by have q := HRP.out (by omega); show _ = _; omega
  go_wp2
  go_ret
  exact ⟨by rw [HE.out]; rfl, BB2.out⟩
end Go.Proofs.Ythomonidconmcaa.deep
