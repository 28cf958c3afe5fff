/-
  A call site of a new cache, and the cache of a call site.
-/
import Derived.Test.YticgipmaflhplaaProg
import Derived.Test.YticgipmaflhplaaMagMath
import Derived.Test.YticgipmaflhplaaWorldMath
import Derived.Test.YticgipmaflhplaaLookMath
import Derived.Test.YticgipmaflhplaaCacheMath
import Derived.Test.YticgipmaflhplaaPlayMath
import Derived.Test.YticgipmaflhplaaInts
import Derived.Test.YticgipmaflhplaaOwnInts
import Derived.Test.YticgipmaflhplaaDeep
import Derived.Test.YticgipmaflhplaaDeepRow
import Derived.Test.YticgipmaflhplaaDeepC
import Derived.Test.YticgipmaflhplaaFindImpl
import Derived.Test.YticgipmaflhplaaSiteImpl
import Derived.Test.YticgipmaflhplaaRemImpl
import Derived.WalkKit
import Derived.WalkSpells
import Derived.Below
import Derived.Handy
import Derived.OwnWalk
import Derived.Deep.DeepFit
import Derived.Deep.RegionHeld3
import Derived.Deep.DeepCutAuto
namespace Go.Proofs.Yticgipmaflhplaa.walks
open Go.RowKit Go.Proofs.Yticgipmaflhplaa.math Go.Proofs.Yticgipmaflhplaa.ints Go.Proofs.Yticgipmaflhplaa.deep
set_option linter.unusedVariables false
set_option maxRecDepth 100000
set_option linter.unusedSimpArgs false

/-- The site of a new cache, in the making. -/
structure SO (w wx : World) (g : Nat) (m st : Int) : Prop where
  row : SRow wx (w.heap.size + 1) g m 0 (.slice none 0 0) 0 0
  box : CBox wx w.heap.size m 0 (.slice none 0 0) st 0 0
  bel : Below w.heap.size w wx
theorem SO.drew {w wx : World} {g : Nat} {m st : Int} (h : SO w wx g m st) : SO w wx.drew g m st := ⟨h.row, h.box, h.bel.drew⟩
theorem SO.set {w wx : World} {g : Nat} {m st : Int} (h : SO w wx g m st) (i : Nat) (u : Value) (hr : SRow (wx.setCell ⟨w.heap.size + 1, i, none⟩ u) (w.heap.size + 1) g m 0 (.slice none 0 0) 0 0) : SO w (wx.setCell ⟨w.heap.size + 1, i, none⟩ u) g m st :=
  ⟨hr, World.rowIs.setOther h.box (by show w.heap.size ≠ w.heap.size + 1; omega) _, h.bel.setCell (by show w.heap.size ≤ w.heap.size + 1; omega) _⟩
set_option maxHeartbeats 8000000 in
theorem impl_siteof (pa : Option Addr) (n pcap : Nat) (st : Int) (cs : Nat → Dv) (g : Nat) (m : Int) (dl : Bool) (w : World) (hL : Hid (LookB w g pa n pcap st cs dl)) :
    Calls Try.prog 54 #[.agg #[.int .i64 m, .int .i64 0, .slice none 0 0, .int .i64 st, .int .i64 0, .int .i64 0], .pointer (some ⟨g, 0, none⟩)] w fun e w' => e = .returned (.pointer (some ⟨w.heap.size + 1, 0, none⟩)) ∧ SO w w' g m st := by
  have lg : g < w.heap.size := World.rowIs.lt hL.out
  have g1 : w.cell? ⟨g, 1, none⟩ = some (.int .i64 st) := (Look.world hL.out).2
  obtain ⟨X, hX⟩ : ∃ X, Hid ((w.alloc (.cells #[.int .i64 m, .int .i64 0, .slice none 0 0, .int .i64 st, .int .i64 0, .int .i64 0] 42)).alloc (.cells #[.pointer (some ⟨g, 0, none⟩), .int .i64 m, .int .i64 0, .slice none 0 0, .int .i64 0, .int .i64 0] 116) = X) := ⟨_, rfl⟩
  have SX : Hid (SO w X g m st) := by
    have q := row_of (w.alloc (.cells #[.int .i64 m, .int .i64 0, .slice none 0 0, .int .i64 st, .int .i64 0, .int .i64 0] 42)) #[.pointer (some ⟨g, 0, none⟩), .int .i64 m, .int .i64 0, .slice none 0 0, .int .i64 0, .int .i64 0] 116
    rw [show (w.alloc (.cells #[.int .i64 m, .int .i64 0, .slice none 0 0, .int .i64 st, .int .i64 0, .int .i64 0] 42)).heap.size = w.heap.size + 1 by simp] at q
    refine ⟨?_, ?_, ?_⟩
    · rw [← hX.out]; exact q
    · rw [← hX.out]; exact (row_of w #[.int .i64 m, .int .i64 0, .slice none 0 0, .int .i64 st, .int .i64 0, .int .i64 0] _).alloc _
    · rw [← hX.out]; go_grown
  have HGL : Hid (∀ wx, Below w.heap.size w wx → wx.cell? ⟨g, 1, none⟩ = some (.int .i64 st)) := fun wx q => (q.cell (p := ⟨g, 1, none⟩) lg).trans g1
  go_enter Try.func54, Try.ntmps54
  go_upto_region 2 with fail
  rw [hX.out]
  clear hX g1
  go_cut [] (fun wx => SO w wx g m st)
  case first =>
    have SD : Hid (SO w X.drew g m st) := SX.out.drew
    have b4 : X.drew.cell? ⟨w.heap.size, 4, none⟩ = some (.int .i64 0) := SD.out.box.cells.2.2.2.2.1
    have r4 : X.drew.cell? ⟨w.heap.size + 1, 4, none⟩ = some (.int .i64 0) := SD.out.row.cells.2.2.2.2.1
    have f4 : X.drew.frozen? ⟨w.heap.size + 1, 4, none⟩ = false := World.rowIs.frozen SD.out.row 4
    have S2 : Hid (SO w (X.drew.setCell ⟨w.heap.size + 1, 4, none⟩ (.int .i64 0)) g m st) := SD.out.set 4 _ (SD.out.row.setH 0)
    have b42 : (X.drew.setCell ⟨w.heap.size + 1, 4, none⟩ (.int .i64 0)).cell? ⟨w.heap.size, 4, none⟩ = some (.int .i64 0) := S2.out.box.cells.2.2.2.2.1
    go_region_held3 (fun w' => w'.cell? ⟨w.heap.size, 4, none⟩ = some (.int .i64 0)) (first | assumption | exact b4 | exact b42 | go_keep) (first | (go_at_call 67; refine (i64_store ⟨w.heap.size + 1, 4, none⟩ 0 _ _ r4 f4).mono ?_; rintro e w' ⟨rfl, rfl⟩))
    all_goals go_wp2_with fail
    all_goals go_meet
    all_goals exact S2.out
  case rest =>
    have SC : Hid (SO w wc g m st) := hcut
    clear hcut SX
    go_upto_region 3 with fail
    obtain ⟨X1, hX1⟩ : ∃ X1, Hid (wc = X1) := ⟨_, rfl⟩
    rw [hX1.out] at SC ⊢
    clear hX1
    go_cut [] (fun wx => SO w wx g m st)
    case first =>
      have SD : Hid (SO w X1.drew g m st) := SC.out.drew
      have b4 : X1.drew.cell? ⟨w.heap.size, 5, none⟩ = some (.int .i64 0) := SD.out.box.cells.2.2.2.2.2
      have r4 : X1.drew.cell? ⟨w.heap.size + 1, 5, none⟩ = some (.int .i64 0) := SD.out.row.cells.2.2.2.2.2
      have f4 : X1.drew.frozen? ⟨w.heap.size + 1, 5, none⟩ = false := World.rowIs.frozen SD.out.row 5
      have S2 : Hid (SO w (X1.drew.setCell ⟨w.heap.size + 1, 5, none⟩ (.int .i64 0)) g m st) := SD.out.set 5 _ (SD.out.row.setL 0)
      have b42 : (X1.drew.setCell ⟨w.heap.size + 1, 5, none⟩ (.int .i64 0)).cell? ⟨w.heap.size, 5, none⟩ = some (.int .i64 0) := S2.out.box.cells.2.2.2.2.2
      go_region_held3 (fun w' => w'.cell? ⟨w.heap.size, 5, none⟩ = some (.int .i64 0)) (first | assumption | exact b4 | exact b42 | go_keep) (first | (go_at_call 67; refine (i64_store ⟨w.heap.size + 1, 5, none⟩ 0 _ _ r4 f4).mono ?_; rintro e w' ⟨rfl, rfl⟩))
      all_goals go_wp2_with fail
      all_goals go_meet
      all_goals exact S2.out
    case rest =>
      have S3 : Hid (SO w wc g m st) := hcut
      clear hcut SC
      go_upto_region 4 with fail
      obtain ⟨X2, hX2⟩ : ∃ X2, Hid (wc = X2) := ⟨_, rfl⟩
      rw [hX2.out] at S3 ⊢
      clear hX2
      go_cut [32] (fun v32 wx => v32 = .bool true ∧ SO w wx g m st)
      case first =>
        have SD : Hid (SO w X2.drew g m st) := S3.out.drew
        have q1 : X2.drew.cell? ⟨w.heap.size, 3, none⟩ = some (.int .i64 st) ∧ X2.drew.cell? ⟨g, 1, none⟩ = some (.int .i64 st) := ⟨SD.out.box.cells.2.2.2.1, HGL.out _ SD.out.bel⟩
        have d1 : (st == st) = true := by simp
        go_region_held3 (fun w' => w'.cell? ⟨w.heap.size, 3, none⟩ = some (.int .i64 st) ∧ w'.cell? ⟨g, 1, none⟩ = some (.int .i64 st)) (first | assumption | exact q1 | go_keep) (fail)
        all_goals go_wp2_with fail
        all_goals go_meet
        all_goals exact ⟨rfl, SD.out⟩
      case rest =>
        obtain ⟨rfl, hS4⟩ := hcut
        have S4 : Hid (SO w wc g m st) := hS4
        clear hS4 S3
        go_upto_region 5 with fail
        obtain ⟨X3, hX3⟩ : ∃ X3, Hid (wc = X3) := ⟨_, rfl⟩
        rw [hX3.out] at S4 ⊢
        clear hX3
        have SD : Hid (SO w X3.drew g m st) := S4.out.drew
        have S5 : Hid (SO w (X3.drew.setCell ⟨w.heap.size + 1, 2, none⟩ (.int .i64 0)) g m st) := SD.out.set 2 _ (SD.out.row.setS 0)
        have S6 : Hid (SO w ((X3.drew.setCell ⟨w.heap.size + 1, 2, none⟩ (.int .i64 0)).setCell ⟨w.heap.size + 1, 3, none⟩ (.slice none 0 0)) g m st) := S5.out.set 3 _ (S5.out.row.setV _)
        have q0 : X3.drew.cell? ⟨w.heap.size, 1, none⟩ = some (.int .i64 0) ∧ X3.drew.cell? ⟨w.heap.size, 2, none⟩ = some (.slice none 0 0) := ⟨SD.out.box.cells.2.1, SD.out.box.cells.2.2.1⟩
        have q1 : (X3.drew.setCell ⟨w.heap.size + 1, 2, none⟩ (.int .i64 0)).cell? ⟨w.heap.size, 1, none⟩ = some (.int .i64 0) ∧ (X3.drew.setCell ⟨w.heap.size + 1, 2, none⟩ (.int .i64 0)).cell? ⟨w.heap.size, 2, none⟩ = some (.slice none 0 0) := ⟨S5.out.box.cells.2.1, S5.out.box.cells.2.2.1⟩
        have q2 : ((X3.drew.setCell ⟨w.heap.size + 1, 2, none⟩ (.int .i64 0)).setCell ⟨w.heap.size + 1, 3, none⟩ (.slice none 0 0)).cell? ⟨w.heap.size, 1, none⟩ = some (.int .i64 0) ∧ ((X3.drew.setCell ⟨w.heap.size + 1, 2, none⟩ (.int .i64 0)).setCell ⟨w.heap.size + 1, 3, none⟩ (.slice none 0 0)).cell? ⟨w.heap.size, 2, none⟩ = some (.slice none 0 0) := ⟨S6.out.box.cells.2.1, S6.out.box.cells.2.2.1⟩
        obtain ⟨_, _, r2, r3, _, _⟩ := SD.out.row.cells
        have f2 : X3.drew.frozen? ⟨w.heap.size + 1, 2, none⟩ = false := World.rowIs.frozen SD.out.row 2
        have f3 : X3.drew.frozen? ⟨w.heap.size + 1, 3, none⟩ = false := World.rowIs.frozen SD.out.row 3
        obtain ⟨_, _, r2', r3', _, _⟩ := S4.out.row.cells
        have f2' : X3.frozen? ⟨w.heap.size + 1, 2, none⟩ = false := World.rowIs.frozen S4.out.row 2
        have f3' : X3.frozen? ⟨w.heap.size + 1, 3, none⟩ = false := World.rowIs.frozen S4.out.row 3
        go_region_held3 (fun w' => w'.cell? ⟨w.heap.size, 1, none⟩ = some (.int .i64 0) ∧ w'.cell? ⟨w.heap.size, 2, none⟩ = some (.slice none 0 0)) (first | assumption | exact q0 | exact q1 | exact q2 | go_keep) (fail)
        all_goals go_wp2
        all_goals go_ret
        all_goals exact ⟨rfl, S6.out⟩
set_option maxHeartbeats 8000000 in
theorem impl_cacheof (Wb : World) (pa : Option Addr) (n pcap : Nat) (st : Int) (cs : Nat → Dv) (g gs : Nat) (m : Int) (c : Cst) (a : Option Addr) (cap : Nat) (w : World) (hS : Hid (Site Wb w pa n pcap st cs g gs m c (.slice a c.l cap))) :
    Calls Try.prog 56 #[.pointer (some ⟨gs, 0, none⟩)] w fun e w' => e = .returned (.agg #[.int .i64 m, .int .i64 c.s, .slice a c.l cap, .int .i64 st, .int .i64 c.h, .int .i64 c.lk]) ∧ Below w.heap.size w w' := by
  obtain ⟨X, hX⟩ : ∃ X, Hid (w.alloc (.cells #[.int .i64 0, .int .i64 0, .slice none 0 0, .int .i64 0, .int .i64 0, .int .i64 0] 42) = X) := ⟨_, rfl⟩
  have HXB : Hid (Below w.heap.size w X) := by show Below _ _ _; rw [← hX.out]; repeat (first | exact Below.refl _ _ | refine Below.drew ?_ | refine Below.setCell ?_ (by simp; try omega) _ | refine Below.alloc ?_ (by simp; try omega) _)
  have SX := (show Hid _ from hS.out.kept HXB.out)
  have HZ : Hid (CBox X w.heap.size 0 0 (.slice none 0 0) 0 0 0) := by show World.rowIs _ _ _ _ _; rw [← hX.out]; exact row_of w #[.int .i64 0, .int .i64 0, .slice none 0 0, .int .i64 0, .int .i64 0, .int .i64 0] _
  obtain ⟨dl, hdl⟩ := SX.out.look
  have g1 : X.cell? ⟨g, 1, none⟩ = some (.int .i64 st) := (Look.world hdl).2
  obtain ⟨x0, x1, x2, x3, x4, x5⟩ := SX.out.row.cells
  have qd : X.drew.cell? ⟨gs, 0, none⟩ = some (.pointer (some ⟨g, 0, none⟩)) ∧ X.drew.cell? ⟨gs, 1, none⟩ = some (.int .i64 m) ∧ X.drew.cell? ⟨gs, 2, none⟩ = some (.int .i64 c.s) ∧ X.drew.cell? ⟨gs, 3, none⟩ = some (.slice a c.l cap) ∧ X.drew.cell? ⟨g, 1, none⟩ = some (.int .i64 st) := ⟨x0, x1, x2, x3, g1⟩
  have d4 : X.drew.cell? ⟨gs, 4, none⟩ = some (.int .i64 c.h) := x4
  have d5 : X.drew.cell? ⟨gs, 5, none⟩ = some (.int .i64 c.lk) := x5
  obtain ⟨z0, z1, z2, z3, z4, z5⟩ := HZ.out.cells
  have fz0 : X.frozen? ⟨w.heap.size, 0, none⟩ = false := World.rowIs.frozen HZ.out 0
  have fz1 : X.frozen? ⟨w.heap.size, 1, none⟩ = false := World.rowIs.frozen HZ.out 1
  have fz2 : X.frozen? ⟨w.heap.size, 2, none⟩ = false := World.rowIs.frozen HZ.out 2
  have fz3 : X.frozen? ⟨w.heap.size, 3, none⟩ = false := World.rowIs.frozen HZ.out 3
  have fz4 : X.frozen? ⟨w.heap.size, 4, none⟩ = false := World.rowIs.frozen HZ.out 4
  have fz5 : X.frozen? ⟨w.heap.size, 5, none⟩ = false := World.rowIs.frozen HZ.out 5
  have lgs : gs < w.heap.size := World.rowIs.lt hS.out.row
  obtain ⟨dl2, hdl2⟩ := hS.out.look
  have lg : g < w.heap.size := World.rowIs.lt hdl2
  have n1 : w.heap.size ≠ gs := by omega
  have n2 : w.heap.size ≠ g := by omega
  have P6 := (show Hid _ from HZ.out.put m c.s (.slice a c.l cap) st c.h c.lk)
  have far : ∀ (x i : Nat), x ≠ w.heap.size → ((((((X.setCell ⟨w.heap.size, 0, none⟩ (.int .i64 m)).setCell ⟨w.heap.size, 1, none⟩ (.int .i64 c.s)).setCell ⟨w.heap.size, 2, none⟩ (.slice a c.l cap)).setCell ⟨w.heap.size, 3, none⟩ (.int .i64 st)).setCell ⟨w.heap.size, 4, none⟩ (.int .i64 c.h)).setCell ⟨w.heap.size, 5, none⟩ (.int .i64 c.lk)).cell? ⟨x, i, none⟩ = X.cell? ⟨x, i, none⟩ := fun x i hx => World.cell?_of_block ((Below.heap_setCell _ _ _ _ hx).trans ((Below.heap_setCell _ _ _ _ hx).trans ((Below.heap_setCell _ _ _ _ hx).trans ((Below.heap_setCell _ _ _ _ hx).trans ((Below.heap_setCell _ _ _ _ hx).trans (Below.heap_setCell _ _ _ _ hx))))))
  have q6 : ((((((X.setCell ⟨w.heap.size, 0, none⟩ (.int .i64 m)).setCell ⟨w.heap.size, 1, none⟩ (.int .i64 c.s)).setCell ⟨w.heap.size, 2, none⟩ (.slice a c.l cap)).setCell ⟨w.heap.size, 3, none⟩ (.int .i64 st)).setCell ⟨w.heap.size, 4, none⟩ (.int .i64 c.h)).setCell ⟨w.heap.size, 5, none⟩ (.int .i64 c.lk)).cell? ⟨gs, 0, none⟩ = some (.pointer (some ⟨g, 0, none⟩)) ∧ ((((((X.setCell ⟨w.heap.size, 0, none⟩ (.int .i64 m)).setCell ⟨w.heap.size, 1, none⟩ (.int .i64 c.s)).setCell ⟨w.heap.size, 2, none⟩ (.slice a c.l cap)).setCell ⟨w.heap.size, 3, none⟩ (.int .i64 st)).setCell ⟨w.heap.size, 4, none⟩ (.int .i64 c.h)).setCell ⟨w.heap.size, 5, none⟩ (.int .i64 c.lk)).cell? ⟨gs, 1, none⟩ = some (.int .i64 m) ∧ ((((((X.setCell ⟨w.heap.size, 0, none⟩ (.int .i64 m)).setCell ⟨w.heap.size, 1, none⟩ (.int .i64 c.s)).setCell ⟨w.heap.size, 2, none⟩ (.slice a c.l cap)).setCell ⟨w.heap.size, 3, none⟩ (.int .i64 st)).setCell ⟨w.heap.size, 4, none⟩ (.int .i64 c.h)).setCell ⟨w.heap.size, 5, none⟩ (.int .i64 c.lk)).cell? ⟨gs, 2, none⟩ = some (.int .i64 c.s) ∧ ((((((X.setCell ⟨w.heap.size, 0, none⟩ (.int .i64 m)).setCell ⟨w.heap.size, 1, none⟩ (.int .i64 c.s)).setCell ⟨w.heap.size, 2, none⟩ (.slice a c.l cap)).setCell ⟨w.heap.size, 3, none⟩ (.int .i64 st)).setCell ⟨w.heap.size, 4, none⟩ (.int .i64 c.h)).setCell ⟨w.heap.size, 5, none⟩ (.int .i64 c.lk)).cell? ⟨gs, 3, none⟩ = some (.slice a c.l cap) ∧ ((((((X.setCell ⟨w.heap.size, 0, none⟩ (.int .i64 m)).setCell ⟨w.heap.size, 1, none⟩ (.int .i64 c.s)).setCell ⟨w.heap.size, 2, none⟩ (.slice a c.l cap)).setCell ⟨w.heap.size, 3, none⟩ (.int .i64 st)).setCell ⟨w.heap.size, 4, none⟩ (.int .i64 c.h)).setCell ⟨w.heap.size, 5, none⟩ (.int .i64 c.lk)).cell? ⟨g, 1, none⟩ = some (.int .i64 st) := ⟨(far gs 0 n1.symm).trans x0, (far gs 1 n1.symm).trans x1, (far gs 2 n1.symm).trans x2, (far gs 3 n1.symm).trans x3, (far g 1 n2.symm).trans g1⟩
  have HBF : Hid (Below w.heap.size w ((((((X.setCell ⟨w.heap.size, 0, none⟩ (.int .i64 m)).setCell ⟨w.heap.size, 1, none⟩ (.int .i64 c.s)).setCell ⟨w.heap.size, 2, none⟩ (.slice a c.l cap)).setCell ⟨w.heap.size, 3, none⟩ (.int .i64 st)).setCell ⟨w.heap.size, 4, none⟩ (.int .i64 c.h)).setCell ⟨w.heap.size, 5, none⟩ (.int .i64 c.lk)).drew) := by
    have q : w.heap.size ≤ w.heap.size := Nat.le_refl _
    exact ((((((HXB.out.setCell q _).setCell q _).setCell q _).setCell q _).setCell q _).setCell q _).drew
  clear far x0 x1 x2 x3 x4 x5 g1 hdl hdl2 lgs lg P6 SX HZ hS HXB n1 n2
  go_enter Try.func56, Try.ntmps56
  go_upto_region 1 with fail
  rw [hX.out]
  clear hX
  -- REGION
  refine wp_region_noPanic ?_
  refine wp_region_held_drew (S := fun w' => w'.cell? ⟨gs, 0, none⟩ = some (.pointer (some ⟨g, 0, none⟩)) ∧ w'.cell? ⟨gs, 1, none⟩ = some (.int .i64 m) ∧ w'.cell? ⟨gs, 2, none⟩ = some (.int .i64 c.s) ∧ w'.cell? ⟨gs, 3, none⟩ = some (.slice a c.l cap) ∧ w'.cell? ⟨g, 1, none⟩ = some (.int .i64 st)) (by kernel_rfl) ?_ (fun hHeld => ?_)
  · (try dsimp only); exact qd
  refine wpAnyH_take (i := 0) (v := ?v1) rfl (by kernel_rfl) (by kernel_rfl) (by kernel_rfl) (fun _ _ _ h => h) (Or.inl ⟨by rfl, ?hy1⟩) (by assumption) ?_
  case hy1 => (intro w hSw; (try dsimp only at hSw); go_simp; try with_reducible rfl)
  try simp only [Act.put, List.setIfInBounds_toArray, List.set_cons_zero, List.set_cons_succ]
  refine wpAnyH_take (i := 1) (v := ?v2) rfl (by kernel_rfl) (by kernel_rfl) (by kernel_rfl) (fun _ _ _ h => h) (Or.inl ⟨by rfl, ?hy2⟩) (by assumption) ?_
  case hy2 => (intro w hSw; (try dsimp only at hSw); go_simp; try with_reducible rfl)
  try simp only [Act.put, List.setIfInBounds_toArray, List.set_cons_zero, List.set_cons_succ]
  refine wpAnyH_take (i := 2) (v := ?v3) rfl (by kernel_rfl) (by kernel_rfl) (by kernel_rfl) (fun _ _ _ h => h) (Or.inl ⟨by rfl, ?hy3⟩) (by assumption) ?_
  case hy3 => (intro w hSw; (try dsimp only at hSw); go_simp; try with_reducible rfl)
  try simp only [Act.put, List.setIfInBounds_toArray, List.set_cons_zero, List.set_cons_succ]
  refine wpAnyH_take (i := 3) (v := ?v4) rfl (by kernel_rfl) (by kernel_rfl) (by kernel_rfl) (fun _ _ _ h => h) (Or.inl ⟨by rfl, ?hy4⟩) (by assumption) ?_
  case hy4 => (intro w hSw; (try dsimp only at hSw); go_simp; try with_reducible rfl)
  try simp only [Act.put, List.setIfInBounds_toArray, List.set_cons_zero, List.set_cons_succ]
  refine wpAnyH_take (i := 4) (v := ?v5) rfl (by kernel_rfl) (by kernel_rfl) (by kernel_rfl) (fun _ _ _ h => h) (Or.inl ⟨by rfl, ?hy5⟩) (by assumption) ?_
  case hy5 => (intro w hSw; (try dsimp only at hSw); go_simp; try with_reducible rfl)
  try simp only [Act.put, List.setIfInBounds_toArray, List.set_cons_zero, List.set_cons_succ]
  refine wpAnyH_take (i := 5) (v := ?v6) rfl (by kernel_rfl) (by kernel_rfl) (by kernel_rfl) (fun _ _ _ h => h) (Or.inl ⟨by rfl, ?hy6⟩) (by assumption) ?_
  case hy6 => (intro w hSw; (try dsimp only at hSw); go_simp; try with_reducible rfl)
  try simp only [Act.put, List.setIfInBounds_toArray, List.set_cons_zero, List.set_cons_succ]
  refine wpAnyH_take (i := 6) (v := ?v7) rfl (by kernel_rfl) (by kernel_rfl) (by kernel_rfl) (fun _ _ _ h => h) (Or.inl ⟨by rfl, ?hy7⟩) (by assumption) ?_
  case hy7 => (intro w hSw; (try dsimp only at hSw); go_simp; try with_reducible rfl)
  try simp only [Act.put, List.setIfInBounds_toArray, List.set_cons_zero, List.set_cons_succ]
  refine wpAnyH_take (i := 7) (v := ?v8) rfl (by kernel_rfl) (by kernel_rfl) (by kernel_rfl) (fun _ _ _ h => h) (Or.inl ⟨by rfl, ?hy8⟩) (by assumption) ?_
  case hy8 => (intro w hSw; (try dsimp only at hSw); go_simp; try with_reducible rfl)
  try simp only [Act.put, List.setIfInBounds_toArray, List.set_cons_zero, List.set_cons_succ]
  refine wpAnyH_take (i := 8) (v := ?v9) rfl (by kernel_rfl) (by kernel_rfl) (by kernel_rfl) (fun _ _ _ h => h) (Or.inl ⟨by rfl, ?hy9⟩) (by assumption) ?_
  case hy9 => (intro w hSw; (try dsimp only at hSw); go_simp; try with_reducible rfl)
  try simp only [Act.put, List.setIfInBounds_toArray, List.set_cons_zero, List.set_cons_succ]
  refine wpAnyH_take (i := 9) (v := ?v10) rfl (by kernel_rfl) (by kernel_rfl) (by kernel_rfl) (fun _ _ _ h => h) (Or.inl ⟨by rfl, ?hy10⟩) (by assumption) ?_
  case hy10 => (intro w hSw; (try dsimp only at hSw); go_simp; try with_reducible rfl)
  try simp only [Act.put, List.setIfInBounds_toArray, List.set_cons_zero, List.set_cons_succ]
  refine wpAnyH_take (i := 10) (v := ?v11) rfl (by kernel_rfl) (by kernel_rfl) (by kernel_rfl) (fun _ _ _ h => h) (Or.inl ⟨by rfl, ?hy11⟩) (by assumption) ?_
  case hy11 => (intro w hSw; (try dsimp only at hSw); go_simp; try with_reducible rfl)
  try simp only [Act.put, List.setIfInBounds_toArray, List.set_cons_zero, List.set_cons_succ]
  refine wpAnyH_take (i := 11) (v := ?v12) rfl (by kernel_rfl) (by kernel_rfl) (by kernel_rfl) (fun _ _ _ h => h) (Or.inl ⟨by rfl, ?hy12⟩) (by assumption) ?_
  case hy12 => (intro w hSw; (try dsimp only at hSw); go_simp; try with_reducible rfl)
  try simp only [Act.put, List.setIfInBounds_toArray, List.set_cons_zero, List.set_cons_succ]
  refine wpAnyH_take (i := 12) (v := ?v13) rfl (by kernel_rfl) (by kernel_rfl) (by kernel_rfl) (fun _ _ _ h => h) (Or.inl ⟨by rfl, ?hy13⟩) (by assumption) ?_
  case hy13 => (intro w hSw; (try dsimp only at hSw); go_simp; try with_reducible rfl)
  try simp only [Act.put, List.setIfInBounds_toArray, List.set_cons_zero, List.set_cons_succ]
  refine wpAnyH_take (i := 13) (v := ?v14) rfl (by kernel_rfl) (by kernel_rfl) (by kernel_rfl) (fun _ _ _ h => h) (Or.inl ⟨by rfl, ?hy14⟩) (by assumption) ?_
  case hy14 => (intro w hSw; (try dsimp only at hSw); go_simp; try with_reducible rfl)
  try simp only [Act.put, List.setIfInBounds_toArray, List.set_cons_zero, List.set_cons_succ]
  refine wpAnyH_take (i := 14) (v := ?v15) rfl (by kernel_rfl) (by kernel_rfl) (by kernel_rfl) (fun _ _ _ h => h) (Or.inl ⟨by rfl, ?hy15⟩) (by assumption) ?_
  case hy15 => (intro w hSw; (try dsimp only at hSw); go_simp; try with_reducible rfl)
  try simp only [Act.put, List.setIfInBounds_toArray, List.set_cons_zero, List.set_cons_succ]
  refine wpAnyH_take (i := 15) (v := ?v16) rfl (by kernel_rfl) (by kernel_rfl) (by kernel_rfl) (fun _ _ _ h => h) (Or.inl ⟨by rfl, ?hy16⟩) (by assumption) ?_
  case hy16 => (intro w hSw; (try dsimp only at hSw); go_simp; try with_reducible rfl)
  try simp only [Act.put, List.setIfInBounds_toArray, List.set_cons_zero, List.set_cons_succ]
  refine wpAnyH_take (i := 16) (v := ?v17) rfl (by kernel_rfl) (by kernel_rfl) (by kernel_rfl) (fun _ _ _ h => h) (Or.inl ⟨by rfl, ?hy17⟩) (by assumption) ?_
  case hy17 => (intro w hSw; (try dsimp only at hSw); go_simp; try with_reducible rfl)
  try simp only [Act.put, List.setIfInBounds_toArray, List.set_cons_zero, List.set_cons_succ]
  refine wpAnyH_take (i := 17) (v := ?v18) rfl (by kernel_rfl) (by kernel_rfl) (by kernel_rfl) (fun _ _ _ h => h) (Or.inl ⟨by rfl, ?hy18⟩) (by assumption) ?_
  case hy18 => (intro w hSw; (try dsimp only at hSw); go_simp; try with_reducible rfl)
  try simp only [Act.put, List.setIfInBounds_toArray, List.set_cons_zero, List.set_cons_succ]
  refine wpAnyH_take (i := 18) (v := ?v19) rfl (by kernel_rfl) (by kernel_rfl) (by kernel_rfl) (fun _ _ _ h => h) (Or.inl ⟨by rfl, ?hy19⟩) (by assumption) ?_
  case hy19 => (intro w hSw; (try dsimp only at hSw); go_simp; try with_reducible rfl)
  try simp only [Act.put, List.setIfInBounds_toArray, List.set_cons_zero, List.set_cons_succ]
  refine wpAnyH_take (i := 19) (v := ?v20) rfl (by kernel_rfl) (by kernel_rfl) (by kernel_rfl) (fun _ _ _ h => h) (Or.inl ⟨by rfl, ?hy20⟩) (by assumption) ?_
  case hy20 => (intro w hSw; (try dsimp only at hSw); go_simp; try with_reducible rfl)
  try simp only [Act.put, List.setIfInBounds_toArray, List.set_cons_zero, List.set_cons_succ]
  refine wpAnyH_take (i := 20) (v := ?v21) rfl (by kernel_rfl) (by kernel_rfl) (by kernel_rfl) (fun _ _ _ h => h) (Or.inl ⟨by rfl, ?hy21⟩) (by assumption) ?_
  case hy21 => (intro w hSw; (try dsimp only at hSw); go_simp; try with_reducible rfl)
  try simp only [Act.put, List.setIfInBounds_toArray, List.set_cons_zero, List.set_cons_succ]
  refine wpAnyH_take (i := 21) (v := ?v22) rfl (by kernel_rfl) (by kernel_rfl) (by kernel_rfl) (fun _ _ _ h => h) (Or.inl ⟨by rfl, ?hy22⟩) (by assumption) ?_
  case hy22 => (intro w hSw; (try dsimp only at hSw); go_simp; try with_reducible rfl)
  try simp only [Act.put, List.setIfInBounds_toArray, List.set_cons_zero, List.set_cons_succ]
  refine wpAnyH_take (i := 22) (v := ?v23) rfl (by kernel_rfl) (by kernel_rfl) (by kernel_rfl) (fun _ _ _ h => h) (Or.inl ⟨by rfl, ?hy23⟩) (by assumption) ?_
  case hy23 => (intro w hSw; (try dsimp only at hSw); go_simp; try with_reducible rfl)
  try simp only [Act.put, List.setIfInBounds_toArray, List.set_cons_zero, List.set_cons_succ]
  refine wpAnyH_take (i := 23) (v := ?v24) rfl (by kernel_rfl) (by kernel_rfl) (by kernel_rfl) (fun _ _ _ h => h) (Or.inl ⟨by rfl, ?hy24⟩) (by assumption) ?_
  case hy24 => (intro w hSw; (try dsimp only at hSw); go_simp; try with_reducible rfl)
  try simp only [Act.put, List.setIfInBounds_toArray, List.set_cons_zero, List.set_cons_succ]
  refine wpAnyH_take (i := 25) (v := ?v25) rfl (by kernel_rfl) (by kernel_rfl) (by kernel_rfl) (fun _ _ _ h => h) (Or.inl ⟨by rfl, ?hy25⟩) (by assumption) ?_
  case hy25 => (intro w hSw; (try dsimp only at hSw); go_simp; try with_reducible rfl)
  try simp only [Act.put, List.setIfInBounds_toArray, List.set_cons_zero, List.set_cons_succ]
  refine wpAnyH_take (i := 26) (v := ?v26) rfl (by kernel_rfl) (by kernel_rfl) (by kernel_rfl) (fun _ _ _ h => h) (Or.inl ⟨by rfl, ?hy26⟩) (by assumption) ?_
  case hy26 => (intro w hSw; (try dsimp only at hSw); go_simp; try with_reducible rfl)
  try simp only [Act.put, List.setIfInBounds_toArray, List.set_cons_zero, List.set_cons_succ]
  refine wpAnyH_take (i := 27) (v := ?v27) rfl (by kernel_rfl) (by kernel_rfl) (by kernel_rfl) (fun _ _ _ h => h) (Or.inl ⟨by rfl, ?hy27⟩) (by assumption) ?_
  case hy27 => (intro w hSw; (try dsimp only at hSw); go_simp; try with_reducible rfl)
  try simp only [Act.put, List.setIfInBounds_toArray, List.set_cons_zero, List.set_cons_succ]
  refine wpAnyH_take (i := 28) (v := ?v28) rfl (by kernel_rfl) (by kernel_rfl) (by kernel_rfl) (fun _ _ _ h => h) (Or.inl ⟨by rfl, ?hy28⟩) (by assumption) ?_
  case hy28 => (intro w hSw; (try dsimp only at hSw); go_simp; try with_reducible rfl)
  try simp only [Act.put, List.setIfInBounds_toArray, List.set_cons_zero, List.set_cons_succ]
  refine wpAnyH_ready (rs := [24]) (by kernel_rfl) (by simp) ?_
  refine AllReadyH.cons rfl (fun K hK => ?_) AllReadyH.nil
  go_simp
  refine Calls.mono (i64_load ⟨gs, 4, none⟩ c.h X.drew d4) ?_
  rintro e w' ⟨rfl, hw'⟩
  rw [hw']
  clear hw' w'
  try dsimp only
  refine hK.out _ _ ?_ (fun hHeld => ?_)
  · (try dsimp only); (first | with_reducible exact qd | (simp only [World.cell?_drew]; with_reducible exact q6))
  clear hK K
  try simp only [Act.put, List.setIfInBounds_toArray, List.set_cons_zero, List.set_cons_succ]
  refine wpAnyH_ready (rs := [29]) (by kernel_rfl) (by simp) ?_
  refine AllReadyH.cons rfl (fun K hK => ?_) AllReadyH.nil
  go_simp
  refine Calls.mono (i64_load ⟨gs, 5, none⟩ c.lk X.drew d5) ?_
  rintro e w' ⟨rfl, hw'⟩
  rw [hw']
  clear hw' w'
  try dsimp only
  refine hK.out _ _ ?_ (fun hHeld => ?_)
  · (try dsimp only); (first | with_reducible exact qd | (simp only [World.cell?_drew]; with_reducible exact q6))
  clear hK K
  try simp only [Act.put, List.setIfInBounds_toArray, List.set_cons_zero, List.set_cons_succ]
  refine wpAnyH_take (i := 30) (v := ?v29) rfl (by kernel_rfl) (by kernel_rfl) (by kernel_rfl) (fun _ _ _ h => h) (Or.inl ⟨by rfl, ?hy29⟩) (by assumption) ?_
  case hy29 => (intro w hSw; (try dsimp only at hSw); go_simp; try with_reducible rfl)
  try simp only [Act.put, List.setIfInBounds_toArray, List.set_cons_zero, List.set_cons_succ]
  refine wpAnyH_ready (rs := [31]) (by kernel_rfl) (by simp) ?_
  refine AllReadyH.cons rfl (fun K hK => ?_) AllReadyH.nil
  go_simp
  refine hK.out _ _ ?_ (fun hHeld => ?_)
  · (try dsimp only); (first | with_reducible exact qd | (simp only [World.cell?_drew]; with_reducible exact q6))
  clear hK K
  try simp only [Act.put, List.setIfInBounds_toArray, List.set_cons_zero, List.set_cons_succ]
  refine wpAnyH_done (by kernel_rfl) ?_ _
  refine NoPanic.normal ?_
  go_wp2
  refine bodyPost_ret (v := .agg #[.int .i64 m, .int .i64 c.s, .slice a c.l cap, .int .i64 st, .int .i64 c.h, .int .i64 c.lk]) (by simp only [results, Try.results56]; go_simp) rfl ⟨rfl, HBF.out⟩
  -- REGION END
end Go.Proofs.Yticgipmaflhplaa.walks
