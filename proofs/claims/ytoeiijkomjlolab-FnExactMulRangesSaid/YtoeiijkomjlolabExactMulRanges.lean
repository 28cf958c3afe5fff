/-
  Of every two ranges: the program multiplies them as the specification does; it writes into nothing that was there.
-/
import Derived.Test.YtoeiijkomjlolabRows
import Derived.WalkKit
import Derived.ProofKit
import Derived.OpenShut
import Derived.ShutString
import Derived.ChangeOld
import Derived.Below
import Derived.Carry
import Derived.Lib.SmallJoins
import Derived.Deep.DeepFit
import Derived.Deep.DeepCutAuto
import Derived.Deep.RegionHeld3
import Derived.Test.YtoeiijkomjlolabRangeMath
import Derived.Test.YtoeiijkomjlolabRangeGood
import Derived.Test.YtoeiijkomjlolabRangeAll
namespace Go.Proofs.Ytoeiijkomjlolab.fnExactMulRanges
open Go.ChangeShapes Go.WideShapes Go.ChangeAt Go.RowKit
open Go.ChangeMaps (open_string shut_string)
open Go.Proofs.Ytoeiijkomjlolab.math
open Go.Proofs.Ytoeiijkomjlolab.walks
set_option linter.unusedVariables false

theorem own : ownKnob Try.prog.godebug = none := by kernel_rfl
theorem laidOut : laidOutB Try.prog = true := by kernel_rfl

set_option linter.unusedSimpArgs false
/-- The two that came in, in memory. -/
structure Two (w wx : World) (a b : Rv) : Prop where
  bel : Below w.heap.size w wx
  size : w.heap.size + 1 < wx.heap.size
  a0 : wx.cell? ⟨w.heap.size, 0, none⟩ = some (.bool a.e)
  a1 : wx.cell? ⟨w.heap.size, 1, none⟩ = some (.int .i64 a.lo)
  a2 : wx.cell? ⟨w.heap.size, 2, none⟩ = some (.int .i64 a.hi)
  b0 : wx.cell? ⟨w.heap.size + 1, 0, none⟩ = some (.bool b.e)
  b1 : wx.cell? ⟨w.heap.size + 1, 1, none⟩ = some (.int .i64 b.lo)
  b2 : wx.cell? ⟨w.heap.size + 1, 2, none⟩ = some (.int .i64 b.hi)
theorem Two.call {w wx w' : World} {a b : Rv} (h : Two w wx a b) (B : Below wx.heap.size wx w') : Two w w' a b := by
  have hs := h.size
  have hb := B.size
  exact ⟨belR h.bel B, by omega, by rw [← h.a0]; exact (B.cell (p := ⟨w.heap.size, 0, none⟩) (by show w.heap.size < wx.heap.size; omega)), by rw [← h.a1]; exact (B.cell (p := ⟨w.heap.size, 1, none⟩) (by show w.heap.size < wx.heap.size; omega)), by rw [← h.a2]; exact (B.cell (p := ⟨w.heap.size, 2, none⟩) (by show w.heap.size < wx.heap.size; omega)), by rw [← h.b0]; exact (B.cell (p := ⟨w.heap.size + 1, 0, none⟩) (by show w.heap.size + 1 < wx.heap.size; omega)), by rw [← h.b1]; exact (B.cell (p := ⟨w.heap.size + 1, 1, none⟩) (by show w.heap.size + 1 < wx.heap.size; omega)), by rw [← h.b2]; exact (B.cell (p := ⟨w.heap.size + 1, 2, none⟩) (by show w.heap.size + 1 < wx.heap.size; omega))⟩
theorem Two.alloc {w wx : World} {a b : Rv} (h : Two w wx a b) (o : Obj) : Two w (wx.alloc o) a b := h.call ((Below.refl _ _).alloc (Nat.le_refl _) o)
theorem Two.set {w wx : World} {a b : Rv} (h : Two w wx a b) {g : Nat} (hg : w.heap.size + 1 < g) (i : Nat) (v : Value) : Two w (wx.setCell ⟨g, i, none⟩ v) a b :=
  ⟨h.bel.setCell (by show w.heap.size ≤ g; omega) v, by simpa [World.setCell] using h.size, by rw [World.cell?_setCell_other _ _ _ _ (by simp <;> omega)]; exact h.a0, by rw [World.cell?_setCell_other _ _ _ _ (by simp <;> omega)]; exact h.a1, by rw [World.cell?_setCell_other _ _ _ _ (by simp <;> omega)]; exact h.a2, by rw [World.cell?_setCell_other _ _ _ _ (by simp <;> omega)]; exact h.b0, by rw [World.cell?_setCell_other _ _ _ _ (by simp <;> omega)]; exact h.b1, by rw [World.cell?_setCell_other _ _ _ _ (by simp <;> omega)]; exact h.b2⟩
theorem spec_told (f g : Rv) (W : World) : Calls Try.prog 17 #[.agg #[.bool f.e, .int .i64 f.lo, .int .i64 f.hi], .agg #[.bool g.e, .int .i64 g.lo, .int .i64 g.hi]] W fun e W' => e = .returned (.tuple #[.agg #[.bool (bothR (twoR 5) f g).e, .int .i64 (bothR (twoR 5) f g).lo, .int .i64 (bothR (twoR 5) f g).hi], .bool (f.good && g.good)]) ∧ Below W.heap.size W W' := spec_Mul f g W
theorem impl_told (f g : Rv) (W : World) : Calls Try.prog 18 #[.agg #[.bool f.e, .int .i64 f.lo, .int .i64 f.hi], .agg #[.bool g.e, .int .i64 g.lo, .int .i64 g.hi]] W fun e W' => e = .returned (.tuple #[.agg #[.bool (bothR (twoR 5) f g).e, .int .i64 (bothR (twoR 5) f g).lo, .int .i64 (bothR (twoR 5) f g).hi], .bool (f.good && g.good)]) ∧ Below W.heap.size W W' := impl_Mul f g W
theorem both_of {α : Type} {p q : α → Prop} {c r : Prop} (hp : ∀ o, c → p o) (hq : ∀ o, c → q o) (hc : c) (h : (∀ o, p o) → (∀ o, q o) → r) : r := h (fun o => hp o hc) (fun o => hq o hc)
/-- An answer in a block of its own. -/
structure Put (w wx : World) (g : Nat) (a : Rv) : Prop where
  lo : w.heap.size + 1 < g
  hi : g < wx.heap.size
  c0 : wx.cell? ⟨g, 0, none⟩ = some (.bool a.e)
  c1 : wx.cell? ⟨g, 1, none⟩ = some (.int .i64 a.lo)
  c2 : wx.cell? ⟨g, 2, none⟩ = some (.int .i64 a.hi)
theorem Put.call {w wx w' : World} {g : Nat} {a : Rv} (h : Put w wx g a) (B : Below wx.heap.size wx w') : Put w w' g a := by
  have hs := h.hi
  have hb := B.size
  exact ⟨h.lo, by omega, by rw [← h.c0]; exact (B.cell (p := ⟨g, 0, none⟩) hs), by rw [← h.c1]; exact (B.cell (p := ⟨g, 1, none⟩) hs), by rw [← h.c2]; exact (B.cell (p := ⟨g, 2, none⟩) hs)⟩
theorem Two.six {w wx : World} {a b : Rv} (h : Two w wx a b) : (wx.cell? ⟨w.heap.size, 0, none⟩ = some (.bool a.e) ∧ wx.cell? ⟨w.heap.size, 1, none⟩ = some (.int .i64 a.lo) ∧ wx.cell? ⟨w.heap.size, 2, none⟩ = some (.int .i64 a.hi) ∧ wx.cell? ⟨w.heap.size + 1, 0, none⟩ = some (.bool b.e) ∧ wx.cell? ⟨w.heap.size + 1, 1, none⟩ = some (.int .i64 b.lo) ∧ wx.cell? ⟨w.heap.size + 1, 2, none⟩ = some (.int .i64 b.hi)) ∧ Two w wx a b := ⟨⟨h.a0, h.a1, h.a2, h.b0, h.b1, h.b2⟩, h⟩
theorem six_call {w wx w' : World} {a b : Rv} (h : (wx.cell? ⟨w.heap.size, 0, none⟩ = some (.bool a.e) ∧ wx.cell? ⟨w.heap.size, 1, none⟩ = some (.int .i64 a.lo) ∧ wx.cell? ⟨w.heap.size, 2, none⟩ = some (.int .i64 a.hi) ∧ wx.cell? ⟨w.heap.size + 1, 0, none⟩ = some (.bool b.e) ∧ wx.cell? ⟨w.heap.size + 1, 1, none⟩ = some (.int .i64 b.lo) ∧ wx.cell? ⟨w.heap.size + 1, 2, none⟩ = some (.int .i64 b.hi)) ∧ Two w wx a b) (B : Below wx.heap.size wx w') : (w'.cell? ⟨w.heap.size, 0, none⟩ = some (.bool a.e) ∧ w'.cell? ⟨w.heap.size, 1, none⟩ = some (.int .i64 a.lo) ∧ w'.cell? ⟨w.heap.size, 2, none⟩ = some (.int .i64 a.hi) ∧ w'.cell? ⟨w.heap.size + 1, 0, none⟩ = some (.bool b.e) ∧ w'.cell? ⟨w.heap.size + 1, 1, none⟩ = some (.int .i64 b.lo) ∧ w'.cell? ⟨w.heap.size + 1, 2, none⟩ = some (.int .i64 b.hi)) ∧ Two w w' a b := (h.2.call B).six
theorem six_alloc {w wx : World} {a b : Rv} (h : (wx.cell? ⟨w.heap.size, 0, none⟩ = some (.bool a.e) ∧ wx.cell? ⟨w.heap.size, 1, none⟩ = some (.int .i64 a.lo) ∧ wx.cell? ⟨w.heap.size, 2, none⟩ = some (.int .i64 a.hi) ∧ wx.cell? ⟨w.heap.size + 1, 0, none⟩ = some (.bool b.e) ∧ wx.cell? ⟨w.heap.size + 1, 1, none⟩ = some (.int .i64 b.lo) ∧ wx.cell? ⟨w.heap.size + 1, 2, none⟩ = some (.int .i64 b.hi)) ∧ Two w wx a b) (o : Obj) : ((wx.alloc o).cell? ⟨w.heap.size, 0, none⟩ = some (.bool a.e) ∧ (wx.alloc o).cell? ⟨w.heap.size, 1, none⟩ = some (.int .i64 a.lo) ∧ (wx.alloc o).cell? ⟨w.heap.size, 2, none⟩ = some (.int .i64 a.hi) ∧ (wx.alloc o).cell? ⟨w.heap.size + 1, 0, none⟩ = some (.bool b.e) ∧ (wx.alloc o).cell? ⟨w.heap.size + 1, 1, none⟩ = some (.int .i64 b.lo) ∧ (wx.alloc o).cell? ⟨w.heap.size + 1, 2, none⟩ = some (.int .i64 b.hi)) ∧ Two w (wx.alloc o) a b := (h.2.alloc o).six
theorem Put.far {w wx : World} {g0 : Nat} {c : Rv} (h : Put w wx g0 c) {g i : Nat} (hg : g0 < g) (v : Value) : Put w (wx.setCell ⟨g, i, none⟩ v) g0 c :=
  ⟨h.lo, by simpa [World.setCell] using h.hi, by rw [World.cell?_setCell_other _ _ _ _ (by simp <;> omega)]; exact h.c0, by rw [World.cell?_setCell_other _ _ _ _ (by simp <;> omega)]; exact h.c1, by rw [World.cell?_setCell_other _ _ _ _ (by simp <;> omega)]; exact h.c2⟩
theorem sev_call {w wx w' : World} {a b c : Rv} {g0 : Nat} (h : (wx.cell? ⟨w.heap.size, 0, none⟩ = some (.bool a.e) ∧ wx.cell? ⟨w.heap.size, 1, none⟩ = some (.int .i64 a.lo) ∧ wx.cell? ⟨w.heap.size, 2, none⟩ = some (.int .i64 a.hi) ∧ wx.cell? ⟨w.heap.size + 1, 0, none⟩ = some (.bool b.e) ∧ wx.cell? ⟨w.heap.size + 1, 1, none⟩ = some (.int .i64 b.lo) ∧ wx.cell? ⟨w.heap.size + 1, 2, none⟩ = some (.int .i64 b.hi)) ∧ (Two w wx a b ∧ Put w wx g0 c)) (B : Below wx.heap.size wx w') : (w'.cell? ⟨w.heap.size, 0, none⟩ = some (.bool a.e) ∧ w'.cell? ⟨w.heap.size, 1, none⟩ = some (.int .i64 a.lo) ∧ w'.cell? ⟨w.heap.size, 2, none⟩ = some (.int .i64 a.hi) ∧ w'.cell? ⟨w.heap.size + 1, 0, none⟩ = some (.bool b.e) ∧ w'.cell? ⟨w.heap.size + 1, 1, none⟩ = some (.int .i64 b.lo) ∧ w'.cell? ⟨w.heap.size + 1, 2, none⟩ = some (.int .i64 b.hi)) ∧ (Two w w' a b ∧ Put w w' g0 c) := ⟨(h.2.1.call B).six.1, h.2.1.call B, h.2.2.call B⟩
theorem sev_alloc {w wx : World} {a b c : Rv} {g0 : Nat} (h : (wx.cell? ⟨w.heap.size, 0, none⟩ = some (.bool a.e) ∧ wx.cell? ⟨w.heap.size, 1, none⟩ = some (.int .i64 a.lo) ∧ wx.cell? ⟨w.heap.size, 2, none⟩ = some (.int .i64 a.hi) ∧ wx.cell? ⟨w.heap.size + 1, 0, none⟩ = some (.bool b.e) ∧ wx.cell? ⟨w.heap.size + 1, 1, none⟩ = some (.int .i64 b.lo) ∧ wx.cell? ⟨w.heap.size + 1, 2, none⟩ = some (.int .i64 b.hi)) ∧ (Two w wx a b ∧ Put w wx g0 c)) (o : Obj) : ((wx.alloc o).cell? ⟨w.heap.size, 0, none⟩ = some (.bool a.e) ∧ (wx.alloc o).cell? ⟨w.heap.size, 1, none⟩ = some (.int .i64 a.lo) ∧ (wx.alloc o).cell? ⟨w.heap.size, 2, none⟩ = some (.int .i64 a.hi) ∧ (wx.alloc o).cell? ⟨w.heap.size + 1, 0, none⟩ = some (.bool b.e) ∧ (wx.alloc o).cell? ⟨w.heap.size + 1, 1, none⟩ = some (.int .i64 b.lo) ∧ (wx.alloc o).cell? ⟨w.heap.size + 1, 2, none⟩ = some (.int .i64 b.hi)) ∧ (Two w (wx.alloc o) a b ∧ Put w (wx.alloc o) g0 c) := sev_call h ((Below.refl _ _).alloc (Nat.le_refl _) o)
theorem sev_set {w wx : World} {a b c : Rv} {g0 : Nat} (h : (wx.cell? ⟨w.heap.size, 0, none⟩ = some (.bool a.e) ∧ wx.cell? ⟨w.heap.size, 1, none⟩ = some (.int .i64 a.lo) ∧ wx.cell? ⟨w.heap.size, 2, none⟩ = some (.int .i64 a.hi) ∧ wx.cell? ⟨w.heap.size + 1, 0, none⟩ = some (.bool b.e) ∧ wx.cell? ⟨w.heap.size + 1, 1, none⟩ = some (.int .i64 b.lo) ∧ wx.cell? ⟨w.heap.size + 1, 2, none⟩ = some (.int .i64 b.hi)) ∧ (Two w wx a b ∧ Put w wx g0 c)) {g : Nat} (hg : w.heap.size + 1 < g) (hg0 : g0 < g) (x y z : Value) : ((((wx.setCell ⟨g, 0, none⟩ x).setCell ⟨g, 1, none⟩ y).setCell ⟨g, 2, none⟩ z).cell? ⟨w.heap.size, 0, none⟩ = some (.bool a.e) ∧ (((wx.setCell ⟨g, 0, none⟩ x).setCell ⟨g, 1, none⟩ y).setCell ⟨g, 2, none⟩ z).cell? ⟨w.heap.size, 1, none⟩ = some (.int .i64 a.lo) ∧ (((wx.setCell ⟨g, 0, none⟩ x).setCell ⟨g, 1, none⟩ y).setCell ⟨g, 2, none⟩ z).cell? ⟨w.heap.size, 2, none⟩ = some (.int .i64 a.hi) ∧ (((wx.setCell ⟨g, 0, none⟩ x).setCell ⟨g, 1, none⟩ y).setCell ⟨g, 2, none⟩ z).cell? ⟨w.heap.size + 1, 0, none⟩ = some (.bool b.e) ∧ (((wx.setCell ⟨g, 0, none⟩ x).setCell ⟨g, 1, none⟩ y).setCell ⟨g, 2, none⟩ z).cell? ⟨w.heap.size + 1, 1, none⟩ = some (.int .i64 b.lo) ∧ (((wx.setCell ⟨g, 0, none⟩ x).setCell ⟨g, 1, none⟩ y).setCell ⟨g, 2, none⟩ z).cell? ⟨w.heap.size + 1, 2, none⟩ = some (.int .i64 b.hi)) ∧ (Two w (((wx.setCell ⟨g, 0, none⟩ x).setCell ⟨g, 1, none⟩ y).setCell ⟨g, 2, none⟩ z) a b ∧ Put w (((wx.setCell ⟨g, 0, none⟩ x).setCell ⟨g, 1, none⟩ y).setCell ⟨g, 2, none⟩ z) g0 c) :=
  ⟨(((h.2.1.set hg 0 x).set hg 1 y).set hg 2 z).six.1, ((h.2.1.set hg 0 x).set hg 1 y).set hg 2 z, ((h.2.2.far hg0 x).far hg0 y).far hg0 z⟩
theorem six_set {w wx : World} {a b : Rv} (h : (wx.cell? ⟨w.heap.size, 0, none⟩ = some (.bool a.e) ∧ wx.cell? ⟨w.heap.size, 1, none⟩ = some (.int .i64 a.lo) ∧ wx.cell? ⟨w.heap.size, 2, none⟩ = some (.int .i64 a.hi) ∧ wx.cell? ⟨w.heap.size + 1, 0, none⟩ = some (.bool b.e) ∧ wx.cell? ⟨w.heap.size + 1, 1, none⟩ = some (.int .i64 b.lo) ∧ wx.cell? ⟨w.heap.size + 1, 2, none⟩ = some (.int .i64 b.hi)) ∧ Two w wx a b) {g : Nat} (hg : w.heap.size + 1 < g) (x y z : Value) : ((((wx.setCell ⟨g, 0, none⟩ x).setCell ⟨g, 1, none⟩ y).setCell ⟨g, 2, none⟩ z).cell? ⟨w.heap.size, 0, none⟩ = some (.bool a.e) ∧ (((wx.setCell ⟨g, 0, none⟩ x).setCell ⟨g, 1, none⟩ y).setCell ⟨g, 2, none⟩ z).cell? ⟨w.heap.size, 1, none⟩ = some (.int .i64 a.lo) ∧ (((wx.setCell ⟨g, 0, none⟩ x).setCell ⟨g, 1, none⟩ y).setCell ⟨g, 2, none⟩ z).cell? ⟨w.heap.size, 2, none⟩ = some (.int .i64 a.hi) ∧ (((wx.setCell ⟨g, 0, none⟩ x).setCell ⟨g, 1, none⟩ y).setCell ⟨g, 2, none⟩ z).cell? ⟨w.heap.size + 1, 0, none⟩ = some (.bool b.e) ∧ (((wx.setCell ⟨g, 0, none⟩ x).setCell ⟨g, 1, none⟩ y).setCell ⟨g, 2, none⟩ z).cell? ⟨w.heap.size + 1, 1, none⟩ = some (.int .i64 b.lo) ∧ (((wx.setCell ⟨g, 0, none⟩ x).setCell ⟨g, 1, none⟩ y).setCell ⟨g, 2, none⟩ z).cell? ⟨w.heap.size + 1, 2, none⟩ = some (.int .i64 b.hi)) ∧ Two w (((wx.setCell ⟨g, 0, none⟩ x).setCell ⟨g, 1, none⟩ y).setCell ⟨g, 2, none⟩ z) a b := (((h.2.set hg 0 x).set hg 1 y).set hg 2 z).six
set_option maxRecDepth 100000 in
set_option maxHeartbeats 40000000 in
theorem walk (m0_0 : Bool) (m0_1 : Int) (m0_2 : Int) (w0_1 : (Lit.int .i64 m0_1).wf = true) (w0_2 : (Lit.int .i64 m0_2).wf = true) (m1_0 : Bool) (m1_1 : Int) (m1_2 : Int) (w1_1 : (Lit.int .i64 m1_1).wf = true) (w1_2 : (Lit.int .i64 m1_2).wf = true) (w : World) :
    Calls Try.prog 6 #[.agg #[.bool m0_0, .int .i64 m0_1, .int .i64 m0_2], .agg #[.bool m1_0, .int .i64 m1_1, .int .i64 m1_2]] w fun e w' => e = .returned (.bool true) ∧ Below w.heap.size w w' := by
  go_enter Try.func6, Try.ntmps6
  go_upto_region 1 with fail
  go_cut [5, 6] (fun v5 v6 wx => ∃ g, v5 = .pointer (some ⟨g, 0, none⟩) ∧ v6 = .bool (Rv.good ⟨m0_0, m0_1, m0_2⟩ && Rv.good ⟨m1_0, m1_1, m1_2⟩) ∧ Two w wx ⟨m0_0, m0_1, m0_2⟩ ⟨m1_0, m1_1, m1_2⟩ ∧ Put w wx g (bothR (twoR 5) ⟨m0_0, m0_1, m0_2⟩ ⟨m1_0, m1_1, m1_2⟩))
  case first =>
    have H0 : Two w ((w.alloc (.cells #[.bool m0_0, .int .i64 m0_1, .int .i64 m0_2] 23)).alloc (.cells #[.bool m1_0, .int .i64 m1_1, .int .i64 m1_2] 23)).drew ⟨m0_0, m0_1, m0_2⟩ ⟨m1_0, m1_1, m1_2⟩ := ⟨by repeat (first | exact Below.refl _ _ | refine Below.drew ?_ | refine Below.alloc ?_ (by simp; try omega) _), by simp, by go_simp, by go_simp, by go_simp, by go_simp, by go_simp, by go_simp⟩
    refine wp_region_noPanic ?_
    refine wp_region_held_drew (S := fun w' => (w'.cell? ⟨w.heap.size, 0, none⟩ = some (.bool m0_0) ∧ w'.cell? ⟨w.heap.size, 1, none⟩ = some (.int .i64 m0_1) ∧ w'.cell? ⟨w.heap.size, 2, none⟩ = some (.int .i64 m0_2) ∧ w'.cell? ⟨w.heap.size + 1, 0, none⟩ = some (.bool m1_0) ∧ w'.cell? ⟨w.heap.size + 1, 1, none⟩ = some (.int .i64 m1_1) ∧ w'.cell? ⟨w.heap.size + 1, 2, none⟩ = some (.int .i64 m1_2)) ∧ Two w w' ⟨m0_0, m0_1, m0_2⟩ ⟨m1_0, m1_1, m1_2⟩) (by kernel_rfl) ?_ (fun hHeld => ?_)
    · (try dsimp only); (first | exact H0.six | assumption | exact six_alloc (a := ⟨m0_0, m0_1, m0_2⟩) (b := ⟨m1_0, m1_1, m1_2⟩) (by assumption) _ | exact six_call (a := ⟨m0_0, m0_1, m0_2⟩) (b := ⟨m1_0, m1_1, m1_2⟩) (by assumption) B1 | exact six_call (a := ⟨m0_0, m0_1, m0_2⟩) (b := ⟨m1_0, m1_1, m1_2⟩) (by assumption) B2 | exact six_call (a := ⟨m0_0, m0_1, m0_2⟩) (b := ⟨m1_0, m1_1, m1_2⟩) (by assumption) B3 | exact six_set (a := ⟨m0_0, m0_1, m0_2⟩) (b := ⟨m1_0, m1_1, m1_2⟩) (by assumption) (by omega) _ _ _)
    refine wpAnyH_take (i := 0) (v := ?v113) rfl (by kernel_rfl) (by kernel_rfl) (by kernel_rfl) (fun _ _ _ h => h) (Or.inl ⟨by rfl, ?hy113⟩) (by assumption) ?_
    case hy113 => (intro w hSw; (try dsimp only at hSw); go_simp; try with_reducible rfl)
    try simp only [Act.put, List.setIfInBounds_toArray, List.set_cons_zero, List.set_cons_succ]
    refine wpAnyH_take (i := 2) (v := ?v114) rfl (by kernel_rfl) (by kernel_rfl) (by kernel_rfl) (fun _ _ _ h => h) (Or.inl ⟨by rfl, ?hy114⟩) (by assumption) ?_
    case hy114 => (intro w hSw; (try dsimp only at hSw); go_simp; try with_reducible rfl)
    try simp only [Act.put, List.setIfInBounds_toArray, List.set_cons_zero, List.set_cons_succ]
    refine wpAnyH_ready (rs := [1, 8]) (by kernel_rfl) (by simp) ?_
    refine AllReadyH.cons rfl (fun K hK => ?_) ?_
    · go_simp
      (go_at_call 10; go_fit (to_range m0_0 m0_1 m0_2 _); rintro e w1 ⟨rfl, B1⟩; have hs1 := B1.size; (try simp at hs1); obtain ⟨c1, f1⟩ := bcellR B1; have q1_0 := fun o => c1 (w.heap.size) o (by first | omega | (simp <;> omega)); have r1_0 := fun o => f1 (w.heap.size) o (by first | omega | (simp <;> omega)); have q1_1 := fun o => c1 (w.heap.size + 1) o (by first | omega | (simp <;> omega)); have r1_1 := fun o => f1 (w.heap.size + 1) o (by first | omega | (simp <;> omega)); clear c1 f1; go_wp2_with fail)
      refine hK.out _ _ ?_ (fun hHeld => ?_)
      · (try dsimp only); (first | exact H0.six | assumption | exact six_alloc (a := ⟨m0_0, m0_1, m0_2⟩) (b := ⟨m1_0, m1_1, m1_2⟩) (by assumption) _ | exact six_call (a := ⟨m0_0, m0_1, m0_2⟩) (b := ⟨m1_0, m1_1, m1_2⟩) (by assumption) B1 | exact six_call (a := ⟨m0_0, m0_1, m0_2⟩) (b := ⟨m1_0, m1_1, m1_2⟩) (by assumption) B2 | exact six_call (a := ⟨m0_0, m0_1, m0_2⟩) (b := ⟨m1_0, m1_1, m1_2⟩) (by assumption) B3 | exact six_set (a := ⟨m0_0, m0_1, m0_2⟩) (b := ⟨m1_0, m1_1, m1_2⟩) (by assumption) (by omega) _ _ _)
      clear hK K
      try simp only [Act.put, List.setIfInBounds_toArray, List.set_cons_zero, List.set_cons_succ]
      refine wpAnyH_ready (rs := [3, 8]) (by kernel_rfl) (by simp) ?_
      refine AllReadyH.cons rfl (fun K hK => ?_) ?_
      · go_simp
        (go_at_call 10; go_fit (to_range m1_0 m1_1 m1_2 _); rintro e w2 ⟨rfl, B2⟩; have hs2 := B2.size; (try simp at hs2); obtain ⟨c2, f2⟩ := bcellR B2; have q2_0 := fun o => c2 (w.heap.size) o (by first | omega | (simp <;> omega)); have r2_0 := fun o => f2 (w.heap.size) o (by first | omega | (simp <;> omega)); have q2_1 := fun o => c2 (w.heap.size + 1) o (by first | omega | (simp <;> omega)); have r2_1 := fun o => f2 (w.heap.size + 1) o (by first | omega | (simp <;> omega)); clear c2 f2; go_wp2_with fail)
        refine hK.out _ _ ?_ (fun hHeld => ?_)
        · (try dsimp only); (first | exact H0.six | assumption | exact six_alloc (a := ⟨m0_0, m0_1, m0_2⟩) (b := ⟨m1_0, m1_1, m1_2⟩) (by assumption) _ | exact six_call (a := ⟨m0_0, m0_1, m0_2⟩) (b := ⟨m1_0, m1_1, m1_2⟩) (by assumption) B1 | exact six_call (a := ⟨m0_0, m0_1, m0_2⟩) (b := ⟨m1_0, m1_1, m1_2⟩) (by assumption) B2 | exact six_call (a := ⟨m0_0, m0_1, m0_2⟩) (b := ⟨m1_0, m1_1, m1_2⟩) (by assumption) B3 | exact six_set (a := ⟨m0_0, m0_1, m0_2⟩) (b := ⟨m1_0, m1_1, m1_2⟩) (by assumption) (by omega) _ _ _)
        clear hK K
        try simp only [Act.put, List.setIfInBounds_toArray, List.set_cons_zero, List.set_cons_succ]
        refine wpAnyH_ready (rs := [4, 8]) (by kernel_rfl) (by simp) ?_
        refine AllReadyH.cons rfl (fun K hK => ?_) ?_
        · go_simp
          (go_at_call 17; go_fit (spec_told ⟨m0_0, m0_1, m0_2⟩ ⟨m1_0, m1_1, m1_2⟩ _); rintro e w3 ⟨rfl, B3⟩; have hs3 := B3.size; (try simp at hs3); obtain ⟨c3, f3⟩ := bcellR B3; have q3_0 := fun o => c3 (w.heap.size) o (by first | omega | (simp <;> omega)); have r3_0 := fun o => f3 (w.heap.size) o (by first | omega | (simp <;> omega)); have q3_1 := fun o => c3 (w.heap.size + 1) o (by first | omega | (simp <;> omega)); have r3_1 := fun o => f3 (w.heap.size + 1) o (by first | omega | (simp <;> omega)); clear c3 f3; go_wp2_with fail)
          refine hK.out _ _ ?_ (fun hHeld => ?_)
          · (try dsimp only); (first | exact H0.six | assumption | exact six_alloc (a := ⟨m0_0, m0_1, m0_2⟩) (b := ⟨m1_0, m1_1, m1_2⟩) (by assumption) _ | exact six_call (a := ⟨m0_0, m0_1, m0_2⟩) (b := ⟨m1_0, m1_1, m1_2⟩) (by assumption) B1 | exact six_call (a := ⟨m0_0, m0_1, m0_2⟩) (b := ⟨m1_0, m1_1, m1_2⟩) (by assumption) B2 | exact six_call (a := ⟨m0_0, m0_1, m0_2⟩) (b := ⟨m1_0, m1_1, m1_2⟩) (by assumption) B3 | exact six_set (a := ⟨m0_0, m0_1, m0_2⟩) (b := ⟨m1_0, m1_1, m1_2⟩) (by assumption) (by omega) _ _ _)
          clear hK K
          try simp only [Act.put, List.setIfInBounds_toArray, List.set_cons_zero, List.set_cons_succ]
          refine wpAnyH_take (i := 5) (v := ?v115) rfl (by kernel_rfl) (by kernel_rfl) (by kernel_rfl) (fun _ _ _ h => h) (Or.inl ⟨by rfl, ?hy115⟩) (by assumption) ?_
          case hy115 => (intro w hSw; (try dsimp only at hSw); go_simp; try with_reducible rfl)
          try simp only [Act.put, List.setIfInBounds_toArray, List.set_cons_zero, List.set_cons_succ]
          refine wpAnyH_take (i := 6) (v := ?v116) rfl (by kernel_rfl) (by kernel_rfl) (by kernel_rfl) (fun _ _ _ h => h) (Or.inl ⟨by rfl, ?hy116⟩) (by assumption) ?_
          case hy116 => (intro w hSw; (try dsimp only at hSw); go_simp; try with_reducible rfl)
          try simp only [Act.put, List.setIfInBounds_toArray, List.set_cons_zero, List.set_cons_succ]
          refine wpAnyH_take (i := 7) (v := ?v117) rfl (by kernel_rfl) (by kernel_rfl) (by kernel_rfl) (fun _ _ _ h => h) (Or.inl ⟨by rfl, ?hy117⟩) (by assumption) ?_
          case hy117 => (intro w hSw; (try dsimp only at hSw); go_simp; try with_reducible rfl)
          try simp only [Act.put, List.setIfInBounds_toArray, List.set_cons_zero, List.set_cons_succ]
          refine wpAnyH_ready (rs := [8]) (by kernel_rfl) (by simp) ?_
          refine AllReadyH.cons rfl (fun K hK => ?_) AllReadyH.nil
          go_simp
          refine hK.out _ _ ?_ (fun hHeld => ?_)
          · (try dsimp only); (first | exact H0.six | assumption | exact six_alloc (a := ⟨m0_0, m0_1, m0_2⟩) (b := ⟨m1_0, m1_1, m1_2⟩) (by assumption) _ | exact six_call (a := ⟨m0_0, m0_1, m0_2⟩) (b := ⟨m1_0, m1_1, m1_2⟩) (by assumption) B1 | exact six_call (a := ⟨m0_0, m0_1, m0_2⟩) (b := ⟨m1_0, m1_1, m1_2⟩) (by assumption) B2 | exact six_call (a := ⟨m0_0, m0_1, m0_2⟩) (b := ⟨m1_0, m1_1, m1_2⟩) (by assumption) B3 | exact six_set (a := ⟨m0_0, m0_1, m0_2⟩) (b := ⟨m1_0, m1_1, m1_2⟩) (by assumption) (by omega) _ _ _)
          clear hK K
          try simp only [Act.put, List.setIfInBounds_toArray, List.set_cons_zero, List.set_cons_succ]
          refine wpAnyH_ready (rs := [9]) (by kernel_rfl) (by simp) ?_
          refine AllReadyH.cons rfl (fun K hK => ?_) AllReadyH.nil
          go_simp
          refine hK.out _ _ ?_ (fun hHeld => ?_)
          · (try dsimp only); (first | exact H0.six | assumption | exact six_alloc (a := ⟨m0_0, m0_1, m0_2⟩) (b := ⟨m1_0, m1_1, m1_2⟩) (by assumption) _ | exact six_call (a := ⟨m0_0, m0_1, m0_2⟩) (b := ⟨m1_0, m1_1, m1_2⟩) (by assumption) B1 | exact six_call (a := ⟨m0_0, m0_1, m0_2⟩) (b := ⟨m1_0, m1_1, m1_2⟩) (by assumption) B2 | exact six_call (a := ⟨m0_0, m0_1, m0_2⟩) (b := ⟨m1_0, m1_1, m1_2⟩) (by assumption) B3 | exact six_set (a := ⟨m0_0, m0_1, m0_2⟩) (b := ⟨m1_0, m1_1, m1_2⟩) (by assumption) (by omega) _ _ _)
          clear hK K
          try simp only [Act.put, List.setIfInBounds_toArray, List.set_cons_zero, List.set_cons_succ]
          refine wpAnyH_ready (rs := [10]) (by kernel_rfl) (by simp) ?_
          refine AllReadyH.cons rfl (fun K hK => ?_) AllReadyH.nil
          go_simp
          refine hK.out _ _ ?_ (fun hHeld => ?_)
          · (try dsimp only); (first | exact H0.six | assumption | exact six_alloc (a := ⟨m0_0, m0_1, m0_2⟩) (b := ⟨m1_0, m1_1, m1_2⟩) (by assumption) _ | exact six_call (a := ⟨m0_0, m0_1, m0_2⟩) (b := ⟨m1_0, m1_1, m1_2⟩) (by assumption) B1 | exact six_call (a := ⟨m0_0, m0_1, m0_2⟩) (b := ⟨m1_0, m1_1, m1_2⟩) (by assumption) B2 | exact six_call (a := ⟨m0_0, m0_1, m0_2⟩) (b := ⟨m1_0, m1_1, m1_2⟩) (by assumption) B3 | exact six_set (a := ⟨m0_0, m0_1, m0_2⟩) (b := ⟨m1_0, m1_1, m1_2⟩) (by assumption) (by omega) _ _ _)
          clear hK K
          try simp only [Act.put, List.setIfInBounds_toArray, List.set_cons_zero, List.set_cons_succ]
          refine wpAnyH_done (by kernel_rfl) ?_ _
          refine NoPanic.normal ?_
          (rename_i hh; go_wp2_with fail; go_meet; exact ⟨w3.heap.size, rfl, rfl, hh.2, ⟨by omega, by first | (simp [World.setCell]; done) | (simp [World.setCell]; omega) | omega, by go_simp, by go_simp, by go_simp⟩⟩)
        refine AllReadyH.cons rfl (fun K hK => ?_) AllReadyH.nil
        go_simp
        refine hK.out _ _ ?_ (fun hHeld => ?_)
        · (try dsimp only); (first | exact H0.six | assumption | exact six_alloc (a := ⟨m0_0, m0_1, m0_2⟩) (b := ⟨m1_0, m1_1, m1_2⟩) (by assumption) _ | exact six_call (a := ⟨m0_0, m0_1, m0_2⟩) (b := ⟨m1_0, m1_1, m1_2⟩) (by assumption) B1 | exact six_call (a := ⟨m0_0, m0_1, m0_2⟩) (b := ⟨m1_0, m1_1, m1_2⟩) (by assumption) B2 | exact six_call (a := ⟨m0_0, m0_1, m0_2⟩) (b := ⟨m1_0, m1_1, m1_2⟩) (by assumption) B3 | exact six_set (a := ⟨m0_0, m0_1, m0_2⟩) (b := ⟨m1_0, m1_1, m1_2⟩) (by assumption) (by omega) _ _ _)
        clear hK K
        try simp only [Act.put, List.setIfInBounds_toArray, List.set_cons_zero, List.set_cons_succ]
        refine wpAnyH_ready (rs := [4]) (by kernel_rfl) (by simp) ?_
        refine AllReadyH.cons rfl (fun K hK => ?_) AllReadyH.nil
        go_simp
        (go_at_call 17; go_fit (spec_told ⟨m0_0, m0_1, m0_2⟩ ⟨m1_0, m1_1, m1_2⟩ _); rintro e w3 ⟨rfl, B3⟩; have hs3 := B3.size; (try simp at hs3); obtain ⟨c3, f3⟩ := bcellR B3; have q3_0 := fun o => c3 (w.heap.size) o (by first | omega | (simp <;> omega)); have r3_0 := fun o => f3 (w.heap.size) o (by first | omega | (simp <;> omega)); have q3_1 := fun o => c3 (w.heap.size + 1) o (by first | omega | (simp <;> omega)); have r3_1 := fun o => f3 (w.heap.size + 1) o (by first | omega | (simp <;> omega)); have q3_2 := fun o => c3 (w2.heap.size) o (by first | omega | (simp <;> omega)); have r3_2 := fun o => f3 (w2.heap.size) o (by first | omega | (simp <;> omega)); clear c3 f3; go_wp2_with fail)
        refine hK.out _ _ ?_ (fun hHeld => ?_)
        · (try dsimp only); (first | exact H0.six | assumption | exact six_alloc (a := ⟨m0_0, m0_1, m0_2⟩) (b := ⟨m1_0, m1_1, m1_2⟩) (by assumption) _ | exact six_call (a := ⟨m0_0, m0_1, m0_2⟩) (b := ⟨m1_0, m1_1, m1_2⟩) (by assumption) B1 | exact six_call (a := ⟨m0_0, m0_1, m0_2⟩) (b := ⟨m1_0, m1_1, m1_2⟩) (by assumption) B2 | exact six_call (a := ⟨m0_0, m0_1, m0_2⟩) (b := ⟨m1_0, m1_1, m1_2⟩) (by assumption) B3 | exact six_set (a := ⟨m0_0, m0_1, m0_2⟩) (b := ⟨m1_0, m1_1, m1_2⟩) (by assumption) (by omega) _ _ _)
        clear hK K
        try simp only [Act.put, List.setIfInBounds_toArray, List.set_cons_zero, List.set_cons_succ]
        refine wpAnyH_take (i := 5) (v := ?v118) rfl (by kernel_rfl) (by kernel_rfl) (by kernel_rfl) (fun _ _ _ h => h) (Or.inl ⟨by rfl, ?hy118⟩) (by assumption) ?_
        case hy118 => (intro w hSw; (try dsimp only at hSw); go_simp; try with_reducible rfl)
        try simp only [Act.put, List.setIfInBounds_toArray, List.set_cons_zero, List.set_cons_succ]
        refine wpAnyH_take (i := 6) (v := ?v119) rfl (by kernel_rfl) (by kernel_rfl) (by kernel_rfl) (fun _ _ _ h => h) (Or.inl ⟨by rfl, ?hy119⟩) (by assumption) ?_
        case hy119 => (intro w hSw; (try dsimp only at hSw); go_simp; try with_reducible rfl)
        try simp only [Act.put, List.setIfInBounds_toArray, List.set_cons_zero, List.set_cons_succ]
        refine wpAnyH_take (i := 7) (v := ?v120) rfl (by kernel_rfl) (by kernel_rfl) (by kernel_rfl) (fun _ _ _ h => h) (Or.inl ⟨by rfl, ?hy120⟩) (by assumption) ?_
        case hy120 => (intro w hSw; (try dsimp only at hSw); go_simp; try with_reducible rfl)
        try simp only [Act.put, List.setIfInBounds_toArray, List.set_cons_zero, List.set_cons_succ]
        refine wpAnyH_ready (rs := [9]) (by kernel_rfl) (by simp) ?_
        refine AllReadyH.cons rfl (fun K hK => ?_) AllReadyH.nil
        go_simp
        refine hK.out _ _ ?_ (fun hHeld => ?_)
        · (try dsimp only); (first | exact H0.six | assumption | exact six_alloc (a := ⟨m0_0, m0_1, m0_2⟩) (b := ⟨m1_0, m1_1, m1_2⟩) (by assumption) _ | exact six_call (a := ⟨m0_0, m0_1, m0_2⟩) (b := ⟨m1_0, m1_1, m1_2⟩) (by assumption) B1 | exact six_call (a := ⟨m0_0, m0_1, m0_2⟩) (b := ⟨m1_0, m1_1, m1_2⟩) (by assumption) B2 | exact six_call (a := ⟨m0_0, m0_1, m0_2⟩) (b := ⟨m1_0, m1_1, m1_2⟩) (by assumption) B3 | exact six_set (a := ⟨m0_0, m0_1, m0_2⟩) (b := ⟨m1_0, m1_1, m1_2⟩) (by assumption) (by omega) _ _ _)
        clear hK K
        try simp only [Act.put, List.setIfInBounds_toArray, List.set_cons_zero, List.set_cons_succ]
        refine wpAnyH_ready (rs := [10]) (by kernel_rfl) (by simp) ?_
        refine AllReadyH.cons rfl (fun K hK => ?_) AllReadyH.nil
        go_simp
        refine hK.out _ _ ?_ (fun hHeld => ?_)
        · (try dsimp only); (first | exact H0.six | assumption | exact six_alloc (a := ⟨m0_0, m0_1, m0_2⟩) (b := ⟨m1_0, m1_1, m1_2⟩) (by assumption) _ | exact six_call (a := ⟨m0_0, m0_1, m0_2⟩) (b := ⟨m1_0, m1_1, m1_2⟩) (by assumption) B1 | exact six_call (a := ⟨m0_0, m0_1, m0_2⟩) (b := ⟨m1_0, m1_1, m1_2⟩) (by assumption) B2 | exact six_call (a := ⟨m0_0, m0_1, m0_2⟩) (b := ⟨m1_0, m1_1, m1_2⟩) (by assumption) B3 | exact six_set (a := ⟨m0_0, m0_1, m0_2⟩) (b := ⟨m1_0, m1_1, m1_2⟩) (by assumption) (by omega) _ _ _)
        clear hK K
        try simp only [Act.put, List.setIfInBounds_toArray, List.set_cons_zero, List.set_cons_succ]
        refine wpAnyH_done (by kernel_rfl) ?_ _
        refine NoPanic.normal ?_
        (rename_i hh; go_wp2_with fail; go_meet; exact ⟨w2.heap.size, rfl, rfl, hh.2, ⟨by omega, by first | (simp [World.setCell]; done) | (simp [World.setCell]; omega) | omega, by go_simp, by go_simp, by go_simp⟩⟩)
      refine AllReadyH.cons rfl (fun K hK => ?_) AllReadyH.nil
      go_simp
      refine hK.out _ _ ?_ (fun hHeld => ?_)
      · (try dsimp only); (first | exact H0.six | assumption | exact six_alloc (a := ⟨m0_0, m0_1, m0_2⟩) (b := ⟨m1_0, m1_1, m1_2⟩) (by assumption) _ | exact six_call (a := ⟨m0_0, m0_1, m0_2⟩) (b := ⟨m1_0, m1_1, m1_2⟩) (by assumption) B1 | exact six_call (a := ⟨m0_0, m0_1, m0_2⟩) (b := ⟨m1_0, m1_1, m1_2⟩) (by assumption) B2 | exact six_call (a := ⟨m0_0, m0_1, m0_2⟩) (b := ⟨m1_0, m1_1, m1_2⟩) (by assumption) B3 | exact six_set (a := ⟨m0_0, m0_1, m0_2⟩) (b := ⟨m1_0, m1_1, m1_2⟩) (by assumption) (by omega) _ _ _)
      clear hK K
      try simp only [Act.put, List.setIfInBounds_toArray, List.set_cons_zero, List.set_cons_succ]
      refine wpAnyH_ready (rs := [3]) (by kernel_rfl) (by simp) ?_
      refine AllReadyH.cons rfl (fun K hK => ?_) AllReadyH.nil
      go_simp
      (go_at_call 10; go_fit (to_range m1_0 m1_1 m1_2 _); rintro e w2 ⟨rfl, B2⟩; have hs2 := B2.size; (try simp at hs2); obtain ⟨c2, f2⟩ := bcellR B2; have q2_0 := fun o => c2 (w.heap.size) o (by first | omega | (simp <;> omega)); have r2_0 := fun o => f2 (w.heap.size) o (by first | omega | (simp <;> omega)); have q2_1 := fun o => c2 (w.heap.size + 1) o (by first | omega | (simp <;> omega)); have r2_1 := fun o => f2 (w.heap.size + 1) o (by first | omega | (simp <;> omega)); have q2_2 := fun o => c2 (w1.heap.size) o (by first | omega | (simp <;> omega)); have r2_2 := fun o => f2 (w1.heap.size) o (by first | omega | (simp <;> omega)); clear c2 f2; go_wp2_with fail)
      refine hK.out _ _ ?_ (fun hHeld => ?_)
      · (try dsimp only); (first | exact H0.six | assumption | exact six_alloc (a := ⟨m0_0, m0_1, m0_2⟩) (b := ⟨m1_0, m1_1, m1_2⟩) (by assumption) _ | exact six_call (a := ⟨m0_0, m0_1, m0_2⟩) (b := ⟨m1_0, m1_1, m1_2⟩) (by assumption) B1 | exact six_call (a := ⟨m0_0, m0_1, m0_2⟩) (b := ⟨m1_0, m1_1, m1_2⟩) (by assumption) B2 | exact six_call (a := ⟨m0_0, m0_1, m0_2⟩) (b := ⟨m1_0, m1_1, m1_2⟩) (by assumption) B3 | exact six_set (a := ⟨m0_0, m0_1, m0_2⟩) (b := ⟨m1_0, m1_1, m1_2⟩) (by assumption) (by omega) _ _ _)
      clear hK K
      try simp only [Act.put, List.setIfInBounds_toArray, List.set_cons_zero, List.set_cons_succ]
      refine wpAnyH_ready (rs := [4]) (by kernel_rfl) (by simp) ?_
      refine AllReadyH.cons rfl (fun K hK => ?_) AllReadyH.nil
      go_simp
      (go_at_call 17; go_fit (spec_told ⟨m0_0, m0_1, m0_2⟩ ⟨m1_0, m1_1, m1_2⟩ _); rintro e w3 ⟨rfl, B3⟩; have hs3 := B3.size; (try simp at hs3); obtain ⟨c3, f3⟩ := bcellR B3; have q3_0 := fun o => c3 (w.heap.size) o (by first | omega | (simp <;> omega)); have r3_0 := fun o => f3 (w.heap.size) o (by first | omega | (simp <;> omega)); have q3_1 := fun o => c3 (w.heap.size + 1) o (by first | omega | (simp <;> omega)); have r3_1 := fun o => f3 (w.heap.size + 1) o (by first | omega | (simp <;> omega)); have q3_2 := fun o => c3 (w1.heap.size) o (by first | omega | (simp <;> omega)); have r3_2 := fun o => f3 (w1.heap.size) o (by first | omega | (simp <;> omega)); clear c3 f3; go_wp2_with fail)
      refine hK.out _ _ ?_ (fun hHeld => ?_)
      · (try dsimp only); (first | exact H0.six | assumption | exact six_alloc (a := ⟨m0_0, m0_1, m0_2⟩) (b := ⟨m1_0, m1_1, m1_2⟩) (by assumption) _ | exact six_call (a := ⟨m0_0, m0_1, m0_2⟩) (b := ⟨m1_0, m1_1, m1_2⟩) (by assumption) B1 | exact six_call (a := ⟨m0_0, m0_1, m0_2⟩) (b := ⟨m1_0, m1_1, m1_2⟩) (by assumption) B2 | exact six_call (a := ⟨m0_0, m0_1, m0_2⟩) (b := ⟨m1_0, m1_1, m1_2⟩) (by assumption) B3 | exact six_set (a := ⟨m0_0, m0_1, m0_2⟩) (b := ⟨m1_0, m1_1, m1_2⟩) (by assumption) (by omega) _ _ _)
      clear hK K
      try simp only [Act.put, List.setIfInBounds_toArray, List.set_cons_zero, List.set_cons_succ]
      refine wpAnyH_take (i := 5) (v := ?v121) rfl (by kernel_rfl) (by kernel_rfl) (by kernel_rfl) (fun _ _ _ h => h) (Or.inl ⟨by rfl, ?hy121⟩) (by assumption) ?_
      case hy121 => (intro w hSw; (try dsimp only at hSw); go_simp; try with_reducible rfl)
      try simp only [Act.put, List.setIfInBounds_toArray, List.set_cons_zero, List.set_cons_succ]
      refine wpAnyH_take (i := 6) (v := ?v122) rfl (by kernel_rfl) (by kernel_rfl) (by kernel_rfl) (fun _ _ _ h => h) (Or.inl ⟨by rfl, ?hy122⟩) (by assumption) ?_
      case hy122 => (intro w hSw; (try dsimp only at hSw); go_simp; try with_reducible rfl)
      try simp only [Act.put, List.setIfInBounds_toArray, List.set_cons_zero, List.set_cons_succ]
      refine wpAnyH_take (i := 7) (v := ?v123) rfl (by kernel_rfl) (by kernel_rfl) (by kernel_rfl) (fun _ _ _ h => h) (Or.inl ⟨by rfl, ?hy123⟩) (by assumption) ?_
      case hy123 => (intro w hSw; (try dsimp only at hSw); go_simp; try with_reducible rfl)
      try simp only [Act.put, List.setIfInBounds_toArray, List.set_cons_zero, List.set_cons_succ]
      refine wpAnyH_ready (rs := [9]) (by kernel_rfl) (by simp) ?_
      refine AllReadyH.cons rfl (fun K hK => ?_) AllReadyH.nil
      go_simp
      refine hK.out _ _ ?_ (fun hHeld => ?_)
      · (try dsimp only); (first | exact H0.six | assumption | exact six_alloc (a := ⟨m0_0, m0_1, m0_2⟩) (b := ⟨m1_0, m1_1, m1_2⟩) (by assumption) _ | exact six_call (a := ⟨m0_0, m0_1, m0_2⟩) (b := ⟨m1_0, m1_1, m1_2⟩) (by assumption) B1 | exact six_call (a := ⟨m0_0, m0_1, m0_2⟩) (b := ⟨m1_0, m1_1, m1_2⟩) (by assumption) B2 | exact six_call (a := ⟨m0_0, m0_1, m0_2⟩) (b := ⟨m1_0, m1_1, m1_2⟩) (by assumption) B3 | exact six_set (a := ⟨m0_0, m0_1, m0_2⟩) (b := ⟨m1_0, m1_1, m1_2⟩) (by assumption) (by omega) _ _ _)
      clear hK K
      try simp only [Act.put, List.setIfInBounds_toArray, List.set_cons_zero, List.set_cons_succ]
      refine wpAnyH_ready (rs := [10]) (by kernel_rfl) (by simp) ?_
      refine AllReadyH.cons rfl (fun K hK => ?_) AllReadyH.nil
      go_simp
      refine hK.out _ _ ?_ (fun hHeld => ?_)
      · (try dsimp only); (first | exact H0.six | assumption | exact six_alloc (a := ⟨m0_0, m0_1, m0_2⟩) (b := ⟨m1_0, m1_1, m1_2⟩) (by assumption) _ | exact six_call (a := ⟨m0_0, m0_1, m0_2⟩) (b := ⟨m1_0, m1_1, m1_2⟩) (by assumption) B1 | exact six_call (a := ⟨m0_0, m0_1, m0_2⟩) (b := ⟨m1_0, m1_1, m1_2⟩) (by assumption) B2 | exact six_call (a := ⟨m0_0, m0_1, m0_2⟩) (b := ⟨m1_0, m1_1, m1_2⟩) (by assumption) B3 | exact six_set (a := ⟨m0_0, m0_1, m0_2⟩) (b := ⟨m1_0, m1_1, m1_2⟩) (by assumption) (by omega) _ _ _)
      clear hK K
      try simp only [Act.put, List.setIfInBounds_toArray, List.set_cons_zero, List.set_cons_succ]
      refine wpAnyH_done (by kernel_rfl) ?_ _
      refine NoPanic.normal ?_
      (rename_i hh; go_wp2_with fail; go_meet; exact ⟨w1.heap.size, rfl, rfl, hh.2, ⟨by omega, by first | (simp [World.setCell]; done) | (simp [World.setCell]; omega) | omega, by go_simp, by go_simp, by go_simp⟩⟩)
    refine AllReadyH.cons rfl (fun K hK => ?_) AllReadyH.nil
    go_simp
    refine hK.out _ _ ?_ (fun hHeld => ?_)
    · (try dsimp only); (first | exact H0.six | assumption | exact six_alloc (a := ⟨m0_0, m0_1, m0_2⟩) (b := ⟨m1_0, m1_1, m1_2⟩) (by assumption) _ | exact six_call (a := ⟨m0_0, m0_1, m0_2⟩) (b := ⟨m1_0, m1_1, m1_2⟩) (by assumption) B1 | exact six_call (a := ⟨m0_0, m0_1, m0_2⟩) (b := ⟨m1_0, m1_1, m1_2⟩) (by assumption) B2 | exact six_call (a := ⟨m0_0, m0_1, m0_2⟩) (b := ⟨m1_0, m1_1, m1_2⟩) (by assumption) B3 | exact six_set (a := ⟨m0_0, m0_1, m0_2⟩) (b := ⟨m1_0, m1_1, m1_2⟩) (by assumption) (by omega) _ _ _)
    clear hK K
    try simp only [Act.put, List.setIfInBounds_toArray, List.set_cons_zero, List.set_cons_succ]
    refine wpAnyH_ready (rs := [1]) (by kernel_rfl) (by simp) ?_
    refine AllReadyH.cons rfl (fun K hK => ?_) AllReadyH.nil
    go_simp
    (go_at_call 10; go_fit (to_range m0_0 m0_1 m0_2 _); rintro e w1 ⟨rfl, B1⟩; have hs1 := B1.size; (try simp at hs1); obtain ⟨c1, f1⟩ := bcellR B1; have q1_0 := fun o => c1 (w.heap.size) o (by first | omega | (simp <;> omega)); have r1_0 := fun o => f1 (w.heap.size) o (by first | omega | (simp <;> omega)); have q1_1 := fun o => c1 (w.heap.size + 1) o (by first | omega | (simp <;> omega)); have r1_1 := fun o => f1 (w.heap.size + 1) o (by first | omega | (simp <;> omega)); have q1_2 := fun o => c1 (w.heap.size + 1 + 1) o (by first | omega | (simp <;> omega)); have r1_2 := fun o => f1 (w.heap.size + 1 + 1) o (by first | omega | (simp <;> omega)); clear c1 f1; go_wp2_with fail)
    refine hK.out _ _ ?_ (fun hHeld => ?_)
    · (try dsimp only); (first | exact H0.six | assumption | exact six_alloc (a := ⟨m0_0, m0_1, m0_2⟩) (b := ⟨m1_0, m1_1, m1_2⟩) (by assumption) _ | exact six_call (a := ⟨m0_0, m0_1, m0_2⟩) (b := ⟨m1_0, m1_1, m1_2⟩) (by assumption) B1 | exact six_call (a := ⟨m0_0, m0_1, m0_2⟩) (b := ⟨m1_0, m1_1, m1_2⟩) (by assumption) B2 | exact six_call (a := ⟨m0_0, m0_1, m0_2⟩) (b := ⟨m1_0, m1_1, m1_2⟩) (by assumption) B3 | exact six_set (a := ⟨m0_0, m0_1, m0_2⟩) (b := ⟨m1_0, m1_1, m1_2⟩) (by assumption) (by omega) _ _ _)
    clear hK K
    try simp only [Act.put, List.setIfInBounds_toArray, List.set_cons_zero, List.set_cons_succ]
    refine wpAnyH_ready (rs := [3]) (by kernel_rfl) (by simp) ?_
    refine AllReadyH.cons rfl (fun K hK => ?_) AllReadyH.nil
    go_simp
    (go_at_call 10; go_fit (to_range m1_0 m1_1 m1_2 _); rintro e w2 ⟨rfl, B2⟩; have hs2 := B2.size; (try simp at hs2); obtain ⟨c2, f2⟩ := bcellR B2; have q2_0 := fun o => c2 (w.heap.size) o (by first | omega | (simp <;> omega)); have r2_0 := fun o => f2 (w.heap.size) o (by first | omega | (simp <;> omega)); have q2_1 := fun o => c2 (w.heap.size + 1) o (by first | omega | (simp <;> omega)); have r2_1 := fun o => f2 (w.heap.size + 1) o (by first | omega | (simp <;> omega)); have q2_2 := fun o => c2 (w.heap.size + 1 + 1) o (by first | omega | (simp <;> omega)); have r2_2 := fun o => f2 (w.heap.size + 1 + 1) o (by first | omega | (simp <;> omega)); clear c2 f2; go_wp2_with fail)
    refine hK.out _ _ ?_ (fun hHeld => ?_)
    · (try dsimp only); (first | exact H0.six | assumption | exact six_alloc (a := ⟨m0_0, m0_1, m0_2⟩) (b := ⟨m1_0, m1_1, m1_2⟩) (by assumption) _ | exact six_call (a := ⟨m0_0, m0_1, m0_2⟩) (b := ⟨m1_0, m1_1, m1_2⟩) (by assumption) B1 | exact six_call (a := ⟨m0_0, m0_1, m0_2⟩) (b := ⟨m1_0, m1_1, m1_2⟩) (by assumption) B2 | exact six_call (a := ⟨m0_0, m0_1, m0_2⟩) (b := ⟨m1_0, m1_1, m1_2⟩) (by assumption) B3 | exact six_set (a := ⟨m0_0, m0_1, m0_2⟩) (b := ⟨m1_0, m1_1, m1_2⟩) (by assumption) (by omega) _ _ _)
    clear hK K
    try simp only [Act.put, List.setIfInBounds_toArray, List.set_cons_zero, List.set_cons_succ]
    refine wpAnyH_ready (rs := [4]) (by kernel_rfl) (by simp) ?_
    refine AllReadyH.cons rfl (fun K hK => ?_) AllReadyH.nil
    go_simp
    (go_at_call 17; go_fit (spec_told ⟨m0_0, m0_1, m0_2⟩ ⟨m1_0, m1_1, m1_2⟩ _); rintro e w3 ⟨rfl, B3⟩; have hs3 := B3.size; (try simp at hs3); obtain ⟨c3, f3⟩ := bcellR B3; have q3_0 := fun o => c3 (w.heap.size) o (by first | omega | (simp <;> omega)); have r3_0 := fun o => f3 (w.heap.size) o (by first | omega | (simp <;> omega)); have q3_1 := fun o => c3 (w.heap.size + 1) o (by first | omega | (simp <;> omega)); have r3_1 := fun o => f3 (w.heap.size + 1) o (by first | omega | (simp <;> omega)); have q3_2 := fun o => c3 (w.heap.size + 1 + 1) o (by first | omega | (simp <;> omega)); have r3_2 := fun o => f3 (w.heap.size + 1 + 1) o (by first | omega | (simp <;> omega)); clear c3 f3; go_wp2_with fail)
    refine hK.out _ _ ?_ (fun hHeld => ?_)
    · (try dsimp only); (first | exact H0.six | assumption | exact six_alloc (a := ⟨m0_0, m0_1, m0_2⟩) (b := ⟨m1_0, m1_1, m1_2⟩) (by assumption) _ | exact six_call (a := ⟨m0_0, m0_1, m0_2⟩) (b := ⟨m1_0, m1_1, m1_2⟩) (by assumption) B1 | exact six_call (a := ⟨m0_0, m0_1, m0_2⟩) (b := ⟨m1_0, m1_1, m1_2⟩) (by assumption) B2 | exact six_call (a := ⟨m0_0, m0_1, m0_2⟩) (b := ⟨m1_0, m1_1, m1_2⟩) (by assumption) B3 | exact six_set (a := ⟨m0_0, m0_1, m0_2⟩) (b := ⟨m1_0, m1_1, m1_2⟩) (by assumption) (by omega) _ _ _)
    clear hK K
    try simp only [Act.put, List.setIfInBounds_toArray, List.set_cons_zero, List.set_cons_succ]
    refine wpAnyH_take (i := 5) (v := ?v124) rfl (by kernel_rfl) (by kernel_rfl) (by kernel_rfl) (fun _ _ _ h => h) (Or.inl ⟨by rfl, ?hy124⟩) (by assumption) ?_
    case hy124 => (intro w hSw; (try dsimp only at hSw); go_simp; try with_reducible rfl)
    try simp only [Act.put, List.setIfInBounds_toArray, List.set_cons_zero, List.set_cons_succ]
    refine wpAnyH_take (i := 6) (v := ?v125) rfl (by kernel_rfl) (by kernel_rfl) (by kernel_rfl) (fun _ _ _ h => h) (Or.inl ⟨by rfl, ?hy125⟩) (by assumption) ?_
    case hy125 => (intro w hSw; (try dsimp only at hSw); go_simp; try with_reducible rfl)
    try simp only [Act.put, List.setIfInBounds_toArray, List.set_cons_zero, List.set_cons_succ]
    refine wpAnyH_take (i := 7) (v := ?v126) rfl (by kernel_rfl) (by kernel_rfl) (by kernel_rfl) (fun _ _ _ h => h) (Or.inl ⟨by rfl, ?hy126⟩) (by assumption) ?_
    case hy126 => (intro w hSw; (try dsimp only at hSw); go_simp; try with_reducible rfl)
    try simp only [Act.put, List.setIfInBounds_toArray, List.set_cons_zero, List.set_cons_succ]
    refine wpAnyH_ready (rs := [9]) (by kernel_rfl) (by simp) ?_
    refine AllReadyH.cons rfl (fun K hK => ?_) AllReadyH.nil
    go_simp
    refine hK.out _ _ ?_ (fun hHeld => ?_)
    · (try dsimp only); (first | exact H0.six | assumption | exact six_alloc (a := ⟨m0_0, m0_1, m0_2⟩) (b := ⟨m1_0, m1_1, m1_2⟩) (by assumption) _ | exact six_call (a := ⟨m0_0, m0_1, m0_2⟩) (b := ⟨m1_0, m1_1, m1_2⟩) (by assumption) B1 | exact six_call (a := ⟨m0_0, m0_1, m0_2⟩) (b := ⟨m1_0, m1_1, m1_2⟩) (by assumption) B2 | exact six_call (a := ⟨m0_0, m0_1, m0_2⟩) (b := ⟨m1_0, m1_1, m1_2⟩) (by assumption) B3 | exact six_set (a := ⟨m0_0, m0_1, m0_2⟩) (b := ⟨m1_0, m1_1, m1_2⟩) (by assumption) (by omega) _ _ _)
    clear hK K
    try simp only [Act.put, List.setIfInBounds_toArray, List.set_cons_zero, List.set_cons_succ]
    refine wpAnyH_ready (rs := [10]) (by kernel_rfl) (by simp) ?_
    refine AllReadyH.cons rfl (fun K hK => ?_) AllReadyH.nil
    go_simp
    refine hK.out _ _ ?_ (fun hHeld => ?_)
    · (try dsimp only); (first | exact H0.six | assumption | exact six_alloc (a := ⟨m0_0, m0_1, m0_2⟩) (b := ⟨m1_0, m1_1, m1_2⟩) (by assumption) _ | exact six_call (a := ⟨m0_0, m0_1, m0_2⟩) (b := ⟨m1_0, m1_1, m1_2⟩) (by assumption) B1 | exact six_call (a := ⟨m0_0, m0_1, m0_2⟩) (b := ⟨m1_0, m1_1, m1_2⟩) (by assumption) B2 | exact six_call (a := ⟨m0_0, m0_1, m0_2⟩) (b := ⟨m1_0, m1_1, m1_2⟩) (by assumption) B3 | exact six_set (a := ⟨m0_0, m0_1, m0_2⟩) (b := ⟨m1_0, m1_1, m1_2⟩) (by assumption) (by omega) _ _ _)
    clear hK K
    try simp only [Act.put, List.setIfInBounds_toArray, List.set_cons_zero, List.set_cons_succ]
    refine wpAnyH_done (by kernel_rfl) ?_ _
    refine NoPanic.normal ?_
    (rename_i hh; go_wp2_with fail; go_meet; exact ⟨w.heap.size + 1 + 1, rfl, rfl, hh.2, ⟨by omega, by first | (simp [World.setCell]; done) | (simp [World.setCell]; omega) | omega, by go_simp, by go_simp, by go_simp⟩⟩)
  obtain ⟨g0, rfl, rfl, hT, hP⟩ := hcut
  have hwc := hT.size
  have hg0 := hP.hi
  have hg1 := hP.lo
  have hT : Two w wc.drew _ _ := ⟨hT.bel.drew, hT.size, hT.a0, hT.a1, hT.a2, hT.b0, hT.b1, hT.b2⟩
  have hP : Put w wc.drew g0 _ := ⟨hP.lo, hP.hi, hP.c0, hP.c1, hP.c2⟩
  go_upto_region 2 with fail
  go_cut [7, 8] (fun v5 v6 wx => ∃ g, v5 = .pointer (some ⟨g, 0, none⟩) ∧ v6 = .bool (Rv.good ⟨m0_0, m0_1, m0_2⟩ && Rv.good ⟨m1_0, m1_1, m1_2⟩) ∧ Two w wx ⟨m0_0, m0_1, m0_2⟩ ⟨m1_0, m1_1, m1_2⟩ ∧ Put w wx g (bothR (twoR 5) ⟨m0_0, m0_1, m0_2⟩ ⟨m1_0, m1_1, m1_2⟩) ∧ Put w wx g0 (bothR (twoR 5) ⟨m0_0, m0_1, m0_2⟩ ⟨m1_0, m1_1, m1_2⟩))
  case first =>
    refine wp_region_noPanic ?_
    refine wp_region_held_drew (S := fun w' => (w'.cell? ⟨w.heap.size, 0, none⟩ = some (.bool m0_0) ∧ w'.cell? ⟨w.heap.size, 1, none⟩ = some (.int .i64 m0_1) ∧ w'.cell? ⟨w.heap.size, 2, none⟩ = some (.int .i64 m0_2) ∧ w'.cell? ⟨w.heap.size + 1, 0, none⟩ = some (.bool m1_0) ∧ w'.cell? ⟨w.heap.size + 1, 1, none⟩ = some (.int .i64 m1_1) ∧ w'.cell? ⟨w.heap.size + 1, 2, none⟩ = some (.int .i64 m1_2)) ∧ (Two w w' ⟨m0_0, m0_1, m0_2⟩ ⟨m1_0, m1_1, m1_2⟩ ∧ Put w w' g0 (bothR (twoR 5) ⟨m0_0, m0_1, m0_2⟩ ⟨m1_0, m1_1, m1_2⟩))) (by kernel_rfl) ?_ (fun hHeld => ?_)
    · (try dsimp only); (first | exact ⟨hT.six.1, hT, hP⟩ | assumption | exact sev_alloc (a := ⟨m0_0, m0_1, m0_2⟩) (b := ⟨m1_0, m1_1, m1_2⟩) (c := bothR (twoR 5) ⟨m0_0, m0_1, m0_2⟩ ⟨m1_0, m1_1, m1_2⟩) (g0 := g0) (by assumption) _ | exact sev_call (a := ⟨m0_0, m0_1, m0_2⟩) (b := ⟨m1_0, m1_1, m1_2⟩) (c := bothR (twoR 5) ⟨m0_0, m0_1, m0_2⟩ ⟨m1_0, m1_1, m1_2⟩) (g0 := g0) (by assumption) B1 | exact sev_call (a := ⟨m0_0, m0_1, m0_2⟩) (b := ⟨m1_0, m1_1, m1_2⟩) (c := bothR (twoR 5) ⟨m0_0, m0_1, m0_2⟩ ⟨m1_0, m1_1, m1_2⟩) (g0 := g0) (by assumption) B2 | exact sev_call (a := ⟨m0_0, m0_1, m0_2⟩) (b := ⟨m1_0, m1_1, m1_2⟩) (c := bothR (twoR 5) ⟨m0_0, m0_1, m0_2⟩ ⟨m1_0, m1_1, m1_2⟩) (g0 := g0) (by assumption) B3 | exact sev_set (a := ⟨m0_0, m0_1, m0_2⟩) (b := ⟨m1_0, m1_1, m1_2⟩) (c := bothR (twoR 5) ⟨m0_0, m0_1, m0_2⟩ ⟨m1_0, m1_1, m1_2⟩) (g0 := g0) (by assumption) (by omega) (by omega) _ _ _)
    refine wpAnyH_take (i := 0) (v := ?v127) rfl (by kernel_rfl) (by kernel_rfl) (by kernel_rfl) (fun _ _ _ h => h) (Or.inl ⟨by rfl, ?hy127⟩) (by assumption) ?_
    case hy127 => (intro w hSw; (try dsimp only at hSw); go_simp; try with_reducible rfl)
    try simp only [Act.put, List.setIfInBounds_toArray, List.set_cons_zero, List.set_cons_succ]
    refine wpAnyH_take (i := 2) (v := ?v128) rfl (by kernel_rfl) (by kernel_rfl) (by kernel_rfl) (fun _ _ _ h => h) (Or.inl ⟨by rfl, ?hy128⟩) (by assumption) ?_
    case hy128 => (intro w hSw; (try dsimp only at hSw); go_simp; try with_reducible rfl)
    try simp only [Act.put, List.setIfInBounds_toArray, List.set_cons_zero, List.set_cons_succ]
    refine wpAnyH_ready (rs := [1, 8]) (by kernel_rfl) (by simp) ?_
    refine AllReadyH.cons rfl (fun K hK => ?_) ?_
    · go_simp
      (go_at_call 10; go_fit (to_range m0_0 m0_1 m0_2 _); rintro e w1 ⟨rfl, B1⟩; have hs1 := B1.size; (try simp at hs1); obtain ⟨c1, f1⟩ := bcellR B1; have q1_0 := fun o => c1 (w.heap.size) o (by first | omega | (simp <;> omega)); have r1_0 := fun o => f1 (w.heap.size) o (by first | omega | (simp <;> omega)); have q1_1 := fun o => c1 (w.heap.size + 1) o (by first | omega | (simp <;> omega)); have r1_1 := fun o => f1 (w.heap.size + 1) o (by first | omega | (simp <;> omega)); clear c1 f1; go_wp2_with fail)
      refine hK.out _ _ ?_ (fun hHeld => ?_)
      · (try dsimp only); (first | exact ⟨hT.six.1, hT, hP⟩ | assumption | exact sev_alloc (a := ⟨m0_0, m0_1, m0_2⟩) (b := ⟨m1_0, m1_1, m1_2⟩) (c := bothR (twoR 5) ⟨m0_0, m0_1, m0_2⟩ ⟨m1_0, m1_1, m1_2⟩) (g0 := g0) (by assumption) _ | exact sev_call (a := ⟨m0_0, m0_1, m0_2⟩) (b := ⟨m1_0, m1_1, m1_2⟩) (c := bothR (twoR 5) ⟨m0_0, m0_1, m0_2⟩ ⟨m1_0, m1_1, m1_2⟩) (g0 := g0) (by assumption) B1 | exact sev_call (a := ⟨m0_0, m0_1, m0_2⟩) (b := ⟨m1_0, m1_1, m1_2⟩) (c := bothR (twoR 5) ⟨m0_0, m0_1, m0_2⟩ ⟨m1_0, m1_1, m1_2⟩) (g0 := g0) (by assumption) B2 | exact sev_call (a := ⟨m0_0, m0_1, m0_2⟩) (b := ⟨m1_0, m1_1, m1_2⟩) (c := bothR (twoR 5) ⟨m0_0, m0_1, m0_2⟩ ⟨m1_0, m1_1, m1_2⟩) (g0 := g0) (by assumption) B3 | exact sev_set (a := ⟨m0_0, m0_1, m0_2⟩) (b := ⟨m1_0, m1_1, m1_2⟩) (c := bothR (twoR 5) ⟨m0_0, m0_1, m0_2⟩ ⟨m1_0, m1_1, m1_2⟩) (g0 := g0) (by assumption) (by omega) (by omega) _ _ _)
      clear hK K
      try simp only [Act.put, List.setIfInBounds_toArray, List.set_cons_zero, List.set_cons_succ]
      refine wpAnyH_ready (rs := [3, 8]) (by kernel_rfl) (by simp) ?_
      refine AllReadyH.cons rfl (fun K hK => ?_) ?_
      · go_simp
        (go_at_call 10; go_fit (to_range m1_0 m1_1 m1_2 _); rintro e w2 ⟨rfl, B2⟩; have hs2 := B2.size; (try simp at hs2); obtain ⟨c2, f2⟩ := bcellR B2; have q2_0 := fun o => c2 (w.heap.size) o (by first | omega | (simp <;> omega)); have r2_0 := fun o => f2 (w.heap.size) o (by first | omega | (simp <;> omega)); have q2_1 := fun o => c2 (w.heap.size + 1) o (by first | omega | (simp <;> omega)); have r2_1 := fun o => f2 (w.heap.size + 1) o (by first | omega | (simp <;> omega)); clear c2 f2; go_wp2_with fail)
        refine hK.out _ _ ?_ (fun hHeld => ?_)
        · (try dsimp only); (first | exact ⟨hT.six.1, hT, hP⟩ | assumption | exact sev_alloc (a := ⟨m0_0, m0_1, m0_2⟩) (b := ⟨m1_0, m1_1, m1_2⟩) (c := bothR (twoR 5) ⟨m0_0, m0_1, m0_2⟩ ⟨m1_0, m1_1, m1_2⟩) (g0 := g0) (by assumption) _ | exact sev_call (a := ⟨m0_0, m0_1, m0_2⟩) (b := ⟨m1_0, m1_1, m1_2⟩) (c := bothR (twoR 5) ⟨m0_0, m0_1, m0_2⟩ ⟨m1_0, m1_1, m1_2⟩) (g0 := g0) (by assumption) B1 | exact sev_call (a := ⟨m0_0, m0_1, m0_2⟩) (b := ⟨m1_0, m1_1, m1_2⟩) (c := bothR (twoR 5) ⟨m0_0, m0_1, m0_2⟩ ⟨m1_0, m1_1, m1_2⟩) (g0 := g0) (by assumption) B2 | exact sev_call (a := ⟨m0_0, m0_1, m0_2⟩) (b := ⟨m1_0, m1_1, m1_2⟩) (c := bothR (twoR 5) ⟨m0_0, m0_1, m0_2⟩ ⟨m1_0, m1_1, m1_2⟩) (g0 := g0) (by assumption) B3 | exact sev_set (a := ⟨m0_0, m0_1, m0_2⟩) (b := ⟨m1_0, m1_1, m1_2⟩) (c := bothR (twoR 5) ⟨m0_0, m0_1, m0_2⟩ ⟨m1_0, m1_1, m1_2⟩) (g0 := g0) (by assumption) (by omega) (by omega) _ _ _)
        clear hK K
        try simp only [Act.put, List.setIfInBounds_toArray, List.set_cons_zero, List.set_cons_succ]
        refine wpAnyH_ready (rs := [4, 8]) (by kernel_rfl) (by simp) ?_
        refine AllReadyH.cons rfl (fun K hK => ?_) ?_
        · go_simp
          (go_at_call 18; go_fit (impl_told ⟨m0_0, m0_1, m0_2⟩ ⟨m1_0, m1_1, m1_2⟩ _); rintro e w3 ⟨rfl, B3⟩; have hs3 := B3.size; (try simp at hs3); obtain ⟨c3, f3⟩ := bcellR B3; have q3_0 := fun o => c3 (w.heap.size) o (by first | omega | (simp <;> omega)); have r3_0 := fun o => f3 (w.heap.size) o (by first | omega | (simp <;> omega)); have q3_1 := fun o => c3 (w.heap.size + 1) o (by first | omega | (simp <;> omega)); have r3_1 := fun o => f3 (w.heap.size + 1) o (by first | omega | (simp <;> omega)); clear c3 f3; go_wp2_with fail)
          refine hK.out _ _ ?_ (fun hHeld => ?_)
          · (try dsimp only); (first | exact ⟨hT.six.1, hT, hP⟩ | assumption | exact sev_alloc (a := ⟨m0_0, m0_1, m0_2⟩) (b := ⟨m1_0, m1_1, m1_2⟩) (c := bothR (twoR 5) ⟨m0_0, m0_1, m0_2⟩ ⟨m1_0, m1_1, m1_2⟩) (g0 := g0) (by assumption) _ | exact sev_call (a := ⟨m0_0, m0_1, m0_2⟩) (b := ⟨m1_0, m1_1, m1_2⟩) (c := bothR (twoR 5) ⟨m0_0, m0_1, m0_2⟩ ⟨m1_0, m1_1, m1_2⟩) (g0 := g0) (by assumption) B1 | exact sev_call (a := ⟨m0_0, m0_1, m0_2⟩) (b := ⟨m1_0, m1_1, m1_2⟩) (c := bothR (twoR 5) ⟨m0_0, m0_1, m0_2⟩ ⟨m1_0, m1_1, m1_2⟩) (g0 := g0) (by assumption) B2 | exact sev_call (a := ⟨m0_0, m0_1, m0_2⟩) (b := ⟨m1_0, m1_1, m1_2⟩) (c := bothR (twoR 5) ⟨m0_0, m0_1, m0_2⟩ ⟨m1_0, m1_1, m1_2⟩) (g0 := g0) (by assumption) B3 | exact sev_set (a := ⟨m0_0, m0_1, m0_2⟩) (b := ⟨m1_0, m1_1, m1_2⟩) (c := bothR (twoR 5) ⟨m0_0, m0_1, m0_2⟩ ⟨m1_0, m1_1, m1_2⟩) (g0 := g0) (by assumption) (by omega) (by omega) _ _ _)
          clear hK K
          try simp only [Act.put, List.setIfInBounds_toArray, List.set_cons_zero, List.set_cons_succ]
          refine wpAnyH_take (i := 5) (v := ?v129) rfl (by kernel_rfl) (by kernel_rfl) (by kernel_rfl) (fun _ _ _ h => h) (Or.inl ⟨by rfl, ?hy129⟩) (by assumption) ?_
          case hy129 => (intro w hSw; (try dsimp only at hSw); go_simp; try with_reducible rfl)
          try simp only [Act.put, List.setIfInBounds_toArray, List.set_cons_zero, List.set_cons_succ]
          refine wpAnyH_take (i := 6) (v := ?v130) rfl (by kernel_rfl) (by kernel_rfl) (by kernel_rfl) (fun _ _ _ h => h) (Or.inl ⟨by rfl, ?hy130⟩) (by assumption) ?_
          case hy130 => (intro w hSw; (try dsimp only at hSw); go_simp; try with_reducible rfl)
          try simp only [Act.put, List.setIfInBounds_toArray, List.set_cons_zero, List.set_cons_succ]
          refine wpAnyH_take (i := 7) (v := ?v131) rfl (by kernel_rfl) (by kernel_rfl) (by kernel_rfl) (fun _ _ _ h => h) (Or.inl ⟨by rfl, ?hy131⟩) (by assumption) ?_
          case hy131 => (intro w hSw; (try dsimp only at hSw); go_simp; try with_reducible rfl)
          try simp only [Act.put, List.setIfInBounds_toArray, List.set_cons_zero, List.set_cons_succ]
          refine wpAnyH_ready (rs := [8]) (by kernel_rfl) (by simp) ?_
          refine AllReadyH.cons rfl (fun K hK => ?_) AllReadyH.nil
          go_simp
          refine hK.out _ _ ?_ (fun hHeld => ?_)
          · (try dsimp only); (first | exact ⟨hT.six.1, hT, hP⟩ | assumption | exact sev_alloc (a := ⟨m0_0, m0_1, m0_2⟩) (b := ⟨m1_0, m1_1, m1_2⟩) (c := bothR (twoR 5) ⟨m0_0, m0_1, m0_2⟩ ⟨m1_0, m1_1, m1_2⟩) (g0 := g0) (by assumption) _ | exact sev_call (a := ⟨m0_0, m0_1, m0_2⟩) (b := ⟨m1_0, m1_1, m1_2⟩) (c := bothR (twoR 5) ⟨m0_0, m0_1, m0_2⟩ ⟨m1_0, m1_1, m1_2⟩) (g0 := g0) (by assumption) B1 | exact sev_call (a := ⟨m0_0, m0_1, m0_2⟩) (b := ⟨m1_0, m1_1, m1_2⟩) (c := bothR (twoR 5) ⟨m0_0, m0_1, m0_2⟩ ⟨m1_0, m1_1, m1_2⟩) (g0 := g0) (by assumption) B2 | exact sev_call (a := ⟨m0_0, m0_1, m0_2⟩) (b := ⟨m1_0, m1_1, m1_2⟩) (c := bothR (twoR 5) ⟨m0_0, m0_1, m0_2⟩ ⟨m1_0, m1_1, m1_2⟩) (g0 := g0) (by assumption) B3 | exact sev_set (a := ⟨m0_0, m0_1, m0_2⟩) (b := ⟨m1_0, m1_1, m1_2⟩) (c := bothR (twoR 5) ⟨m0_0, m0_1, m0_2⟩ ⟨m1_0, m1_1, m1_2⟩) (g0 := g0) (by assumption) (by omega) (by omega) _ _ _)
          clear hK K
          try simp only [Act.put, List.setIfInBounds_toArray, List.set_cons_zero, List.set_cons_succ]
          refine wpAnyH_ready (rs := [9]) (by kernel_rfl) (by simp) ?_
          refine AllReadyH.cons rfl (fun K hK => ?_) AllReadyH.nil
          go_simp
          refine hK.out _ _ ?_ (fun hHeld => ?_)
          · (try dsimp only); (first | exact ⟨hT.six.1, hT, hP⟩ | assumption | exact sev_alloc (a := ⟨m0_0, m0_1, m0_2⟩) (b := ⟨m1_0, m1_1, m1_2⟩) (c := bothR (twoR 5) ⟨m0_0, m0_1, m0_2⟩ ⟨m1_0, m1_1, m1_2⟩) (g0 := g0) (by assumption) _ | exact sev_call (a := ⟨m0_0, m0_1, m0_2⟩) (b := ⟨m1_0, m1_1, m1_2⟩) (c := bothR (twoR 5) ⟨m0_0, m0_1, m0_2⟩ ⟨m1_0, m1_1, m1_2⟩) (g0 := g0) (by assumption) B1 | exact sev_call (a := ⟨m0_0, m0_1, m0_2⟩) (b := ⟨m1_0, m1_1, m1_2⟩) (c := bothR (twoR 5) ⟨m0_0, m0_1, m0_2⟩ ⟨m1_0, m1_1, m1_2⟩) (g0 := g0) (by assumption) B2 | exact sev_call (a := ⟨m0_0, m0_1, m0_2⟩) (b := ⟨m1_0, m1_1, m1_2⟩) (c := bothR (twoR 5) ⟨m0_0, m0_1, m0_2⟩ ⟨m1_0, m1_1, m1_2⟩) (g0 := g0) (by assumption) B3 | exact sev_set (a := ⟨m0_0, m0_1, m0_2⟩) (b := ⟨m1_0, m1_1, m1_2⟩) (c := bothR (twoR 5) ⟨m0_0, m0_1, m0_2⟩ ⟨m1_0, m1_1, m1_2⟩) (g0 := g0) (by assumption) (by omega) (by omega) _ _ _)
          clear hK K
          try simp only [Act.put, List.setIfInBounds_toArray, List.set_cons_zero, List.set_cons_succ]
          refine wpAnyH_ready (rs := [10]) (by kernel_rfl) (by simp) ?_
          refine AllReadyH.cons rfl (fun K hK => ?_) AllReadyH.nil
          go_simp
          refine hK.out _ _ ?_ (fun hHeld => ?_)
          · (try dsimp only); (first | exact ⟨hT.six.1, hT, hP⟩ | assumption | exact sev_alloc (a := ⟨m0_0, m0_1, m0_2⟩) (b := ⟨m1_0, m1_1, m1_2⟩) (c := bothR (twoR 5) ⟨m0_0, m0_1, m0_2⟩ ⟨m1_0, m1_1, m1_2⟩) (g0 := g0) (by assumption) _ | exact sev_call (a := ⟨m0_0, m0_1, m0_2⟩) (b := ⟨m1_0, m1_1, m1_2⟩) (c := bothR (twoR 5) ⟨m0_0, m0_1, m0_2⟩ ⟨m1_0, m1_1, m1_2⟩) (g0 := g0) (by assumption) B1 | exact sev_call (a := ⟨m0_0, m0_1, m0_2⟩) (b := ⟨m1_0, m1_1, m1_2⟩) (c := bothR (twoR 5) ⟨m0_0, m0_1, m0_2⟩ ⟨m1_0, m1_1, m1_2⟩) (g0 := g0) (by assumption) B2 | exact sev_call (a := ⟨m0_0, m0_1, m0_2⟩) (b := ⟨m1_0, m1_1, m1_2⟩) (c := bothR (twoR 5) ⟨m0_0, m0_1, m0_2⟩ ⟨m1_0, m1_1, m1_2⟩) (g0 := g0) (by assumption) B3 | exact sev_set (a := ⟨m0_0, m0_1, m0_2⟩) (b := ⟨m1_0, m1_1, m1_2⟩) (c := bothR (twoR 5) ⟨m0_0, m0_1, m0_2⟩ ⟨m1_0, m1_1, m1_2⟩) (g0 := g0) (by assumption) (by omega) (by omega) _ _ _)
          clear hK K
          try simp only [Act.put, List.setIfInBounds_toArray, List.set_cons_zero, List.set_cons_succ]
          refine wpAnyH_done (by kernel_rfl) ?_ _
          refine NoPanic.normal ?_
          (rename_i hh; go_wp2_with fail; go_meet; exact ⟨w3.heap.size, rfl, rfl, hh.2.1, ⟨by omega, by first | (simp [World.setCell]; done) | (simp [World.setCell]; omega) | omega, by go_simp, by go_simp, by go_simp⟩, hh.2.2⟩)
        refine AllReadyH.cons rfl (fun K hK => ?_) AllReadyH.nil
        go_simp
        refine hK.out _ _ ?_ (fun hHeld => ?_)
        · (try dsimp only); (first | exact ⟨hT.six.1, hT, hP⟩ | assumption | exact sev_alloc (a := ⟨m0_0, m0_1, m0_2⟩) (b := ⟨m1_0, m1_1, m1_2⟩) (c := bothR (twoR 5) ⟨m0_0, m0_1, m0_2⟩ ⟨m1_0, m1_1, m1_2⟩) (g0 := g0) (by assumption) _ | exact sev_call (a := ⟨m0_0, m0_1, m0_2⟩) (b := ⟨m1_0, m1_1, m1_2⟩) (c := bothR (twoR 5) ⟨m0_0, m0_1, m0_2⟩ ⟨m1_0, m1_1, m1_2⟩) (g0 := g0) (by assumption) B1 | exact sev_call (a := ⟨m0_0, m0_1, m0_2⟩) (b := ⟨m1_0, m1_1, m1_2⟩) (c := bothR (twoR 5) ⟨m0_0, m0_1, m0_2⟩ ⟨m1_0, m1_1, m1_2⟩) (g0 := g0) (by assumption) B2 | exact sev_call (a := ⟨m0_0, m0_1, m0_2⟩) (b := ⟨m1_0, m1_1, m1_2⟩) (c := bothR (twoR 5) ⟨m0_0, m0_1, m0_2⟩ ⟨m1_0, m1_1, m1_2⟩) (g0 := g0) (by assumption) B3 | exact sev_set (a := ⟨m0_0, m0_1, m0_2⟩) (b := ⟨m1_0, m1_1, m1_2⟩) (c := bothR (twoR 5) ⟨m0_0, m0_1, m0_2⟩ ⟨m1_0, m1_1, m1_2⟩) (g0 := g0) (by assumption) (by omega) (by omega) _ _ _)
        clear hK K
        try simp only [Act.put, List.setIfInBounds_toArray, List.set_cons_zero, List.set_cons_succ]
        refine wpAnyH_ready (rs := [4]) (by kernel_rfl) (by simp) ?_
        refine AllReadyH.cons rfl (fun K hK => ?_) AllReadyH.nil
        go_simp
        (go_at_call 18; go_fit (impl_told ⟨m0_0, m0_1, m0_2⟩ ⟨m1_0, m1_1, m1_2⟩ _); rintro e w3 ⟨rfl, B3⟩; have hs3 := B3.size; (try simp at hs3); obtain ⟨c3, f3⟩ := bcellR B3; have q3_0 := fun o => c3 (w.heap.size) o (by first | omega | (simp <;> omega)); have r3_0 := fun o => f3 (w.heap.size) o (by first | omega | (simp <;> omega)); have q3_1 := fun o => c3 (w.heap.size + 1) o (by first | omega | (simp <;> omega)); have r3_1 := fun o => f3 (w.heap.size + 1) o (by first | omega | (simp <;> omega)); have q3_2 := fun o => c3 (w2.heap.size) o (by first | omega | (simp <;> omega)); have r3_2 := fun o => f3 (w2.heap.size) o (by first | omega | (simp <;> omega)); clear c3 f3; go_wp2_with fail)
        refine hK.out _ _ ?_ (fun hHeld => ?_)
        · (try dsimp only); (first | exact ⟨hT.six.1, hT, hP⟩ | assumption | exact sev_alloc (a := ⟨m0_0, m0_1, m0_2⟩) (b := ⟨m1_0, m1_1, m1_2⟩) (c := bothR (twoR 5) ⟨m0_0, m0_1, m0_2⟩ ⟨m1_0, m1_1, m1_2⟩) (g0 := g0) (by assumption) _ | exact sev_call (a := ⟨m0_0, m0_1, m0_2⟩) (b := ⟨m1_0, m1_1, m1_2⟩) (c := bothR (twoR 5) ⟨m0_0, m0_1, m0_2⟩ ⟨m1_0, m1_1, m1_2⟩) (g0 := g0) (by assumption) B1 | exact sev_call (a := ⟨m0_0, m0_1, m0_2⟩) (b := ⟨m1_0, m1_1, m1_2⟩) (c := bothR (twoR 5) ⟨m0_0, m0_1, m0_2⟩ ⟨m1_0, m1_1, m1_2⟩) (g0 := g0) (by assumption) B2 | exact sev_call (a := ⟨m0_0, m0_1, m0_2⟩) (b := ⟨m1_0, m1_1, m1_2⟩) (c := bothR (twoR 5) ⟨m0_0, m0_1, m0_2⟩ ⟨m1_0, m1_1, m1_2⟩) (g0 := g0) (by assumption) B3 | exact sev_set (a := ⟨m0_0, m0_1, m0_2⟩) (b := ⟨m1_0, m1_1, m1_2⟩) (c := bothR (twoR 5) ⟨m0_0, m0_1, m0_2⟩ ⟨m1_0, m1_1, m1_2⟩) (g0 := g0) (by assumption) (by omega) (by omega) _ _ _)
        clear hK K
        try simp only [Act.put, List.setIfInBounds_toArray, List.set_cons_zero, List.set_cons_succ]
        refine wpAnyH_take (i := 5) (v := ?v132) rfl (by kernel_rfl) (by kernel_rfl) (by kernel_rfl) (fun _ _ _ h => h) (Or.inl ⟨by rfl, ?hy132⟩) (by assumption) ?_
        case hy132 => (intro w hSw; (try dsimp only at hSw); go_simp; try with_reducible rfl)
        try simp only [Act.put, List.setIfInBounds_toArray, List.set_cons_zero, List.set_cons_succ]
        refine wpAnyH_take (i := 6) (v := ?v133) rfl (by kernel_rfl) (by kernel_rfl) (by kernel_rfl) (fun _ _ _ h => h) (Or.inl ⟨by rfl, ?hy133⟩) (by assumption) ?_
        case hy133 => (intro w hSw; (try dsimp only at hSw); go_simp; try with_reducible rfl)
        try simp only [Act.put, List.setIfInBounds_toArray, List.set_cons_zero, List.set_cons_succ]
        refine wpAnyH_take (i := 7) (v := ?v134) rfl (by kernel_rfl) (by kernel_rfl) (by kernel_rfl) (fun _ _ _ h => h) (Or.inl ⟨by rfl, ?hy134⟩) (by assumption) ?_
        case hy134 => (intro w hSw; (try dsimp only at hSw); go_simp; try with_reducible rfl)
        try simp only [Act.put, List.setIfInBounds_toArray, List.set_cons_zero, List.set_cons_succ]
        refine wpAnyH_ready (rs := [9]) (by kernel_rfl) (by simp) ?_
        refine AllReadyH.cons rfl (fun K hK => ?_) AllReadyH.nil
        go_simp
        refine hK.out _ _ ?_ (fun hHeld => ?_)
        · (try dsimp only); (first | exact ⟨hT.six.1, hT, hP⟩ | assumption | exact sev_alloc (a := ⟨m0_0, m0_1, m0_2⟩) (b := ⟨m1_0, m1_1, m1_2⟩) (c := bothR (twoR 5) ⟨m0_0, m0_1, m0_2⟩ ⟨m1_0, m1_1, m1_2⟩) (g0 := g0) (by assumption) _ | exact sev_call (a := ⟨m0_0, m0_1, m0_2⟩) (b := ⟨m1_0, m1_1, m1_2⟩) (c := bothR (twoR 5) ⟨m0_0, m0_1, m0_2⟩ ⟨m1_0, m1_1, m1_2⟩) (g0 := g0) (by assumption) B1 | exact sev_call (a := ⟨m0_0, m0_1, m0_2⟩) (b := ⟨m1_0, m1_1, m1_2⟩) (c := bothR (twoR 5) ⟨m0_0, m0_1, m0_2⟩ ⟨m1_0, m1_1, m1_2⟩) (g0 := g0) (by assumption) B2 | exact sev_call (a := ⟨m0_0, m0_1, m0_2⟩) (b := ⟨m1_0, m1_1, m1_2⟩) (c := bothR (twoR 5) ⟨m0_0, m0_1, m0_2⟩ ⟨m1_0, m1_1, m1_2⟩) (g0 := g0) (by assumption) B3 | exact sev_set (a := ⟨m0_0, m0_1, m0_2⟩) (b := ⟨m1_0, m1_1, m1_2⟩) (c := bothR (twoR 5) ⟨m0_0, m0_1, m0_2⟩ ⟨m1_0, m1_1, m1_2⟩) (g0 := g0) (by assumption) (by omega) (by omega) _ _ _)
        clear hK K
        try simp only [Act.put, List.setIfInBounds_toArray, List.set_cons_zero, List.set_cons_succ]
        refine wpAnyH_ready (rs := [10]) (by kernel_rfl) (by simp) ?_
        refine AllReadyH.cons rfl (fun K hK => ?_) AllReadyH.nil
        go_simp
        refine hK.out _ _ ?_ (fun hHeld => ?_)
        · (try dsimp only); (first | exact ⟨hT.six.1, hT, hP⟩ | assumption | exact sev_alloc (a := ⟨m0_0, m0_1, m0_2⟩) (b := ⟨m1_0, m1_1, m1_2⟩) (c := bothR (twoR 5) ⟨m0_0, m0_1, m0_2⟩ ⟨m1_0, m1_1, m1_2⟩) (g0 := g0) (by assumption) _ | exact sev_call (a := ⟨m0_0, m0_1, m0_2⟩) (b := ⟨m1_0, m1_1, m1_2⟩) (c := bothR (twoR 5) ⟨m0_0, m0_1, m0_2⟩ ⟨m1_0, m1_1, m1_2⟩) (g0 := g0) (by assumption) B1 | exact sev_call (a := ⟨m0_0, m0_1, m0_2⟩) (b := ⟨m1_0, m1_1, m1_2⟩) (c := bothR (twoR 5) ⟨m0_0, m0_1, m0_2⟩ ⟨m1_0, m1_1, m1_2⟩) (g0 := g0) (by assumption) B2 | exact sev_call (a := ⟨m0_0, m0_1, m0_2⟩) (b := ⟨m1_0, m1_1, m1_2⟩) (c := bothR (twoR 5) ⟨m0_0, m0_1, m0_2⟩ ⟨m1_0, m1_1, m1_2⟩) (g0 := g0) (by assumption) B3 | exact sev_set (a := ⟨m0_0, m0_1, m0_2⟩) (b := ⟨m1_0, m1_1, m1_2⟩) (c := bothR (twoR 5) ⟨m0_0, m0_1, m0_2⟩ ⟨m1_0, m1_1, m1_2⟩) (g0 := g0) (by assumption) (by omega) (by omega) _ _ _)
        clear hK K
        try simp only [Act.put, List.setIfInBounds_toArray, List.set_cons_zero, List.set_cons_succ]
        refine wpAnyH_done (by kernel_rfl) ?_ _
        refine NoPanic.normal ?_
        (rename_i hh; go_wp2_with fail; go_meet; exact ⟨w2.heap.size, rfl, rfl, hh.2.1, ⟨by omega, by first | (simp [World.setCell]; done) | (simp [World.setCell]; omega) | omega, by go_simp, by go_simp, by go_simp⟩, hh.2.2⟩)
      refine AllReadyH.cons rfl (fun K hK => ?_) AllReadyH.nil
      go_simp
      refine hK.out _ _ ?_ (fun hHeld => ?_)
      · (try dsimp only); (first | exact ⟨hT.six.1, hT, hP⟩ | assumption | exact sev_alloc (a := ⟨m0_0, m0_1, m0_2⟩) (b := ⟨m1_0, m1_1, m1_2⟩) (c := bothR (twoR 5) ⟨m0_0, m0_1, m0_2⟩ ⟨m1_0, m1_1, m1_2⟩) (g0 := g0) (by assumption) _ | exact sev_call (a := ⟨m0_0, m0_1, m0_2⟩) (b := ⟨m1_0, m1_1, m1_2⟩) (c := bothR (twoR 5) ⟨m0_0, m0_1, m0_2⟩ ⟨m1_0, m1_1, m1_2⟩) (g0 := g0) (by assumption) B1 | exact sev_call (a := ⟨m0_0, m0_1, m0_2⟩) (b := ⟨m1_0, m1_1, m1_2⟩) (c := bothR (twoR 5) ⟨m0_0, m0_1, m0_2⟩ ⟨m1_0, m1_1, m1_2⟩) (g0 := g0) (by assumption) B2 | exact sev_call (a := ⟨m0_0, m0_1, m0_2⟩) (b := ⟨m1_0, m1_1, m1_2⟩) (c := bothR (twoR 5) ⟨m0_0, m0_1, m0_2⟩ ⟨m1_0, m1_1, m1_2⟩) (g0 := g0) (by assumption) B3 | exact sev_set (a := ⟨m0_0, m0_1, m0_2⟩) (b := ⟨m1_0, m1_1, m1_2⟩) (c := bothR (twoR 5) ⟨m0_0, m0_1, m0_2⟩ ⟨m1_0, m1_1, m1_2⟩) (g0 := g0) (by assumption) (by omega) (by omega) _ _ _)
      clear hK K
      try simp only [Act.put, List.setIfInBounds_toArray, List.set_cons_zero, List.set_cons_succ]
      refine wpAnyH_ready (rs := [3]) (by kernel_rfl) (by simp) ?_
      refine AllReadyH.cons rfl (fun K hK => ?_) AllReadyH.nil
      go_simp
      (go_at_call 10; go_fit (to_range m1_0 m1_1 m1_2 _); rintro e w2 ⟨rfl, B2⟩; have hs2 := B2.size; (try simp at hs2); obtain ⟨c2, f2⟩ := bcellR B2; have q2_0 := fun o => c2 (w.heap.size) o (by first | omega | (simp <;> omega)); have r2_0 := fun o => f2 (w.heap.size) o (by first | omega | (simp <;> omega)); have q2_1 := fun o => c2 (w.heap.size + 1) o (by first | omega | (simp <;> omega)); have r2_1 := fun o => f2 (w.heap.size + 1) o (by first | omega | (simp <;> omega)); have q2_2 := fun o => c2 (w1.heap.size) o (by first | omega | (simp <;> omega)); have r2_2 := fun o => f2 (w1.heap.size) o (by first | omega | (simp <;> omega)); clear c2 f2; go_wp2_with fail)
      refine hK.out _ _ ?_ (fun hHeld => ?_)
      · (try dsimp only); (first | exact ⟨hT.six.1, hT, hP⟩ | assumption | exact sev_alloc (a := ⟨m0_0, m0_1, m0_2⟩) (b := ⟨m1_0, m1_1, m1_2⟩) (c := bothR (twoR 5) ⟨m0_0, m0_1, m0_2⟩ ⟨m1_0, m1_1, m1_2⟩) (g0 := g0) (by assumption) _ | exact sev_call (a := ⟨m0_0, m0_1, m0_2⟩) (b := ⟨m1_0, m1_1, m1_2⟩) (c := bothR (twoR 5) ⟨m0_0, m0_1, m0_2⟩ ⟨m1_0, m1_1, m1_2⟩) (g0 := g0) (by assumption) B1 | exact sev_call (a := ⟨m0_0, m0_1, m0_2⟩) (b := ⟨m1_0, m1_1, m1_2⟩) (c := bothR (twoR 5) ⟨m0_0, m0_1, m0_2⟩ ⟨m1_0, m1_1, m1_2⟩) (g0 := g0) (by assumption) B2 | exact sev_call (a := ⟨m0_0, m0_1, m0_2⟩) (b := ⟨m1_0, m1_1, m1_2⟩) (c := bothR (twoR 5) ⟨m0_0, m0_1, m0_2⟩ ⟨m1_0, m1_1, m1_2⟩) (g0 := g0) (by assumption) B3 | exact sev_set (a := ⟨m0_0, m0_1, m0_2⟩) (b := ⟨m1_0, m1_1, m1_2⟩) (c := bothR (twoR 5) ⟨m0_0, m0_1, m0_2⟩ ⟨m1_0, m1_1, m1_2⟩) (g0 := g0) (by assumption) (by omega) (by omega) _ _ _)
      clear hK K
      try simp only [Act.put, List.setIfInBounds_toArray, List.set_cons_zero, List.set_cons_succ]
      refine wpAnyH_ready (rs := [4]) (by kernel_rfl) (by simp) ?_
      refine AllReadyH.cons rfl (fun K hK => ?_) AllReadyH.nil
      go_simp
      (go_at_call 18; go_fit (impl_told ⟨m0_0, m0_1, m0_2⟩ ⟨m1_0, m1_1, m1_2⟩ _); rintro e w3 ⟨rfl, B3⟩; have hs3 := B3.size; (try simp at hs3); obtain ⟨c3, f3⟩ := bcellR B3; have q3_0 := fun o => c3 (w.heap.size) o (by first | omega | (simp <;> omega)); have r3_0 := fun o => f3 (w.heap.size) o (by first | omega | (simp <;> omega)); have q3_1 := fun o => c3 (w.heap.size + 1) o (by first | omega | (simp <;> omega)); have r3_1 := fun o => f3 (w.heap.size + 1) o (by first | omega | (simp <;> omega)); have q3_2 := fun o => c3 (w1.heap.size) o (by first | omega | (simp <;> omega)); have r3_2 := fun o => f3 (w1.heap.size) o (by first | omega | (simp <;> omega)); clear c3 f3; go_wp2_with fail)
      refine hK.out _ _ ?_ (fun hHeld => ?_)
      · (try dsimp only); (first | exact ⟨hT.six.1, hT, hP⟩ | assumption | exact sev_alloc (a := ⟨m0_0, m0_1, m0_2⟩) (b := ⟨m1_0, m1_1, m1_2⟩) (c := bothR (twoR 5) ⟨m0_0, m0_1, m0_2⟩ ⟨m1_0, m1_1, m1_2⟩) (g0 := g0) (by assumption) _ | exact sev_call (a := ⟨m0_0, m0_1, m0_2⟩) (b := ⟨m1_0, m1_1, m1_2⟩) (c := bothR (twoR 5) ⟨m0_0, m0_1, m0_2⟩ ⟨m1_0, m1_1, m1_2⟩) (g0 := g0) (by assumption) B1 | exact sev_call (a := ⟨m0_0, m0_1, m0_2⟩) (b := ⟨m1_0, m1_1, m1_2⟩) (c := bothR (twoR 5) ⟨m0_0, m0_1, m0_2⟩ ⟨m1_0, m1_1, m1_2⟩) (g0 := g0) (by assumption) B2 | exact sev_call (a := ⟨m0_0, m0_1, m0_2⟩) (b := ⟨m1_0, m1_1, m1_2⟩) (c := bothR (twoR 5) ⟨m0_0, m0_1, m0_2⟩ ⟨m1_0, m1_1, m1_2⟩) (g0 := g0) (by assumption) B3 | exact sev_set (a := ⟨m0_0, m0_1, m0_2⟩) (b := ⟨m1_0, m1_1, m1_2⟩) (c := bothR (twoR 5) ⟨m0_0, m0_1, m0_2⟩ ⟨m1_0, m1_1, m1_2⟩) (g0 := g0) (by assumption) (by omega) (by omega) _ _ _)
      clear hK K
      try simp only [Act.put, List.setIfInBounds_toArray, List.set_cons_zero, List.set_cons_succ]
      refine wpAnyH_take (i := 5) (v := ?v135) rfl (by kernel_rfl) (by kernel_rfl) (by kernel_rfl) (fun _ _ _ h => h) (Or.inl ⟨by rfl, ?hy135⟩) (by assumption) ?_
      case hy135 => (intro w hSw; (try dsimp only at hSw); go_simp; try with_reducible rfl)
      try simp only [Act.put, List.setIfInBounds_toArray, List.set_cons_zero, List.set_cons_succ]
      refine wpAnyH_take (i := 6) (v := ?v136) rfl (by kernel_rfl) (by kernel_rfl) (by kernel_rfl) (fun _ _ _ h => h) (Or.inl ⟨by rfl, ?hy136⟩) (by assumption) ?_
      case hy136 => (intro w hSw; (try dsimp only at hSw); go_simp; try with_reducible rfl)
      try simp only [Act.put, List.setIfInBounds_toArray, List.set_cons_zero, List.set_cons_succ]
      refine wpAnyH_take (i := 7) (v := ?v137) rfl (by kernel_rfl) (by kernel_rfl) (by kernel_rfl) (fun _ _ _ h => h) (Or.inl ⟨by rfl, ?hy137⟩) (by assumption) ?_
      case hy137 => (intro w hSw; (try dsimp only at hSw); go_simp; try with_reducible rfl)
      try simp only [Act.put, List.setIfInBounds_toArray, List.set_cons_zero, List.set_cons_succ]
      refine wpAnyH_ready (rs := [9]) (by kernel_rfl) (by simp) ?_
      refine AllReadyH.cons rfl (fun K hK => ?_) AllReadyH.nil
      go_simp
      refine hK.out _ _ ?_ (fun hHeld => ?_)
      · (try dsimp only); (first | exact ⟨hT.six.1, hT, hP⟩ | assumption | exact sev_alloc (a := ⟨m0_0, m0_1, m0_2⟩) (b := ⟨m1_0, m1_1, m1_2⟩) (c := bothR (twoR 5) ⟨m0_0, m0_1, m0_2⟩ ⟨m1_0, m1_1, m1_2⟩) (g0 := g0) (by assumption) _ | exact sev_call (a := ⟨m0_0, m0_1, m0_2⟩) (b := ⟨m1_0, m1_1, m1_2⟩) (c := bothR (twoR 5) ⟨m0_0, m0_1, m0_2⟩ ⟨m1_0, m1_1, m1_2⟩) (g0 := g0) (by assumption) B1 | exact sev_call (a := ⟨m0_0, m0_1, m0_2⟩) (b := ⟨m1_0, m1_1, m1_2⟩) (c := bothR (twoR 5) ⟨m0_0, m0_1, m0_2⟩ ⟨m1_0, m1_1, m1_2⟩) (g0 := g0) (by assumption) B2 | exact sev_call (a := ⟨m0_0, m0_1, m0_2⟩) (b := ⟨m1_0, m1_1, m1_2⟩) (c := bothR (twoR 5) ⟨m0_0, m0_1, m0_2⟩ ⟨m1_0, m1_1, m1_2⟩) (g0 := g0) (by assumption) B3 | exact sev_set (a := ⟨m0_0, m0_1, m0_2⟩) (b := ⟨m1_0, m1_1, m1_2⟩) (c := bothR (twoR 5) ⟨m0_0, m0_1, m0_2⟩ ⟨m1_0, m1_1, m1_2⟩) (g0 := g0) (by assumption) (by omega) (by omega) _ _ _)
      clear hK K
      try simp only [Act.put, List.setIfInBounds_toArray, List.set_cons_zero, List.set_cons_succ]
      refine wpAnyH_ready (rs := [10]) (by kernel_rfl) (by simp) ?_
      refine AllReadyH.cons rfl (fun K hK => ?_) AllReadyH.nil
      go_simp
      refine hK.out _ _ ?_ (fun hHeld => ?_)
      · (try dsimp only); (first | exact ⟨hT.six.1, hT, hP⟩ | assumption | exact sev_alloc (a := ⟨m0_0, m0_1, m0_2⟩) (b := ⟨m1_0, m1_1, m1_2⟩) (c := bothR (twoR 5) ⟨m0_0, m0_1, m0_2⟩ ⟨m1_0, m1_1, m1_2⟩) (g0 := g0) (by assumption) _ | exact sev_call (a := ⟨m0_0, m0_1, m0_2⟩) (b := ⟨m1_0, m1_1, m1_2⟩) (c := bothR (twoR 5) ⟨m0_0, m0_1, m0_2⟩ ⟨m1_0, m1_1, m1_2⟩) (g0 := g0) (by assumption) B1 | exact sev_call (a := ⟨m0_0, m0_1, m0_2⟩) (b := ⟨m1_0, m1_1, m1_2⟩) (c := bothR (twoR 5) ⟨m0_0, m0_1, m0_2⟩ ⟨m1_0, m1_1, m1_2⟩) (g0 := g0) (by assumption) B2 | exact sev_call (a := ⟨m0_0, m0_1, m0_2⟩) (b := ⟨m1_0, m1_1, m1_2⟩) (c := bothR (twoR 5) ⟨m0_0, m0_1, m0_2⟩ ⟨m1_0, m1_1, m1_2⟩) (g0 := g0) (by assumption) B3 | exact sev_set (a := ⟨m0_0, m0_1, m0_2⟩) (b := ⟨m1_0, m1_1, m1_2⟩) (c := bothR (twoR 5) ⟨m0_0, m0_1, m0_2⟩ ⟨m1_0, m1_1, m1_2⟩) (g0 := g0) (by assumption) (by omega) (by omega) _ _ _)
      clear hK K
      try simp only [Act.put, List.setIfInBounds_toArray, List.set_cons_zero, List.set_cons_succ]
      refine wpAnyH_done (by kernel_rfl) ?_ _
      refine NoPanic.normal ?_
      (rename_i hh; go_wp2_with fail; go_meet; exact ⟨w1.heap.size, rfl, rfl, hh.2.1, ⟨by omega, by first | (simp [World.setCell]; done) | (simp [World.setCell]; omega) | omega, by go_simp, by go_simp, by go_simp⟩, hh.2.2⟩)
    refine AllReadyH.cons rfl (fun K hK => ?_) AllReadyH.nil
    go_simp
    refine hK.out _ _ ?_ (fun hHeld => ?_)
    · (try dsimp only); (first | exact ⟨hT.six.1, hT, hP⟩ | assumption | exact sev_alloc (a := ⟨m0_0, m0_1, m0_2⟩) (b := ⟨m1_0, m1_1, m1_2⟩) (c := bothR (twoR 5) ⟨m0_0, m0_1, m0_2⟩ ⟨m1_0, m1_1, m1_2⟩) (g0 := g0) (by assumption) _ | exact sev_call (a := ⟨m0_0, m0_1, m0_2⟩) (b := ⟨m1_0, m1_1, m1_2⟩) (c := bothR (twoR 5) ⟨m0_0, m0_1, m0_2⟩ ⟨m1_0, m1_1, m1_2⟩) (g0 := g0) (by assumption) B1 | exact sev_call (a := ⟨m0_0, m0_1, m0_2⟩) (b := ⟨m1_0, m1_1, m1_2⟩) (c := bothR (twoR 5) ⟨m0_0, m0_1, m0_2⟩ ⟨m1_0, m1_1, m1_2⟩) (g0 := g0) (by assumption) B2 | exact sev_call (a := ⟨m0_0, m0_1, m0_2⟩) (b := ⟨m1_0, m1_1, m1_2⟩) (c := bothR (twoR 5) ⟨m0_0, m0_1, m0_2⟩ ⟨m1_0, m1_1, m1_2⟩) (g0 := g0) (by assumption) B3 | exact sev_set (a := ⟨m0_0, m0_1, m0_2⟩) (b := ⟨m1_0, m1_1, m1_2⟩) (c := bothR (twoR 5) ⟨m0_0, m0_1, m0_2⟩ ⟨m1_0, m1_1, m1_2⟩) (g0 := g0) (by assumption) (by omega) (by omega) _ _ _)
    clear hK K
    try simp only [Act.put, List.setIfInBounds_toArray, List.set_cons_zero, List.set_cons_succ]
    refine wpAnyH_ready (rs := [1]) (by kernel_rfl) (by simp) ?_
    refine AllReadyH.cons rfl (fun K hK => ?_) AllReadyH.nil
    go_simp
    (go_at_call 10; go_fit (to_range m0_0 m0_1 m0_2 _); rintro e w1 ⟨rfl, B1⟩; have hs1 := B1.size; (try simp at hs1); obtain ⟨c1, f1⟩ := bcellR B1; have q1_0 := fun o => c1 (w.heap.size) o (by first | omega | (simp <;> omega)); have r1_0 := fun o => f1 (w.heap.size) o (by first | omega | (simp <;> omega)); have q1_1 := fun o => c1 (w.heap.size + 1) o (by first | omega | (simp <;> omega)); have r1_1 := fun o => f1 (w.heap.size + 1) o (by first | omega | (simp <;> omega)); have q1_2 := fun o => c1 (wc.heap.size) o (by first | omega | (simp <;> omega)); have r1_2 := fun o => f1 (wc.heap.size) o (by first | omega | (simp <;> omega)); clear c1 f1; go_wp2_with fail)
    refine hK.out _ _ ?_ (fun hHeld => ?_)
    · (try dsimp only); (first | exact ⟨hT.six.1, hT, hP⟩ | assumption | exact sev_alloc (a := ⟨m0_0, m0_1, m0_2⟩) (b := ⟨m1_0, m1_1, m1_2⟩) (c := bothR (twoR 5) ⟨m0_0, m0_1, m0_2⟩ ⟨m1_0, m1_1, m1_2⟩) (g0 := g0) (by assumption) _ | exact sev_call (a := ⟨m0_0, m0_1, m0_2⟩) (b := ⟨m1_0, m1_1, m1_2⟩) (c := bothR (twoR 5) ⟨m0_0, m0_1, m0_2⟩ ⟨m1_0, m1_1, m1_2⟩) (g0 := g0) (by assumption) B1 | exact sev_call (a := ⟨m0_0, m0_1, m0_2⟩) (b := ⟨m1_0, m1_1, m1_2⟩) (c := bothR (twoR 5) ⟨m0_0, m0_1, m0_2⟩ ⟨m1_0, m1_1, m1_2⟩) (g0 := g0) (by assumption) B2 | exact sev_call (a := ⟨m0_0, m0_1, m0_2⟩) (b := ⟨m1_0, m1_1, m1_2⟩) (c := bothR (twoR 5) ⟨m0_0, m0_1, m0_2⟩ ⟨m1_0, m1_1, m1_2⟩) (g0 := g0) (by assumption) B3 | exact sev_set (a := ⟨m0_0, m0_1, m0_2⟩) (b := ⟨m1_0, m1_1, m1_2⟩) (c := bothR (twoR 5) ⟨m0_0, m0_1, m0_2⟩ ⟨m1_0, m1_1, m1_2⟩) (g0 := g0) (by assumption) (by omega) (by omega) _ _ _)
    clear hK K
    try simp only [Act.put, List.setIfInBounds_toArray, List.set_cons_zero, List.set_cons_succ]
    refine wpAnyH_ready (rs := [3]) (by kernel_rfl) (by simp) ?_
    refine AllReadyH.cons rfl (fun K hK => ?_) AllReadyH.nil
    go_simp
    (go_at_call 10; go_fit (to_range m1_0 m1_1 m1_2 _); rintro e w2 ⟨rfl, B2⟩; have hs2 := B2.size; (try simp at hs2); obtain ⟨c2, f2⟩ := bcellR B2; have q2_0 := fun o => c2 (w.heap.size) o (by first | omega | (simp <;> omega)); have r2_0 := fun o => f2 (w.heap.size) o (by first | omega | (simp <;> omega)); have q2_1 := fun o => c2 (w.heap.size + 1) o (by first | omega | (simp <;> omega)); have r2_1 := fun o => f2 (w.heap.size + 1) o (by first | omega | (simp <;> omega)); have q2_2 := fun o => c2 (wc.heap.size) o (by first | omega | (simp <;> omega)); have r2_2 := fun o => f2 (wc.heap.size) o (by first | omega | (simp <;> omega)); clear c2 f2; go_wp2_with fail)
    refine hK.out _ _ ?_ (fun hHeld => ?_)
    · (try dsimp only); (first | exact ⟨hT.six.1, hT, hP⟩ | assumption | exact sev_alloc (a := ⟨m0_0, m0_1, m0_2⟩) (b := ⟨m1_0, m1_1, m1_2⟩) (c := bothR (twoR 5) ⟨m0_0, m0_1, m0_2⟩ ⟨m1_0, m1_1, m1_2⟩) (g0 := g0) (by assumption) _ | exact sev_call (a := ⟨m0_0, m0_1, m0_2⟩) (b := ⟨m1_0, m1_1, m1_2⟩) (c := bothR (twoR 5) ⟨m0_0, m0_1, m0_2⟩ ⟨m1_0, m1_1, m1_2⟩) (g0 := g0) (by assumption) B1 | exact sev_call (a := ⟨m0_0, m0_1, m0_2⟩) (b := ⟨m1_0, m1_1, m1_2⟩) (c := bothR (twoR 5) ⟨m0_0, m0_1, m0_2⟩ ⟨m1_0, m1_1, m1_2⟩) (g0 := g0) (by assumption) B2 | exact sev_call (a := ⟨m0_0, m0_1, m0_2⟩) (b := ⟨m1_0, m1_1, m1_2⟩) (c := bothR (twoR 5) ⟨m0_0, m0_1, m0_2⟩ ⟨m1_0, m1_1, m1_2⟩) (g0 := g0) (by assumption) B3 | exact sev_set (a := ⟨m0_0, m0_1, m0_2⟩) (b := ⟨m1_0, m1_1, m1_2⟩) (c := bothR (twoR 5) ⟨m0_0, m0_1, m0_2⟩ ⟨m1_0, m1_1, m1_2⟩) (g0 := g0) (by assumption) (by omega) (by omega) _ _ _)
    clear hK K
    try simp only [Act.put, List.setIfInBounds_toArray, List.set_cons_zero, List.set_cons_succ]
    refine wpAnyH_ready (rs := [4]) (by kernel_rfl) (by simp) ?_
    refine AllReadyH.cons rfl (fun K hK => ?_) AllReadyH.nil
    go_simp
    (go_at_call 18; go_fit (impl_told ⟨m0_0, m0_1, m0_2⟩ ⟨m1_0, m1_1, m1_2⟩ _); rintro e w3 ⟨rfl, B3⟩; have hs3 := B3.size; (try simp at hs3); obtain ⟨c3, f3⟩ := bcellR B3; have q3_0 := fun o => c3 (w.heap.size) o (by first | omega | (simp <;> omega)); have r3_0 := fun o => f3 (w.heap.size) o (by first | omega | (simp <;> omega)); have q3_1 := fun o => c3 (w.heap.size + 1) o (by first | omega | (simp <;> omega)); have r3_1 := fun o => f3 (w.heap.size + 1) o (by first | omega | (simp <;> omega)); have q3_2 := fun o => c3 (wc.heap.size) o (by first | omega | (simp <;> omega)); have r3_2 := fun o => f3 (wc.heap.size) o (by first | omega | (simp <;> omega)); clear c3 f3; go_wp2_with fail)
    refine hK.out _ _ ?_ (fun hHeld => ?_)
    · (try dsimp only); (first | exact ⟨hT.six.1, hT, hP⟩ | assumption | exact sev_alloc (a := ⟨m0_0, m0_1, m0_2⟩) (b := ⟨m1_0, m1_1, m1_2⟩) (c := bothR (twoR 5) ⟨m0_0, m0_1, m0_2⟩ ⟨m1_0, m1_1, m1_2⟩) (g0 := g0) (by assumption) _ | exact sev_call (a := ⟨m0_0, m0_1, m0_2⟩) (b := ⟨m1_0, m1_1, m1_2⟩) (c := bothR (twoR 5) ⟨m0_0, m0_1, m0_2⟩ ⟨m1_0, m1_1, m1_2⟩) (g0 := g0) (by assumption) B1 | exact sev_call (a := ⟨m0_0, m0_1, m0_2⟩) (b := ⟨m1_0, m1_1, m1_2⟩) (c := bothR (twoR 5) ⟨m0_0, m0_1, m0_2⟩ ⟨m1_0, m1_1, m1_2⟩) (g0 := g0) (by assumption) B2 | exact sev_call (a := ⟨m0_0, m0_1, m0_2⟩) (b := ⟨m1_0, m1_1, m1_2⟩) (c := bothR (twoR 5) ⟨m0_0, m0_1, m0_2⟩ ⟨m1_0, m1_1, m1_2⟩) (g0 := g0) (by assumption) B3 | exact sev_set (a := ⟨m0_0, m0_1, m0_2⟩) (b := ⟨m1_0, m1_1, m1_2⟩) (c := bothR (twoR 5) ⟨m0_0, m0_1, m0_2⟩ ⟨m1_0, m1_1, m1_2⟩) (g0 := g0) (by assumption) (by omega) (by omega) _ _ _)
    clear hK K
    try simp only [Act.put, List.setIfInBounds_toArray, List.set_cons_zero, List.set_cons_succ]
    refine wpAnyH_take (i := 5) (v := ?v138) rfl (by kernel_rfl) (by kernel_rfl) (by kernel_rfl) (fun _ _ _ h => h) (Or.inl ⟨by rfl, ?hy138⟩) (by assumption) ?_
    case hy138 => (intro w hSw; (try dsimp only at hSw); go_simp; try with_reducible rfl)
    try simp only [Act.put, List.setIfInBounds_toArray, List.set_cons_zero, List.set_cons_succ]
    refine wpAnyH_take (i := 6) (v := ?v139) rfl (by kernel_rfl) (by kernel_rfl) (by kernel_rfl) (fun _ _ _ h => h) (Or.inl ⟨by rfl, ?hy139⟩) (by assumption) ?_
    case hy139 => (intro w hSw; (try dsimp only at hSw); go_simp; try with_reducible rfl)
    try simp only [Act.put, List.setIfInBounds_toArray, List.set_cons_zero, List.set_cons_succ]
    refine wpAnyH_take (i := 7) (v := ?v140) rfl (by kernel_rfl) (by kernel_rfl) (by kernel_rfl) (fun _ _ _ h => h) (Or.inl ⟨by rfl, ?hy140⟩) (by assumption) ?_
    case hy140 => (intro w hSw; (try dsimp only at hSw); go_simp; try with_reducible rfl)
    try simp only [Act.put, List.setIfInBounds_toArray, List.set_cons_zero, List.set_cons_succ]
    refine wpAnyH_ready (rs := [9]) (by kernel_rfl) (by simp) ?_
    refine AllReadyH.cons rfl (fun K hK => ?_) AllReadyH.nil
    go_simp
    refine hK.out _ _ ?_ (fun hHeld => ?_)
    · (try dsimp only); (first | exact ⟨hT.six.1, hT, hP⟩ | assumption | exact sev_alloc (a := ⟨m0_0, m0_1, m0_2⟩) (b := ⟨m1_0, m1_1, m1_2⟩) (c := bothR (twoR 5) ⟨m0_0, m0_1, m0_2⟩ ⟨m1_0, m1_1, m1_2⟩) (g0 := g0) (by assumption) _ | exact sev_call (a := ⟨m0_0, m0_1, m0_2⟩) (b := ⟨m1_0, m1_1, m1_2⟩) (c := bothR (twoR 5) ⟨m0_0, m0_1, m0_2⟩ ⟨m1_0, m1_1, m1_2⟩) (g0 := g0) (by assumption) B1 | exact sev_call (a := ⟨m0_0, m0_1, m0_2⟩) (b := ⟨m1_0, m1_1, m1_2⟩) (c := bothR (twoR 5) ⟨m0_0, m0_1, m0_2⟩ ⟨m1_0, m1_1, m1_2⟩) (g0 := g0) (by assumption) B2 | exact sev_call (a := ⟨m0_0, m0_1, m0_2⟩) (b := ⟨m1_0, m1_1, m1_2⟩) (c := bothR (twoR 5) ⟨m0_0, m0_1, m0_2⟩ ⟨m1_0, m1_1, m1_2⟩) (g0 := g0) (by assumption) B3 | exact sev_set (a := ⟨m0_0, m0_1, m0_2⟩) (b := ⟨m1_0, m1_1, m1_2⟩) (c := bothR (twoR 5) ⟨m0_0, m0_1, m0_2⟩ ⟨m1_0, m1_1, m1_2⟩) (g0 := g0) (by assumption) (by omega) (by omega) _ _ _)
    clear hK K
    try simp only [Act.put, List.setIfInBounds_toArray, List.set_cons_zero, List.set_cons_succ]
    refine wpAnyH_ready (rs := [10]) (by kernel_rfl) (by simp) ?_
    refine AllReadyH.cons rfl (fun K hK => ?_) AllReadyH.nil
    go_simp
    refine hK.out _ _ ?_ (fun hHeld => ?_)
    · (try dsimp only); (first | exact ⟨hT.six.1, hT, hP⟩ | assumption | exact sev_alloc (a := ⟨m0_0, m0_1, m0_2⟩) (b := ⟨m1_0, m1_1, m1_2⟩) (c := bothR (twoR 5) ⟨m0_0, m0_1, m0_2⟩ ⟨m1_0, m1_1, m1_2⟩) (g0 := g0) (by assumption) _ | exact sev_call (a := ⟨m0_0, m0_1, m0_2⟩) (b := ⟨m1_0, m1_1, m1_2⟩) (c := bothR (twoR 5) ⟨m0_0, m0_1, m0_2⟩ ⟨m1_0, m1_1, m1_2⟩) (g0 := g0) (by assumption) B1 | exact sev_call (a := ⟨m0_0, m0_1, m0_2⟩) (b := ⟨m1_0, m1_1, m1_2⟩) (c := bothR (twoR 5) ⟨m0_0, m0_1, m0_2⟩ ⟨m1_0, m1_1, m1_2⟩) (g0 := g0) (by assumption) B2 | exact sev_call (a := ⟨m0_0, m0_1, m0_2⟩) (b := ⟨m1_0, m1_1, m1_2⟩) (c := bothR (twoR 5) ⟨m0_0, m0_1, m0_2⟩ ⟨m1_0, m1_1, m1_2⟩) (g0 := g0) (by assumption) B3 | exact sev_set (a := ⟨m0_0, m0_1, m0_2⟩) (b := ⟨m1_0, m1_1, m1_2⟩) (c := bothR (twoR 5) ⟨m0_0, m0_1, m0_2⟩ ⟨m1_0, m1_1, m1_2⟩) (g0 := g0) (by assumption) (by omega) (by omega) _ _ _)
    clear hK K
    try simp only [Act.put, List.setIfInBounds_toArray, List.set_cons_zero, List.set_cons_succ]
    refine wpAnyH_done (by kernel_rfl) ?_ _
    refine NoPanic.normal ?_
    (rename_i hh; go_wp2_with fail; go_meet; exact ⟨wc.heap.size, rfl, rfl, hh.2.1, ⟨by omega, by first | (simp [World.setCell]; done) | (simp [World.setCell]; omega) | omega, by go_simp, by go_simp, by go_simp⟩, hh.2.2⟩)
  clear hT hP
  obtain ⟨g1, rfl, rfl, hT, hP, hQ⟩ := hcut
  generalize bothR (twoR 5) ⟨m0_0, m0_1, m0_2⟩ ⟨m1_0, m1_1, m1_2⟩ = J at hP hQ
  obtain ⟨t, k, n⟩ := J
  have p0 := hP.c0
  have p1 := hP.c1
  have p2 := hP.c2
  have q0 := hQ.c0
  have q1 := hQ.c1
  have q2 := hQ.c2
  have HB : Hid (Below w.heap.size w wc) := hT.bel
  try simp only at p0 p1 p2 q0 q1 q2
  clear hT hP hQ hwc hg0 hg1
  go_wp2_with fail
  refine (eq_range _ _ _ _).mono ?_
  rintro e w' ⟨rfl, hw⟩
  rw [hw]
  clear hw w'
  go_wp2
  go_ret
  exact ⟨rfl, (HB.out.alloc HB.out.size _).alloc (by have := HB.out.size; simp; omega) _⟩

set_option maxRecDepth 100000 in
theorem lifted (os : Os) (started : os.Started) (H : Type) (enc : TypeId × Value → H) :
    ReturnsInHanded {} Try.checked os 6 .any (Rows.fnExactMulRangesSpec.pre6 enc Try.prog Try.f6 Rows.fnExactMulRangesRow.domain false) (Rows.fnExactMulRangesSpec.post enc Try.prog Try.f6 false true false false) := by
  refine returnsInHanded_of_change (C := Try.checked) own started (by kernel_rfl) Try.func6
    (ChangeSpec.witness6 (enc := enc) (C := Try.checked) false ⟨#[], #[.agg #[.bool false, .int .i64 0, .int .i64 0], .agg #[.bool false, .int .i64 0, .int .i64 0]], []⟩ 8 (by kernel_rfl) (by kernel_rfl) (by kernel_rfl) (by kernel_rfl)) ?_
  intro W base args ds gs before hval0 hW hcnd _
  have hval : ∀ (j : Nat) t v, Try.f6.params[j]? = some t → args[j]? = some v → Value.okWide Try.prog W .any base t v := hval0
  have hW' := hW
  obtain ⟨p, q, hA0, hV, rfl, hfz, hnd⟩ := hW
  have hA : DataW.TrodAll enc Try.prog W 0 (fun _ => true) true Try.f6.params.toList args.toList ds p := hA0
  rw [Try.params6] at hA hval
  obtain ⟨v0, vs0, d0, ds0, p0, q0, hargs, rfl, rfl, h0, r0⟩ := trodAll_cons hA
  obtain ⟨v1, vs1, d1, ds1, p1, q1, rfl, rfl, rfl, h1, r1⟩ := trodAll_cons r0
  obtain ⟨rfl, rfl, rfl⟩ := trodAll_nil r1
  obtain rfl : args = #[v0, v1] := by cases args; simp_all
  obtain ⟨rfl, rfl⟩ := trodVars_none hV
  have k0 := h0
  have lt0 : ∀ x ∈ p0, x.block < W.heap.size := by obtain ⟨m, hm⟩ := k0; exact DataW.trod_lt m _ _ _ hm
  obtain ⟨c0_0, c0_1, c0_2, y0_0, y0_1, y0_2, n0, rfl, rfl, rfl, hy0_0, hy0_1, hy0_2⟩ := Go.Joins.open_agg3 Try.underlying23 (by kernel_rfl) (show Try.prog.cellsOf 23 = 3 by kernel_rfl) (hval 0 23 v0 rfl rfl) h0
  obtain ⟨m0_0, e0_0, rfl⟩ := DataW.trod_bool Try.underlying4 hy0_0
  obtain ⟨m0_1, e0_1, rfl, w0_1⟩ := DataW.trod_int Try.underlying3 hy0_1
  obtain ⟨m0_2, e0_2, rfl, w0_2⟩ := DataW.trod_int Try.underlying3 hy0_2
  simp at e0_0 e0_1 e0_2
  subst e0_0 e0_1 e0_2
  have k1 := h1
  have lt1 : ∀ x ∈ p1, x.block < W.heap.size := by obtain ⟨m, hm⟩ := k1; exact DataW.trod_lt m _ _ _ hm
  obtain ⟨c1_0, c1_1, c1_2, y1_0, y1_1, y1_2, n1, rfl, rfl, rfl, hy1_0, hy1_1, hy1_2⟩ := Go.Joins.open_agg3 Try.underlying23 (by kernel_rfl) (show Try.prog.cellsOf 23 = 3 by kernel_rfl) (hval 1 23 v1 rfl rfl) h1
  obtain ⟨m1_0, e1_0, rfl⟩ := DataW.trod_bool Try.underlying4 hy1_0
  obtain ⟨m1_1, e1_1, rfl, w1_1⟩ := DataW.trod_int Try.underlying3 hy1_1
  obtain ⟨m1_2, e1_2, rfl, w1_2⟩ := DataW.trod_int Try.underlying3 hy1_2
  simp at e1_0 e1_1 e1_2
  subst e1_0 e1_1 e1_2
  clear hA0 hval0
  refine (walk m0_0 m0_1 m0_2 w0_1 w0_2 m1_0 m1_1 m1_2 w1_1 w1_2 W).mono fun e W' ⟨he, bel⟩ => ?_
  subst he
  exact ⟨_, rfl, _, _, _, [], _, [], hW', trodAll_mk1 (shut_bool Try.underlying4 _), (trodAll_cons_mk (Below.trod laidOut (by kernel_rfl) (of_decide_eq_true (by kernel_rfl)) k0 bel lt0) (trodAll_cons_mk (Below.trod laidOut (by kernel_rfl) (of_decide_eq_true (by kernel_rfl)) k1 bel lt1) trodAll_mk0)), rfl, bel.frame _, fun h => by cases h⟩

theorem over : Rows.fnExactMulRangesRow.holds Try.pinned (OpenSpec.ofChange Rows.fnExactMulRangesSpec) :=
  OpenClaim.holds_of_wide 6 Try.f6 rfl rfl rfl rfl rfl rfl rfl ⟨rfl, rfl, rfl, rfl, rfl⟩ rfl rfl rfl rfl rfl (by kernel_rfl) Try.func6 (by kernel_rfl)
    (of_decide_eq_true (by kernel_rfl)) (by unfold Func.isWrapper; first | (rw [if_pos (by decide +kernel)]; kernel_rfl) | (rw [if_neg (by decide +kernel)]; exact ⟨rfl, rfl⟩))
    (fun os started H enc _ => lifted os started H enc)

theorem proved : Rows.FnExactMulRangesSaid :=
  over
#print axioms proved
end Go.Proofs.Ytoeiijkomjlolab.fnExactMulRanges
