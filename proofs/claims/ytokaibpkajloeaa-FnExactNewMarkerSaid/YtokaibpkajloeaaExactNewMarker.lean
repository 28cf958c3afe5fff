/-
  NewMarker answers as the specification, field by field; its answer owns its memory, behind another call too.
-/
import Derived.Test.YtokaibpkajloeaaRows
import Derived.WalkKit
import Derived.ProofKit
import Derived.OpenShut
import Derived.ShutString
import Derived.ChangeOld
import Derived.Below
import Derived.Carry
import Derived.Test.YtokaibpkajloeaaMagMath
import Derived.Test.YtokaibpkajloeaaInts
import Derived.Test.YtokaibpkajloeaaOwnInts
import Derived.Test.YtokaibpkajloeaaDeep
import Derived.Test.YtokaibpkajloeaaDeepOpen
import Derived.Test.YtokaibpkajloeaaDeepRow
import Derived.Test.YtokaibpkajloeaaDeepGrow
import Derived.Test.YtokaibpkajloeaaDeepM
import Derived.Test.YtokaibpkajloeaaMarkMath
import Derived.Test.YtokaibpkajloeaaMarkRun
import Derived.Test.YtokaibpkajloeaaMarkData
import Derived.Test.YtokaibpkajloeaaMarkOut
import Derived.Test.YtokaibpkajloeaaMarkNew
namespace Go.Proofs.Ytokaibpkajloeaa.fnExactNewMarker
open Go.ChangeShapes Go.WideShapes Go.ChangeAt Go.RowKit
open Go.ChangeMaps (open_string shut_string)
open Go.Proofs.Ytokaibpkajloeaa.math
open Go.Proofs.Ytokaibpkajloeaa.ints
open Go.Proofs.Ytokaibpkajloeaa.deep
open Go.Proofs.Ytokaibpkajloeaa.walks
open Go.Proofs.Ytokaibpkajloeaa.deep
set_option linter.unusedVariables false

theorem own : ownKnob Try.prog.godebug = none := by kernel_rfl
theorem laidOut : laidOutB Try.prog = true := by kernel_rfl

def SpecTells (x0 : Int) (lr0_0 : Nat) (csr0_0 : Nat → Dv) (lr0_1 : Nat) (csr0_1 : Nat → Dv) (xr0_2 : Bool) (xr1 : Bool) : Prop := ∀ (W : World) , Calls Try.prog 9 #[.int .i64 x0] W fun e W' => ∃ g0_0 d0_0 g0_1 d0_1, e = .returned (.tuple #[.agg #[.slice g0_0 lr0_0 d0_0, .slice g0_1 lr0_1 d0_1, .bool xr0_2], .bool xr1]) ∧ Holds W' false (.l lr0_0 3 csr0_0) (.slice g0_0 lr0_0 d0_0) ∧ Holds W' false (.l lr0_1 1 csr0_1) (.slice g0_1 lr0_1 d0_1) ∧ Below W.heap.size W W'
def ImplTells (x0 : Int) (lr0_0 : Nat) (csr0_0 : Nat → Dv) (lr0_1 : Nat) (csr0_1 : Nat → Dv) (xr0_2 : Bool) (xr1 : Bool) : Prop := ∀ (W : World) , Calls Try.prog 10 #[.int .i64 x0] W fun e W' => ∃ (g0_0 : Option Addr) (d0_0 : Nat) (g0_1 : Option Addr) (d0_1 : Nat) (F0_0 : Nat → Prop) (F0_1 : Nat → Prop), e = .returned (.tuple #[.agg #[.slice g0_0 lr0_0 d0_0, .slice g0_1 lr0_1 d0_1, .bool xr0_2], .bool xr1]) ∧ Owns W' false W.heap.size (.l lr0_0 3 csr0_0) (.slice g0_0 lr0_0 d0_0) F0_0 ∧ (∀ x, F0_0 x → W.heap.size ≤ x ∧ x < W'.heap.size) ∧ Owns W' false W.heap.size (.l lr0_1 1 csr0_1) (.slice g0_1 lr0_1 d0_1) F0_1 ∧ (∀ x, F0_1 x → W.heap.size ≤ x ∧ x < W'.heap.size) ∧ (∀ x, F0_0 x → ¬ F0_1 x) ∧ Below W.heap.size W W'
set_option maxHeartbeats 16000000 in
set_option maxRecDepth 100000 in
theorem walk_of  (x0 : Int) (lr0_0 : Nat) (csr0_0 : Nat → Dv) (lr0_1 : Nat) (csr0_1 : Nat → Dv) (xr0_2 : Bool) (xr1 : Bool) (w : World)  (hfr0_0 : Hid (Fits shCellS (.l lr0_0 3 csr0_0))) (hsx0_0 : Hid (szD (.l lr0_0 3 csr0_0) ≤ 100000)) (hfr0_1 : Hid (Fits shI (.l lr0_1 1 csr0_1))) (hsx0_1 : Hid (szD (.l lr0_1 1 csr0_1) ≤ 100000)) (Hs : Hid (SpecTells x0 lr0_0 csr0_0 lr0_1 csr0_1 xr0_2 xr1)) (Hi : Hid (ImplTells x0 lr0_0 csr0_0 lr0_1 csr0_1 xr0_2 xr1)) :
    Calls Try.prog 3 #[.int .i64 x0] w fun e w' => e = .returned (.bool true) ∧ Below w.heap.size w w' := by
  have hsr0_0 : Hid (szD (.l lr0_0 3 csr0_0) ≤ 1048576) := Nat.le_trans hsx0_0.out (by decide)
  have hsr0_1 : Hid (szD (.l lr0_1 1 csr0_1) ≤ 1048576) := Nat.le_trans hsx0_1.out (by decide)
  have pe0_2 : (xr0_2 != xr0_2) = false := by cases xr0_2 <;> rfl
  have pe1 : (xr1 != xr1) = false := by cases xr1 <;> rfl
  go_enter Try.func3, Try.ntmps3
  have HS := Hs
  have HI := Hi
  go_wp2_with fail
  refine (HS.out _  ).mono ?_
  rintro e w1 ⟨sa0_0, sc0_0, sa0_1, sc0_1, rfl, hS0_0, hS0_1, hB⟩
  have S0_0 : Hid (Holds w1 false (.l lr0_0 3 csr0_0) (.slice sa0_0 lr0_0 sc0_0)) := hS0_0
  have S0_1 : Hid (Holds w1 false (.l lr0_1 1 csr0_1) (.slice sa0_1 lr0_1 sc0_1)) := hS0_1
  have BW1 : Hid (Below w.heap.size w w1) := hB
  have SZ1 : Hid (w.heap.size ≤ w1.heap.size) := hB.size
  clear hB hS0_0 hS0_1
  go_wp2_with fail
  obtain ⟨w2, EWw2⟩ : ∃ X, X = w1.alloc (.cells #[.slice sa0_0 lr0_0 sc0_0, .slice sa0_1 lr0_1 sc0_1, .bool xr0_2] 25) := ⟨_, rfl⟩
  rw [← EWw2]
  have hB : Below w1.heap.size w1 w2 := by rw [EWw2]; exact (Below.refl _ _).alloc (Nat.le_refl _) _
  have ESw2 : w2.heap.size = w1.heap.size + 1 := by rw [EWw2]; simp
  have BXS0_2 : Hid (w2.rowIs (w1.heap.size) 25 3 (rowF [.slice sa0_0 lr0_0 sc0_0, .slice sa0_1 lr0_1 sc0_1, .bool xr0_2])) := by
    have q := row_of w1 #[.slice sa0_0 lr0_0 sc0_0, .slice sa0_1 lr0_1 sc0_1, .bool xr0_2] 25
    rw [EWw2]; exact q
  have LTS0 : Hid (w1.heap.size < w2.heap.size) := BXS0_2.out.lt
  have ADS0 : Hid (w1.heap.size = w1.heap.size) := by show _ = _; rfl
  have BW2 : Hid (Below w.heap.size w w2) := BW1.out.trans (hB.mono BW1.out.size)
  have SZ2 : Hid (w1.heap.size ≤ w2.heap.size) := hB.size
  have BS2 : Hid (Below w1.heap.size w1 w2) := hB
  clear hB EWw2
  clear ESw2
  refine (HI.out _  ).mono ?_
  rintro e w3 ⟨ga0_0, gc0_0, ga0_1, gc0_1, gP0_0, gP0_1, rfl, hO0_0, hF0_0, hO0_1, hF0_1, hD0_00_1, hB⟩
  have G0_0_3 : Hid (Owns w3 false w2.heap.size (.l lr0_0 3 csr0_0) (.slice ga0_0 lr0_0 gc0_0) gP0_0) := hO0_0
  have GF0_0 : Hid (∀ x, gP0_0 x → w2.heap.size ≤ x ∧ x < w3.heap.size) := hF0_0
  have G0_1_3 : Hid (Owns w3 false w2.heap.size (.l lr0_1 1 csr0_1) (.slice ga0_1 lr0_1 gc0_1) gP0_1) := hO0_1
  have GF0_1 : Hid (∀ x, gP0_1 x → w2.heap.size ≤ x ∧ x < w3.heap.size) := hF0_1
  have GD0_00_1 : Hid (∀ x, gP0_0 x → ¬ gP0_1 x) := hD0_00_1
  have BW3 : Hid (Below w.heap.size w w3) := BW2.out.trans (hB.mono BW2.out.size)
  have SZ3 : Hid (w2.heap.size ≤ w3.heap.size) := hB.size
  have BS3 : Hid (Below w1.heap.size w1 w3) := BS2.out.trans (hB.mono BS2.out.size)
  have BXS0_3 : Hid (w3.rowIs (w1.heap.size) 25 3 (rowF [.slice sa0_0 lr0_0 sc0_0, .slice sa0_1 lr0_1 sc0_1, .bool xr0_2])) := BXS0_2.out.of_block (hB.block _ BXS0_2.out.lt)
  clear hB hO0_0 hF0_0 hO0_1 hF0_1 hD0_00_1
  have blS0 : w1.heap.size < w3.heap.size := BXS0_3.out.lt
  have bcS0_0 : w3.cell? ⟨w1.heap.size, 0, none⟩ = some (.slice sa0_0 lr0_0 sc0_0) := BXS0_3.out.cell (i := 0) (by decide)
  have bcS0_1 : w3.cell? ⟨w1.heap.size, 1, none⟩ = some (.slice sa0_1 lr0_1 sc0_1) := BXS0_3.out.cell (i := 1) (by decide)
  have bcS0_2 : w3.cell? ⟨w1.heap.size, 2, none⟩ = some (.bool xr0_2) := BXS0_3.out.cell (i := 2) (by decide)
  go_wp2_with fail
  clear blS0 bcS0_0 bcS0_1 bcS0_2
  obtain ⟨w4, EWw4⟩ : ∃ X, X = w3.alloc (.cells #[.slice ga0_0 lr0_0 gc0_0, .slice ga0_1 lr0_1 gc0_1, .bool xr0_2] 25) := ⟨_, rfl⟩
  rw [← EWw4]
  have hB : Below w3.heap.size w3 w4 := by rw [EWw4]; exact (Below.refl _ _).alloc (Nat.le_refl _) _
  have ESw4 : w4.heap.size = w3.heap.size + 1 := by rw [EWw4]; simp
  have BXG0_4 : Hid (w4.rowIs (w3.heap.size) 25 3 (rowF [.slice ga0_0 lr0_0 gc0_0, .slice ga0_1 lr0_1 gc0_1, .bool xr0_2])) := by
    have q := row_of w3 #[.slice ga0_0 lr0_0 gc0_0, .slice ga0_1 lr0_1 gc0_1, .bool xr0_2] 25
    rw [EWw4]; exact q
  have LTG0 : Hid (w3.heap.size < w4.heap.size) := BXG0_4.out.lt
  have ADG0 : Hid (w3.heap.size = w3.heap.size) := by show _ = _; rfl
  have BW4 : Hid (Below w.heap.size w w4) := BW3.out.trans (hB.mono BW3.out.size)
  have SZ4 : Hid (w3.heap.size ≤ w4.heap.size) := hB.size
  have BS4 : Hid (Below w1.heap.size w1 w4) := BS3.out.trans (hB.mono BS3.out.size)
  have G0_0_4 : Hid (Owns w4 false w2.heap.size (.l lr0_0 3 csr0_0) (.slice ga0_0 lr0_0 gc0_0) gP0_0) := G0_0_3.out.kept hB
  have G0_1_4 : Hid (Owns w4 false w2.heap.size (.l lr0_1 1 csr0_1) (.slice ga0_1 lr0_1 gc0_1) gP0_1) := G0_1_3.out.kept hB
  have BXS0_4 : Hid (w4.rowIs (w1.heap.size) 25 3 (rowF [.slice sa0_0 lr0_0 sc0_0, .slice sa0_1 lr0_1 sc0_1, .bool xr0_2])) := BXS0_3.out.of_block (hB.block _ BXS0_3.out.lt)
  clear hB EWw4
  clear ESw4
  refine (Marker_eq _ _ _ csr0_0 _ _ _ csr0_1 xr0_2 _ _ _ _ _ _ _ hfr0_0 hsr0_0 G0_0_4.out.holds hfr0_1 hsr0_1 G0_1_4.out.holds (S0_0.out.kept BS4.out) (S0_1.out.kept BS4.out)).mono ?_
  rintro e w5 ⟨rfl, hB⟩
  have BW5 : Hid (Below w.heap.size w w5) := BW4.out.trans (hB.mono BW4.out.size)
  have SZ5 : Hid (w4.heap.size ≤ w5.heap.size) := hB.size
  have BS5 : Hid (Below w1.heap.size w1 w5) := BS4.out.trans (hB.mono BS4.out.size)
  have G0_0_5 : Hid (Owns w5 false w2.heap.size (.l lr0_0 3 csr0_0) (.slice ga0_0 lr0_0 gc0_0) gP0_0) := G0_0_4.out.kept hB
  have G0_1_5 : Hid (Owns w5 false w2.heap.size (.l lr0_1 1 csr0_1) (.slice ga0_1 lr0_1 gc0_1) gP0_1) := G0_1_4.out.kept hB
  have BXS0_5 : Hid (w5.rowIs (w1.heap.size) 25 3 (rowF [.slice sa0_0 lr0_0 sc0_0, .slice sa0_1 lr0_1 sc0_1, .bool xr0_2])) := BXS0_4.out.of_block (hB.block _ BXS0_4.out.lt)
  have BXG0_5 : Hid (w5.rowIs (w3.heap.size) 25 3 (rowF [.slice ga0_0 lr0_0 gc0_0, .slice ga0_1 lr0_1 gc0_1, .bool xr0_2])) := BXG0_4.out.of_block (hB.block _ BXG0_4.out.lt)
  clear hB
  have hk : (0 : Int) ≤ 1 := by omega
  have hcnr0_0 := cnt_le thin_CellS hfr0_0.out
  obtain ⟨M0_0, HM0_0⟩ : ∃ N, Hid (cntD (.l lr0_0 3 csr0_0) = N) := ⟨_, rfl⟩
  have hM0_0 : M0_0 ≤ 800001 := by have q := hsx0_0.out; rw [HM0_0.out] at hcnr0_0; omega
  clear hcnr0_0
  have hcnr0_1 := cnt_le (s := shI) ⟨by decide, fun _ => trivial⟩ hfr0_1.out
  obtain ⟨M0_1, HM0_1⟩ : ∃ N, Hid (cntD (.l lr0_1 1 csr0_1) = N) := ⟨_, rfl⟩
  have hM0_1 : M0_1 ≤ 800001 := by have q := hsx0_1.out; rw [HM0_1.out] at hcnr0_1; omega
  clear hcnr0_1
  have blS0 : w1.heap.size < w5.heap.size := BXS0_5.out.lt
  have bcS0_0 : w5.cell? ⟨w1.heap.size, 0, none⟩ = some (.slice sa0_0 lr0_0 sc0_0) := BXS0_5.out.cell (i := 0) (by decide)
  have bcS0_1 : w5.cell? ⟨w1.heap.size, 1, none⟩ = some (.slice sa0_1 lr0_1 sc0_1) := BXS0_5.out.cell (i := 1) (by decide)
  have bcS0_2 : w5.cell? ⟨w1.heap.size, 2, none⟩ = some (.bool xr0_2) := BXS0_5.out.cell (i := 2) (by decide)
  have blG0 : w3.heap.size < w5.heap.size := BXG0_5.out.lt
  have bcG0_0 : w5.cell? ⟨w3.heap.size, 0, none⟩ = some (.slice ga0_0 lr0_0 gc0_0) := BXG0_5.out.cell (i := 0) (by decide)
  have bcG0_1 : w5.cell? ⟨w3.heap.size, 1, none⟩ = some (.slice ga0_1 lr0_1 gc0_1) := BXG0_5.out.cell (i := 1) (by decide)
  have bcG0_2 : w5.cell? ⟨w3.heap.size, 2, none⟩ = some (.bool xr0_2) := BXG0_5.out.cell (i := 2) (by decide)
  go_wp2_with fail
  clear blS0 bcS0_0 bcS0_1 bcS0_2 blG0 bcG0_0 bcG0_1 bcG0_2
  refine (Marker_mark (1) (by omega) (by omega) _ _ _ csr0_0 _ _ _ csr0_1 xr0_2 false _ _ _ _ hfr0_0 hsr0_0 G0_0_5 (fun x hx => by have r1 := (GF0_0.out x hx).2; have q4 := SZ4.out; have q5 := SZ5.out; omega) hfr0_1 hsr0_1 G0_1_5 (fun x hx => by have r1 := (GF0_1.out x hx).2; have q4 := SZ4.out; have q5 := SZ5.out; omega) GD0_00_1.out).mono ?_
  rw [HM0_0.out, HM0_1.out]
  rintro e w6 ⟨rfl, hO0_0, hO0_1, hF⟩
  have hB : Below w2.heap.size w5 w6 := hF.below (by have q3 := SZ3.out; have q4 := SZ4.out; have q5 := SZ5.out; omega) (fun x hx => by rcases hx with hx | hx <;> first | exact (GF0_0.out x hx).1 | exact (GF0_1.out x hx).1)
  have BW6 : Hid (Below w.heap.size w w6) := BW5.out.trans (hB.mono BW2.out.size)
  have SZ6 : Hid (w5.heap.size ≤ w6.heap.size) := hB.size
  have BS6 : Hid (Below w1.heap.size w1 w6) := BS5.out.trans (hB.mono BS2.out.size)
  have G0_0_6 : Hid (Owns w6 false w2.heap.size (mkD (1) (.l lr0_0 3 csr0_0)) (.slice ga0_0 lr0_0 gc0_0) gP0_0) := hO0_0
  have G0_1_6 : Hid (Owns w6 false w2.heap.size (mkD (1 + (M0_0 : Int)) (.l lr0_1 1 csr0_1)) (.slice ga0_1 lr0_1 gc0_1) gP0_1) := hO0_1
  have BXS0_6 : Hid (w6.rowIs (w1.heap.size) 25 3 (rowF [.slice sa0_0 lr0_0 sc0_0, .slice sa0_1 lr0_1 sc0_1, .bool xr0_2])) := BXS0_5.out.of_block (hF.block _ BXS0_5.out.lt (fun hy => by rcases hy with hy | hy <;> first | (have r0 := GF0_0.out _ hy; have r1 := r0.1; have r2 := LTS0.out;  omega) | (have r0 := GF0_1.out _ hy; have r1 := r0.1; have r2 := LTS0.out;  omega)))
  have BXG0_6 : Hid (w6.rowIs (w3.heap.size) 25 3 (rowF [.slice ga0_0 lr0_0 gc0_0, .slice ga0_1 lr0_1 gc0_1, .bool xr0_2])) := BXG0_5.out.of_block (hF.block _ BXG0_5.out.lt (fun hy => by rcases hy with hy | hy <;> first | (have r0 := GF0_0.out _ hy; have r1 := r0.2; have r3 := ADG0.out;  omega) | (have r0 := GF0_1.out _ hy; have r1 := r0.2; have r3 := ADG0.out;  omega)))
  clear hF hB hO0_0 hO0_1
  have hm : (0 : Int) ≤ 1 + (M0_0 : Int) + (M0_1 : Int) := by omega
  have blS0 : w1.heap.size < w6.heap.size := BXS0_6.out.lt
  have bcS0_0 : w6.cell? ⟨w1.heap.size, 0, none⟩ = some (.slice sa0_0 lr0_0 sc0_0) := BXS0_6.out.cell (i := 0) (by decide)
  have bcS0_1 : w6.cell? ⟨w1.heap.size, 1, none⟩ = some (.slice sa0_1 lr0_1 sc0_1) := BXS0_6.out.cell (i := 1) (by decide)
  have bcS0_2 : w6.cell? ⟨w1.heap.size, 2, none⟩ = some (.bool xr0_2) := BXS0_6.out.cell (i := 2) (by decide)
  have blG0 : w3.heap.size < w6.heap.size := BXG0_6.out.lt
  have bcG0_0 : w6.cell? ⟨w3.heap.size, 0, none⟩ = some (.slice ga0_0 lr0_0 gc0_0) := BXG0_6.out.cell (i := 0) (by decide)
  have bcG0_1 : w6.cell? ⟨w3.heap.size, 1, none⟩ = some (.slice ga0_1 lr0_1 gc0_1) := BXG0_6.out.cell (i := 1) (by decide)
  have bcG0_2 : w6.cell? ⟨w3.heap.size, 2, none⟩ = some (.bool xr0_2) := BXG0_6.out.cell (i := 2) (by decide)
  go_wp2_with fail
  clear blS0 bcS0_0 bcS0_1 bcS0_2 blG0 bcG0_0 bcG0_1 bcG0_2
  refine (Marker_held (1) (by omega) _ _ _ csr0_0 _ _ _ csr0_1 xr0_2 false _ hfr0_0 hsr0_0 hfr0_1 hsr0_1 (by rw [HM0_0.out, HM0_1.out]; omega) G0_0_6.out.holds (by rw [HM0_0.out]; exact G0_1_6.out.holds)).mono ?_
  rw [HM0_0.out, HM0_1.out]
  rintro e w7 ⟨rfl, hB⟩
  have BW7 : Hid (Below w.heap.size w w7) := BW6.out.trans (hB.mono BW6.out.size)
  have SZ7 : Hid (w6.heap.size ≤ w7.heap.size) := hB.size
  have BS7 : Hid (Below w1.heap.size w1 w7) := BS6.out.trans (hB.mono BS6.out.size)
  have G0_0_7 : Hid (Owns w7 false w2.heap.size (mkD (1) (.l lr0_0 3 csr0_0)) (.slice ga0_0 lr0_0 gc0_0) gP0_0) := G0_0_6.out.kept hB
  have G0_1_7 : Hid (Owns w7 false w2.heap.size (mkD (1 + (M0_0 : Int)) (.l lr0_1 1 csr0_1)) (.slice ga0_1 lr0_1 gc0_1) gP0_1) := G0_1_6.out.kept hB
  have BXS0_7 : Hid (w7.rowIs (w1.heap.size) 25 3 (rowF [.slice sa0_0 lr0_0 sc0_0, .slice sa0_1 lr0_1 sc0_1, .bool xr0_2])) := BXS0_6.out.of_block (hB.block _ BXS0_6.out.lt)
  have BXG0_7 : Hid (w7.rowIs (w3.heap.size) 25 3 (rowF [.slice ga0_0 lr0_0 gc0_0, .slice ga0_1 lr0_1 gc0_1, .bool xr0_2])) := BXG0_6.out.of_block (hB.block _ BXG0_6.out.lt)
  clear hB
  have hq7_0 : (0 : Int) ≤ 1 + (M0_0 : Int) + (M0_1 : Int) := by omega
  have blS0 : w1.heap.size < w7.heap.size := BXS0_7.out.lt
  have bcS0_0 : w7.cell? ⟨w1.heap.size, 0, none⟩ = some (.slice sa0_0 lr0_0 sc0_0) := BXS0_7.out.cell (i := 0) (by decide)
  have bcS0_1 : w7.cell? ⟨w1.heap.size, 1, none⟩ = some (.slice sa0_1 lr0_1 sc0_1) := BXS0_7.out.cell (i := 1) (by decide)
  have bcS0_2 : w7.cell? ⟨w1.heap.size, 2, none⟩ = some (.bool xr0_2) := BXS0_7.out.cell (i := 2) (by decide)
  have blG0 : w3.heap.size < w7.heap.size := BXG0_7.out.lt
  have bcG0_0 : w7.cell? ⟨w3.heap.size, 0, none⟩ = some (.slice ga0_0 lr0_0 gc0_0) := BXG0_7.out.cell (i := 0) (by decide)
  have bcG0_1 : w7.cell? ⟨w3.heap.size, 1, none⟩ = some (.slice ga0_1 lr0_1 gc0_1) := BXG0_7.out.cell (i := 1) (by decide)
  have bcG0_2 : w7.cell? ⟨w3.heap.size, 2, none⟩ = some (.bool xr0_2) := BXG0_7.out.cell (i := 2) (by decide)
  go_wp2_with fail
  clear blS0 bcS0_0 bcS0_1 bcS0_2 blG0 bcG0_0 bcG0_1 bcG0_2
  refine (HI.out _  ).mono ?_
  rintro e w8 ⟨ha0_0, hc0_0, ha0_1, hc0_1, hP0_0, hP0_1, rfl, hO0_0, hF0_0, hO0_1, hF0_1, hD0_00_1, hB⟩
  have H0_0_8 : Hid (Owns w8 false w7.heap.size (.l lr0_0 3 csr0_0) (.slice ha0_0 lr0_0 hc0_0) hP0_0) := hO0_0
  have HF0_0 : Hid (∀ x, hP0_0 x → w7.heap.size ≤ x ∧ x < w8.heap.size) := hF0_0
  have H0_1_8 : Hid (Owns w8 false w7.heap.size (.l lr0_1 1 csr0_1) (.slice ha0_1 lr0_1 hc0_1) hP0_1) := hO0_1
  have HF0_1 : Hid (∀ x, hP0_1 x → w7.heap.size ≤ x ∧ x < w8.heap.size) := hF0_1
  have HD0_00_1 : Hid (∀ x, hP0_0 x → ¬ hP0_1 x) := hD0_00_1
  have BW8 : Hid (Below w.heap.size w w8) := BW7.out.trans (hB.mono BW7.out.size)
  have SZ8 : Hid (w7.heap.size ≤ w8.heap.size) := hB.size
  have BS8 : Hid (Below w1.heap.size w1 w8) := BS7.out.trans (hB.mono BS7.out.size)
  have G0_0_8 : Hid (Owns w8 false w2.heap.size (mkD (1) (.l lr0_0 3 csr0_0)) (.slice ga0_0 lr0_0 gc0_0) gP0_0) := G0_0_7.out.kept hB
  have G0_1_8 : Hid (Owns w8 false w2.heap.size (mkD (1 + (M0_0 : Int)) (.l lr0_1 1 csr0_1)) (.slice ga0_1 lr0_1 gc0_1) gP0_1) := G0_1_7.out.kept hB
  have BXS0_8 : Hid (w8.rowIs (w1.heap.size) 25 3 (rowF [.slice sa0_0 lr0_0 sc0_0, .slice sa0_1 lr0_1 sc0_1, .bool xr0_2])) := BXS0_7.out.of_block (hB.block _ BXS0_7.out.lt)
  have BXG0_8 : Hid (w8.rowIs (w3.heap.size) 25 3 (rowF [.slice ga0_0 lr0_0 gc0_0, .slice ga0_1 lr0_1 gc0_1, .bool xr0_2])) := BXG0_7.out.of_block (hB.block _ BXG0_7.out.lt)
  clear hB hO0_0 hF0_0 hO0_1 hF0_1 hD0_00_1
  have blS0 : w1.heap.size < w8.heap.size := BXS0_8.out.lt
  have bcS0_0 : w8.cell? ⟨w1.heap.size, 0, none⟩ = some (.slice sa0_0 lr0_0 sc0_0) := BXS0_8.out.cell (i := 0) (by decide)
  have bcS0_1 : w8.cell? ⟨w1.heap.size, 1, none⟩ = some (.slice sa0_1 lr0_1 sc0_1) := BXS0_8.out.cell (i := 1) (by decide)
  have bcS0_2 : w8.cell? ⟨w1.heap.size, 2, none⟩ = some (.bool xr0_2) := BXS0_8.out.cell (i := 2) (by decide)
  have blG0 : w3.heap.size < w8.heap.size := BXG0_8.out.lt
  have bcG0_0 : w8.cell? ⟨w3.heap.size, 0, none⟩ = some (.slice ga0_0 lr0_0 gc0_0) := BXG0_8.out.cell (i := 0) (by decide)
  have bcG0_1 : w8.cell? ⟨w3.heap.size, 1, none⟩ = some (.slice ga0_1 lr0_1 gc0_1) := BXG0_8.out.cell (i := 1) (by decide)
  have bcG0_2 : w8.cell? ⟨w3.heap.size, 2, none⟩ = some (.bool xr0_2) := BXG0_8.out.cell (i := 2) (by decide)
  go_wp2_with fail
  clear blS0 bcS0_0 bcS0_1 bcS0_2 blG0 bcG0_0 bcG0_1 bcG0_2
  obtain ⟨w9, EWw9⟩ : ∃ X, X = w8.alloc (.cells #[.slice ha0_0 lr0_0 hc0_0, .slice ha0_1 lr0_1 hc0_1, .bool xr0_2] 25) := ⟨_, rfl⟩
  rw [← EWw9]
  have hB : Below w8.heap.size w8 w9 := by rw [EWw9]; exact (Below.refl _ _).alloc (Nat.le_refl _) _
  have ESw9 : w9.heap.size = w8.heap.size + 1 := by rw [EWw9]; simp
  have BXH0_9 : Hid (w9.rowIs (w8.heap.size) 25 3 (rowF [.slice ha0_0 lr0_0 hc0_0, .slice ha0_1 lr0_1 hc0_1, .bool xr0_2])) := by
    have q := row_of w8 #[.slice ha0_0 lr0_0 hc0_0, .slice ha0_1 lr0_1 hc0_1, .bool xr0_2] 25
    rw [EWw9]; exact q
  have LTH0 : Hid (w8.heap.size < w9.heap.size) := BXH0_9.out.lt
  have ADH0 : Hid (w8.heap.size = w8.heap.size) := by show _ = _; rfl
  have BW9 : Hid (Below w.heap.size w w9) := BW8.out.trans (hB.mono BW8.out.size)
  have SZ9 : Hid (w8.heap.size ≤ w9.heap.size) := hB.size
  have BS9 : Hid (Below w1.heap.size w1 w9) := BS8.out.trans (hB.mono BS8.out.size)
  have G0_0_9 : Hid (Owns w9 false w2.heap.size (mkD (1) (.l lr0_0 3 csr0_0)) (.slice ga0_0 lr0_0 gc0_0) gP0_0) := G0_0_8.out.kept hB
  have G0_1_9 : Hid (Owns w9 false w2.heap.size (mkD (1 + (M0_0 : Int)) (.l lr0_1 1 csr0_1)) (.slice ga0_1 lr0_1 gc0_1) gP0_1) := G0_1_8.out.kept hB
  have H0_0_9 : Hid (Owns w9 false w7.heap.size (.l lr0_0 3 csr0_0) (.slice ha0_0 lr0_0 hc0_0) hP0_0) := H0_0_8.out.kept hB
  have H0_1_9 : Hid (Owns w9 false w7.heap.size (.l lr0_1 1 csr0_1) (.slice ha0_1 lr0_1 hc0_1) hP0_1) := H0_1_8.out.kept hB
  have BXS0_9 : Hid (w9.rowIs (w1.heap.size) 25 3 (rowF [.slice sa0_0 lr0_0 sc0_0, .slice sa0_1 lr0_1 sc0_1, .bool xr0_2])) := BXS0_8.out.of_block (hB.block _ BXS0_8.out.lt)
  have BXG0_9 : Hid (w9.rowIs (w3.heap.size) 25 3 (rowF [.slice ga0_0 lr0_0 gc0_0, .slice ga0_1 lr0_1 gc0_1, .bool xr0_2])) := BXG0_8.out.of_block (hB.block _ BXG0_8.out.lt)
  clear hB EWw9
  clear ESw9
  refine (Marker_eq _ _ _ csr0_0 _ _ _ csr0_1 xr0_2 _ _ _ _ _ _ _ hfr0_0 hsr0_0 H0_0_9.out.holds hfr0_1 hsr0_1 H0_1_9.out.holds (S0_0.out.kept BS9.out) (S0_1.out.kept BS9.out)).mono ?_
  rintro e w10 ⟨rfl, hB⟩
  have BW10 : Hid (Below w.heap.size w w10) := BW9.out.trans (hB.mono BW9.out.size)
  have SZ10 : Hid (w9.heap.size ≤ w10.heap.size) := hB.size
  have BS10 : Hid (Below w1.heap.size w1 w10) := BS9.out.trans (hB.mono BS9.out.size)
  have G0_0_10 : Hid (Owns w10 false w2.heap.size (mkD (1) (.l lr0_0 3 csr0_0)) (.slice ga0_0 lr0_0 gc0_0) gP0_0) := G0_0_9.out.kept hB
  have G0_1_10 : Hid (Owns w10 false w2.heap.size (mkD (1 + (M0_0 : Int)) (.l lr0_1 1 csr0_1)) (.slice ga0_1 lr0_1 gc0_1) gP0_1) := G0_1_9.out.kept hB
  have H0_0_10 : Hid (Owns w10 false w7.heap.size (.l lr0_0 3 csr0_0) (.slice ha0_0 lr0_0 hc0_0) hP0_0) := H0_0_9.out.kept hB
  have H0_1_10 : Hid (Owns w10 false w7.heap.size (.l lr0_1 1 csr0_1) (.slice ha0_1 lr0_1 hc0_1) hP0_1) := H0_1_9.out.kept hB
  have BXS0_10 : Hid (w10.rowIs (w1.heap.size) 25 3 (rowF [.slice sa0_0 lr0_0 sc0_0, .slice sa0_1 lr0_1 sc0_1, .bool xr0_2])) := BXS0_9.out.of_block (hB.block _ BXS0_9.out.lt)
  have BXG0_10 : Hid (w10.rowIs (w3.heap.size) 25 3 (rowF [.slice ga0_0 lr0_0 gc0_0, .slice ga0_1 lr0_1 gc0_1, .bool xr0_2])) := BXG0_9.out.of_block (hB.block _ BXG0_9.out.lt)
  have BXH0_10 : Hid (w10.rowIs (w8.heap.size) 25 3 (rowF [.slice ha0_0 lr0_0 hc0_0, .slice ha0_1 lr0_1 hc0_1, .bool xr0_2])) := BXH0_9.out.of_block (hB.block _ BXH0_9.out.lt)
  clear hB
  have blS0 : w1.heap.size < w10.heap.size := BXS0_10.out.lt
  have bcS0_0 : w10.cell? ⟨w1.heap.size, 0, none⟩ = some (.slice sa0_0 lr0_0 sc0_0) := BXS0_10.out.cell (i := 0) (by decide)
  have bcS0_1 : w10.cell? ⟨w1.heap.size, 1, none⟩ = some (.slice sa0_1 lr0_1 sc0_1) := BXS0_10.out.cell (i := 1) (by decide)
  have bcS0_2 : w10.cell? ⟨w1.heap.size, 2, none⟩ = some (.bool xr0_2) := BXS0_10.out.cell (i := 2) (by decide)
  have blG0 : w3.heap.size < w10.heap.size := BXG0_10.out.lt
  have bcG0_0 : w10.cell? ⟨w3.heap.size, 0, none⟩ = some (.slice ga0_0 lr0_0 gc0_0) := BXG0_10.out.cell (i := 0) (by decide)
  have bcG0_1 : w10.cell? ⟨w3.heap.size, 1, none⟩ = some (.slice ga0_1 lr0_1 gc0_1) := BXG0_10.out.cell (i := 1) (by decide)
  have bcG0_2 : w10.cell? ⟨w3.heap.size, 2, none⟩ = some (.bool xr0_2) := BXG0_10.out.cell (i := 2) (by decide)
  have blH0 : w8.heap.size < w10.heap.size := BXH0_10.out.lt
  have bcH0_0 : w10.cell? ⟨w8.heap.size, 0, none⟩ = some (.slice ha0_0 lr0_0 hc0_0) := BXH0_10.out.cell (i := 0) (by decide)
  have bcH0_1 : w10.cell? ⟨w8.heap.size, 1, none⟩ = some (.slice ha0_1 lr0_1 hc0_1) := BXH0_10.out.cell (i := 1) (by decide)
  have bcH0_2 : w10.cell? ⟨w8.heap.size, 2, none⟩ = some (.bool xr0_2) := BXH0_10.out.cell (i := 2) (by decide)
  go_wp2_with fail
  clear blS0 bcS0_0 bcS0_1 bcS0_2 blG0 bcG0_0 bcG0_1 bcG0_2 blH0 bcH0_0 bcH0_1 bcH0_2
  refine (Marker_held (1) (by omega) _ _ _ csr0_0 _ _ _ csr0_1 xr0_2 false _ hfr0_0 hsr0_0 hfr0_1 hsr0_1 (by rw [HM0_0.out, HM0_1.out]; omega) G0_0_10.out.holds (by rw [HM0_0.out]; exact G0_1_10.out.holds)).mono ?_
  rw [HM0_0.out, HM0_1.out]
  rintro e w11 ⟨rfl, hB⟩
  have BW11 : Hid (Below w.heap.size w w11) := BW10.out.trans (hB.mono BW10.out.size)
  have SZ11 : Hid (w10.heap.size ≤ w11.heap.size) := hB.size
  have BS11 : Hid (Below w1.heap.size w1 w11) := BS10.out.trans (hB.mono BS10.out.size)
  have G0_0_11 : Hid (Owns w11 false w2.heap.size (mkD (1) (.l lr0_0 3 csr0_0)) (.slice ga0_0 lr0_0 gc0_0) gP0_0) := G0_0_10.out.kept hB
  have G0_1_11 : Hid (Owns w11 false w2.heap.size (mkD (1 + (M0_0 : Int)) (.l lr0_1 1 csr0_1)) (.slice ga0_1 lr0_1 gc0_1) gP0_1) := G0_1_10.out.kept hB
  have H0_0_11 : Hid (Owns w11 false w7.heap.size (.l lr0_0 3 csr0_0) (.slice ha0_0 lr0_0 hc0_0) hP0_0) := H0_0_10.out.kept hB
  have H0_1_11 : Hid (Owns w11 false w7.heap.size (.l lr0_1 1 csr0_1) (.slice ha0_1 lr0_1 hc0_1) hP0_1) := H0_1_10.out.kept hB
  have BXS0_11 : Hid (w11.rowIs (w1.heap.size) 25 3 (rowF [.slice sa0_0 lr0_0 sc0_0, .slice sa0_1 lr0_1 sc0_1, .bool xr0_2])) := BXS0_10.out.of_block (hB.block _ BXS0_10.out.lt)
  have BXG0_11 : Hid (w11.rowIs (w3.heap.size) 25 3 (rowF [.slice ga0_0 lr0_0 gc0_0, .slice ga0_1 lr0_1 gc0_1, .bool xr0_2])) := BXG0_10.out.of_block (hB.block _ BXG0_10.out.lt)
  have BXH0_11 : Hid (w11.rowIs (w8.heap.size) 25 3 (rowF [.slice ha0_0 lr0_0 hc0_0, .slice ha0_1 lr0_1 hc0_1, .bool xr0_2])) := BXH0_10.out.of_block (hB.block _ BXH0_10.out.lt)
  clear hB
  have hq11_0 : (0 : Int) ≤ 1 + (M0_0 : Int) + (M0_1 : Int) := by omega
  go_wp2
  go_ret
  exact ⟨rfl, BW11.out⟩
theorem walk (a0 : Int) (w0 : (Lit.int .i64 a0).wf = true) (w : World) :
    Calls Try.prog 3 #[.int .i64 a0] w fun e w' => e = .returned (.bool true) ∧ Below w.heap.size w w' := by
  by_cases hn : 2 ≤ a0 ∧ a0 ≤ 10
  · obtain ⟨k, rfl⟩ : ∃ k : Nat, a0 = (k : Int) := ⟨a0.toNat, by omega⟩
    have hk : k ≤ 10 := by omega
    refine walk_of (k : Int) k (cellD newS) 2 (rootD newS) false true w (cell_fits newS k) (cell_size newS hk) (root_fits newS 2) (root_size newS) ?_ ?_
    · intro W
      refine (spec_newmarker (k : Int) W).mono (fun e W' q => ?_)
      rcases q with ⟨h0, _⟩ | ⟨j, v, ej, _, _, rfl, g0, d0, g1, d1, F0, F1, rfl, o0, l0, o1, l1, dd, b⟩
      · exact absurd hn h0
      · have ej : k = j := by omega
        subst ej
        exact ⟨g0, d0, g1, d1, rfl, o0.holds, o1.holds, b⟩
    · intro W
      refine (impl_newmarker (k : Int) W).mono (fun e W' q => ?_)
      rcases q with ⟨h0, _⟩ | ⟨j, v, ej, _, _, rfl, g0, d0, g1, d1, F0, F1, rfl, o0, l0, o1, l1, dd, b⟩
      · exact absurd hn h0
      · have ej : k = j := by omega
        subst ej
        exact ⟨g0, d0, g1, d1, F0, F1, rfl, o0, l0, o1, l1, dd, b⟩
  · refine walk_of a0 0 (cellD newS) 0 (rootD newS) false false w (cell_fits newS 0) (cell_size newS (by decide)) (root_fits newS 0) (by show szD _ ≤ 100000; decide) ?_ ?_
    · intro W
      refine (spec_newmarker a0 W).mono (fun e W' q => ?_)
      rcases q with ⟨_, rfl, b⟩ | ⟨j, v, rfl, j0, j1, _⟩
      · exact ⟨none, 0, none, 0, rfl, ⟨none, 0, rfl, (fun q => by cases q), Or.inl (by decide)⟩, ⟨none, 0, rfl, (fun q => by cases q), Or.inl (by decide)⟩, b⟩
      · exact absurd ⟨by omega, by omega⟩ hn
    · intro W
      refine (impl_newmarker a0 W).mono (fun e W' q => ?_)
      rcases q with ⟨_, rfl, b⟩ | ⟨j, v, rfl, j0, j1, _⟩
      · exact ⟨none, 0, none, 0, fun _ => False, fun _ => False, rfl, ⟨none, 0, rfl, (fun q => by cases q), Or.inl (by decide)⟩, (fun x q => q.elim), ⟨none, 0, rfl, (fun q => by cases q), Or.inl (by decide)⟩, (fun x q => q.elim), (fun x q => q.elim), b⟩
      · exact absurd ⟨by omega, by omega⟩ hn

set_option maxRecDepth 100000 in
set_option maxHeartbeats 4000000 in
theorem lifted (os : Os) (started : os.Started) (H : Type) (enc : TypeId × Value → H) :
    ReturnsInHanded {} Try.checked os 3 .any (Rows.fnExactNewMarkerSpec.pre6 enc Try.prog Try.f3 Rows.fnExactNewMarkerRow.domain false) (Rows.fnExactNewMarkerSpec.post enc Try.prog Try.f3 false true false false) := by
  refine returnsInHanded_of_change (C := Try.checked) own started (by kernel_rfl) Try.func3
    (ChangeSpec.witness6 (enc := enc) (C := Try.checked) false ⟨#[], #[.int .i64 0], []⟩ 8 (by kernel_rfl) (by kernel_rfl) (by kernel_rfl) (by kernel_rfl)) ?_
  intro W base args ds gs before hval0 hW hcnd _
  have hval : ∀ (j : Nat) t v, Try.f3.params[j]? = some t → args[j]? = some v → Value.okWide Try.prog W .any base t v := hval0
  have hW' := hW
  obtain ⟨p, q, hA0, hV, rfl, hfz, hnd⟩ := hW
  have hA : DataW.TrodAll enc Try.prog W 0 (fun _ => true) true Try.f3.params.toList args.toList ds p := hA0
  rw [Try.params3] at hA hval
  obtain ⟨v0, vs0, d0, ds0, p0, q0, hargs, rfl, rfl, h0, r0⟩ := trodAll_cons hA
  obtain ⟨rfl, rfl, rfl⟩ := trodAll_nil r0
  obtain rfl : args = #[v0] := by cases args; simp_all
  obtain ⟨rfl, rfl⟩ := trodVars_none hV
  have k0 := h0
  have lt0 : ∀ x ∈ p0, x.block < W.heap.size := by obtain ⟨m, hm⟩ := k0; exact DataW.trod_lt m _ _ _ hm
  obtain ⟨a0, rfl, rfl, rfl, w0⟩ := open_int Try.underlying3 (hval 0 3 v0 rfl rfl) h0
  clear hA0 hval0
  refine (walk a0 w0 W).mono fun e W' ⟨he, bel⟩ => ?_
  subst he
  exact ⟨_, rfl, _, _, _, [], _, [], hW', trodAll_mk1 (shut_bool Try.underlying4 _), (trodAll_cons_mk (Below.trod laidOut (by kernel_rfl) (of_decide_eq_true (by kernel_rfl)) k0 bel lt0) trodAll_mk0), rfl, bel.frame _, fun h => by cases h⟩

theorem over : Rows.fnExactNewMarkerRow.holds Try.pinned (OpenSpec.ofChange Rows.fnExactNewMarkerSpec) :=
  OpenClaim.holds_of_wide 3 Try.f3 rfl rfl rfl rfl rfl rfl rfl ⟨rfl, rfl, rfl, rfl, rfl⟩ rfl rfl rfl rfl rfl (by kernel_rfl) Try.func3 (by kernel_rfl)
    (of_decide_eq_true (by kernel_rfl)) (by unfold Func.isWrapper; first | (rw [if_pos (by decide +kernel)]; kernel_rfl) | (rw [if_neg (by decide +kernel)]; exact ⟨rfl, rfl⟩))
    (fun os started H enc _ => lifted os started H enc)

theorem proved : Rows.FnExactNewMarkerSaid :=
  over
#print axioms proved
end Go.Proofs.Ytokaibpkajloeaa.fnExactNewMarker
