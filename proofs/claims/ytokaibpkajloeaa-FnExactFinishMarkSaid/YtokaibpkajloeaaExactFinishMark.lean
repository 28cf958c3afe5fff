/-
  At every marker FinishMark answers as the specification, field by field; it writes into no argument and its answer owns its memory.
-/
import Derived.Test.YtokaibpkajloeaaRows
import Derived.WalkKit
import Derived.ProofKit
import Derived.OpenShut
import Derived.ShutString
import Derived.ChangeOld
import Derived.Below
import Derived.Carry
import Derived.Deep.RegionHeld3
import Derived.SizedLaws
import Derived.Test.YtokaibpkajloeaaMagMath
import Derived.Test.YtokaibpkajloeaaInts
import Derived.Test.YtokaibpkajloeaaOwnInts
import Derived.Test.YtokaibpkajloeaaDeep
import Derived.Test.YtokaibpkajloeaaDeepOpen
import Derived.Test.YtokaibpkajloeaaDeepRow
import Derived.Test.YtokaibpkajloeaaDeepGrow
import Derived.Test.YtokaibpkajloeaaDeepM
import Derived.Test.YtokaibpkajloeaaMarkMath
import Derived.Test.YtokaibpkajloeaaMarkWell
import Derived.Test.YtokaibpkajloeaaMarkRun
import Derived.Test.YtokaibpkajloeaaMarkData
import Derived.Test.YtokaibpkajloeaaMarkOut
import Derived.Test.YtokaibpkajloeaaMarkNew
import Derived.Test.YtokaibpkajloeaaMarkMake
import Derived.Test.YtokaibpkajloeaaMarkMake2
import Derived.Test.YtokaibpkajloeaaStepMath15
import Derived.Test.YtokaibpkajloeaaImplFin15
import Derived.Test.YtokaibpkajloeaaSpecFin15
namespace Go.Proofs.Ytokaibpkajloeaa.fnExactFinishMark
open Go.ChangeShapes Go.WideShapes Go.ChangeAt Go.RowKit
open Go.ChangeMaps (open_string shut_string)
open Go.Proofs.Ytokaibpkajloeaa.math
open Go.Proofs.Ytokaibpkajloeaa.ints
open Go.Proofs.Ytokaibpkajloeaa.deep
open Go.Proofs.Ytokaibpkajloeaa.walks
open Go.Proofs.Ytokaibpkajloeaa.deep
set_option linter.unusedVariables false

theorem own : ownKnob Try.prog.godebug = none := by kernel_rfl
theorem laidOut : laidOutB Try.prog = true := by kernel_rfl

def SpecTells (l0_0 : Nat) (cs0_0 : Nat → Dv) (l0_1 : Nat) (cs0_1 : Nat → Dv) (x0_2 : Bool) (lr0_0 : Nat) (csr0_0 : Nat → Dv) (lr0_1 : Nat) (csr0_1 : Nat → Dv) (xr0_2 : Bool) (xr1 : Int) (xr2 : Bool) : Prop := ∀ (W : World) (a0_0 : Option Addr) (cap0_0 : Nat) (a0_1 : Option Addr) (cap0_1 : Nat), Holds W true (.l l0_0 3 cs0_0) (.slice a0_0 l0_0 cap0_0) → Holds W true (.l l0_1 1 cs0_1) (.slice a0_1 l0_1 cap0_1) → Calls Try.prog 28 #[.agg #[.slice a0_0 l0_0 cap0_0, .slice a0_1 l0_1 cap0_1, .bool x0_2]] W fun e W' => ∃ g0_0 d0_0 g0_1 d0_1, e = .returned (.tuple #[.agg #[.slice g0_0 lr0_0 d0_0, .slice g0_1 lr0_1 d0_1, .bool xr0_2], .int .i64 xr1, .bool xr2]) ∧ Holds W' false (.l lr0_0 3 csr0_0) (.slice g0_0 lr0_0 d0_0) ∧ Holds W' false (.l lr0_1 1 csr0_1) (.slice g0_1 lr0_1 d0_1) ∧ Below W.heap.size W W'
def ImplTells (l0_0 : Nat) (cs0_0 : Nat → Dv) (l0_1 : Nat) (cs0_1 : Nat → Dv) (x0_2 : Bool) (lr0_0 : Nat) (csr0_0 : Nat → Dv) (lr0_1 : Nat) (csr0_1 : Nat → Dv) (xr0_2 : Bool) (xr1 : Int) (xr2 : Bool) : Prop := ∀ (W : World) (a0_0 : Option Addr) (cap0_0 : Nat) (a0_1 : Option Addr) (cap0_1 : Nat), Holds W true (.l l0_0 3 cs0_0) (.slice a0_0 l0_0 cap0_0) → Holds W true (.l l0_1 1 cs0_1) (.slice a0_1 l0_1 cap0_1) → Calls Try.prog 29 #[.agg #[.slice a0_0 l0_0 cap0_0, .slice a0_1 l0_1 cap0_1, .bool x0_2]] W fun e W' => ∃ (g0_0 : Option Addr) (d0_0 : Nat) (g0_1 : Option Addr) (d0_1 : Nat) (F0_0 : Nat → Prop) (F0_1 : Nat → Prop), e = .returned (.tuple #[.agg #[.slice g0_0 lr0_0 d0_0, .slice g0_1 lr0_1 d0_1, .bool xr0_2], .int .i64 xr1, .bool xr2]) ∧ Owns W' false W.heap.size (.l lr0_0 3 csr0_0) (.slice g0_0 lr0_0 d0_0) F0_0 ∧ (∀ x, F0_0 x → W.heap.size ≤ x ∧ x < W'.heap.size) ∧ Owns W' false W.heap.size (.l lr0_1 1 csr0_1) (.slice g0_1 lr0_1 d0_1) F0_1 ∧ (∀ x, F0_1 x → W.heap.size ≤ x ∧ x < W'.heap.size) ∧ (∀ x, F0_0 x → ¬ F0_1 x) ∧ Below W.heap.size W W'
set_option maxHeartbeats 16000000 in
set_option maxRecDepth 100000 in
theorem walk_of (a0_0 : Option Addr) (cap0_0 : Nat) (a0_1 : Option Addr) (cap0_1 : Nat) (l0_0 : Nat) (cs0_0 : Nat → Dv) (l0_1 : Nat) (cs0_1 : Nat → Dv) (x0_2 : Bool) (lr0_0 : Nat) (csr0_0 : Nat → Dv) (lr0_1 : Nat) (csr0_1 : Nat → Dv) (xr0_2 : Bool) (xr1 : Int) (xr2 : Bool) (w : World) (hf0_0 : Hid (Fits shCellS (.l l0_0 3 cs0_0))) (hn0_0 : Hid (Lens (.l l0_0 3 cs0_0))) (h0_0 : Hid (Holds w false (.l l0_0 3 cs0_0) (.slice a0_0 l0_0 cap0_0))) (hf0_1 : Hid (Fits shI (.l l0_1 1 cs0_1))) (hn0_1 : Hid (Lens (.l l0_1 1 cs0_1))) (h0_1 : Hid (Holds w false (.l l0_1 1 cs0_1) (.slice a0_1 l0_1 cap0_1))) (hfr0_0 : Hid (Fits shCellS (.l lr0_0 3 csr0_0))) (hsx0_0 : Hid (szD (.l lr0_0 3 csr0_0) ≤ 100000)) (hfr0_1 : Hid (Fits shI (.l lr0_1 1 csr0_1))) (hsx0_1 : Hid (szD (.l lr0_1 1 csr0_1) ≤ 100000)) (Hs : Hid (szD (.l l0_0 3 cs0_0) ≤ 1048576 → szD (.l l0_1 1 cs0_1) ≤ 1048576 → SpecTells l0_0 cs0_0 l0_1 cs0_1 x0_2 lr0_0 csr0_0 lr0_1 csr0_1 xr0_2 xr1 xr2)) (Hi : Hid (szD (.l l0_0 3 cs0_0) ≤ 1048576 → szD (.l l0_1 1 cs0_1) ≤ 1048576 → ImplTells l0_0 cs0_0 l0_1 cs0_1 x0_2 lr0_0 csr0_0 lr0_1 csr0_1 xr0_2 xr1 xr2)) :
    Calls Try.prog 8 #[.agg #[.slice a0_0 l0_0 cap0_0, .slice a0_1 l0_1 cap0_1, .bool x0_2]] w fun e w' => e = .returned (.bool true) ∧ Below w.heap.size w w' := by
  have hsr0_0 : Hid (szD (.l lr0_0 3 csr0_0) ≤ 1048576) := Nat.le_trans hsx0_0.out (by decide)
  have hsr0_1 : Hid (szD (.l lr0_1 1 csr0_1) ≤ 1048576) := Nat.le_trans hsx0_1.out (by decide)
  have pe0_2 : (xr0_2 != xr0_2) = false := by cases xr0_2 <;> rfl
  have pe1 : (xr1 != xr1) = false := by simp
  have pe2 : (xr2 != xr2) = false := by cases xr2 <;> rfl
  go_enter Try.func8, Try.ntmps8
  obtain ⟨z0_0, HZ0_0⟩ : ∃ z, Hid (szD (.l l0_0 3 cs0_0) = z) := ⟨_, rfl⟩
  obtain ⟨z0_1, HZ0_1⟩ : ∃ z, Hid (szD (.l l0_1 1 cs0_1) = z) := ⟨_, rfl⟩
  go_wp2_with fail
  obtain ⟨w1, EWw1⟩ : ∃ X, X = w.alloc (.cells #[.slice a0_0 l0_0 cap0_0, .slice a0_1 l0_1 cap0_1, .bool x0_2] 33) := ⟨_, rfl⟩
  rw [← EWw1]
  have hB : Below w.heap.size w w1 := by rw [EWw1]; exact (Below.refl _ _).alloc (Nat.le_refl _) _
  have ESw1 : w1.heap.size = w.heap.size + 1 := by rw [EWw1]; simp
  have BXP0_1 : Hid (w1.rowIs (w.heap.size) 33 3 (rowF [.slice a0_0 l0_0 cap0_0, .slice a0_1 l0_1 cap0_1, .bool x0_2])) := by
    have q := row_of w #[.slice a0_0 l0_0 cap0_0, .slice a0_1 l0_1 cap0_1, .bool x0_2] 33
    rw [EWw1]; exact q
  have LTP0 : Hid (w.heap.size < w1.heap.size) := BXP0_1.out.lt
  have ADP0 : Hid (w.heap.size = w.heap.size) := by show _ = _; rfl
  have BW1 : Hid (Below w.heap.size w w1) := hB
  have SZ1 : Hid (w.heap.size ≤ w1.heap.size) := hB.size
  clear hB EWw1
  clear ESw1
  refine (Marker_size _ _ _ cs0_0 _ _ _ cs0_1 x0_2 (1048576) false _ hf0_0 hn0_0 (h0_0.out.kept BW1.out) hf0_1 hn0_1 (h0_1.out.kept BW1.out) (by omega) (by omega)).mono ?_
  rw [HZ0_0.out, HZ0_1.out]
  rintro e w2 ⟨rfl, hB⟩
  have BW2 : Hid (Below w.heap.size w w2) := BW1.out.trans (hB.mono BW1.out.size)
  have SZ2 : Hid (w1.heap.size ≤ w2.heap.size) := hB.size
  have BXP0_2 : Hid (w2.rowIs (w.heap.size) 33 3 (rowF [.slice a0_0 l0_0 cap0_0, .slice a0_1 l0_1 cap0_1, .bool x0_2])) := BXP0_1.out.of_block (hB.block _ BXP0_1.out.lt)
  clear hB
  by_cases ok0 : (z0_0 : Int) + (z0_1 : Int) ≤ 1048576
  rotate_left
  · rw [if_neg ok0]
    go_wp2
    go_ret
    exact ⟨rfl, BW2.out⟩
  rw [if_pos ok0]
  have left0 : 0 ≤ 1048576 - ((z0_0 : Int) + (z0_1 : Int)) := by omega
  have hs0_0 : Hid (szD (.l l0_0 3 cs0_0) ≤ 1048576) := by show _ ≤ _; rw [HZ0_0.out]; omega
  have hs0_1 : Hid (szD (.l l0_1 1 cs0_1) ≤ 1048576) := by show _ ≤ _; rw [HZ0_1.out]; omega
  have HS : Hid (SpecTells l0_0 cs0_0 l0_1 cs0_1 x0_2 lr0_0 csr0_0 lr0_1 csr0_1 xr0_2 xr1 xr2) := Hs.out hs0_0.out hs0_1.out
  have HI : Hid (ImplTells l0_0 cs0_0 l0_1 cs0_1 x0_2 lr0_0 csr0_0 lr0_1 csr0_1 xr0_2 xr1 xr2) := Hi.out hs0_0.out hs0_1.out
  clear Hs Hi
  have blP0 : w.heap.size < w2.heap.size := BXP0_2.out.lt
  have bcP0_0 : w2.cell? ⟨w.heap.size, 0, none⟩ = some (.slice a0_0 l0_0 cap0_0) := BXP0_2.out.cell (i := 0) (by decide)
  have bcP0_1 : w2.cell? ⟨w.heap.size, 1, none⟩ = some (.slice a0_1 l0_1 cap0_1) := BXP0_2.out.cell (i := 1) (by decide)
  have bcP0_2 : w2.cell? ⟨w.heap.size, 2, none⟩ = some (.bool x0_2) := BXP0_2.out.cell (i := 2) (by decide)
  go_wp2_with fail
  clear blP0 bcP0_0 bcP0_1 bcP0_2
  refine (Marker_to _ _ _ cs0_0 _ _ _ cs0_1 x0_2 false _ hf0_0 hs0_0 (h0_0.out.kept BW2.out) hf0_1 hs0_1 (h0_1.out.kept BW2.out)).mono ?_
  rintro e w3 ⟨Ag0_0, Ag0_1, Ap0_1, rfl, hO0_0, hO0_1, hle0, hle1, hB⟩
  have A0_0_3 : Hid (Owns w3 true w2.heap.size (.l l0_0 3 cs0_0) (.slice (some ⟨Ag0_0, 0, none⟩) l0_0 l0_0) (rng w2.heap.size Ap0_1)) := hO0_0
  have A0_1_3 : Hid (Owns w3 true w2.heap.size (.l l0_1 1 cs0_1) (.slice (some ⟨Ag0_1, 0, none⟩) l0_1 l0_1) (rng Ap0_1 w3.heap.size)) := hO0_1
  have BW3 : Hid (Below w.heap.size w w3) := BW2.out.trans (hB.mono BW2.out.size)
  have SZ3 : Hid (w2.heap.size ≤ w3.heap.size) := hB.size
  have BXP0_3 : Hid (w3.rowIs (w.heap.size) 33 3 (rowF [.slice a0_0 l0_0 cap0_0, .slice a0_1 l0_1 cap0_1, .bool x0_2])) := BXP0_2.out.of_block (hB.block _ BXP0_2.out.lt)
  clear hB hO0_0 hO0_1
  have Ale0_0 : Hid (w2.heap.size ≤ Ap0_1) := hle0
  clear hle0
  have Ale0_1 : Hid (Ap0_1 ≤ w3.heap.size) := hle1
  clear hle1
  have blP0 : w.heap.size < w3.heap.size := BXP0_3.out.lt
  have bcP0_0 : w3.cell? ⟨w.heap.size, 0, none⟩ = some (.slice a0_0 l0_0 cap0_0) := BXP0_3.out.cell (i := 0) (by decide)
  have bcP0_1 : w3.cell? ⟨w.heap.size, 1, none⟩ = some (.slice a0_1 l0_1 cap0_1) := BXP0_3.out.cell (i := 1) (by decide)
  have bcP0_2 : w3.cell? ⟨w.heap.size, 2, none⟩ = some (.bool x0_2) := BXP0_3.out.cell (i := 2) (by decide)
  go_wp2_with fail
  clear blP0 bcP0_0 bcP0_1 bcP0_2
  refine (HS.out _ _ _ _ _ A0_0_3.out.holds A0_1_3.out.holds).mono ?_
  rintro e w4 ⟨sa0_0, sc0_0, sa0_1, sc0_1, rfl, hS0_0, hS0_1, hB⟩
  have S0_0 : Hid (Holds w4 false (.l lr0_0 3 csr0_0) (.slice sa0_0 lr0_0 sc0_0)) := hS0_0
  have S0_1 : Hid (Holds w4 false (.l lr0_1 1 csr0_1) (.slice sa0_1 lr0_1 sc0_1)) := hS0_1
  have BW4 : Hid (Below w.heap.size w w4) := BW3.out.trans (hB.mono BW3.out.size)
  have SZ4 : Hid (w3.heap.size ≤ w4.heap.size) := hB.size
  have BXP0_4 : Hid (w4.rowIs (w.heap.size) 33 3 (rowF [.slice a0_0 l0_0 cap0_0, .slice a0_1 l0_1 cap0_1, .bool x0_2])) := BXP0_3.out.of_block (hB.block _ BXP0_3.out.lt)
  clear hB hS0_0 hS0_1
  have blP0 : w.heap.size < w4.heap.size := BXP0_4.out.lt
  have bcP0_0 : w4.cell? ⟨w.heap.size, 0, none⟩ = some (.slice a0_0 l0_0 cap0_0) := BXP0_4.out.cell (i := 0) (by decide)
  have bcP0_1 : w4.cell? ⟨w.heap.size, 1, none⟩ = some (.slice a0_1 l0_1 cap0_1) := BXP0_4.out.cell (i := 1) (by decide)
  have bcP0_2 : w4.cell? ⟨w.heap.size, 2, none⟩ = some (.bool x0_2) := BXP0_4.out.cell (i := 2) (by decide)
  go_wp2_with fail
  clear blP0 bcP0_0 bcP0_1 bcP0_2
  obtain ⟨w5, EWw5⟩ : ∃ X, X = w4.alloc (.cells #[.slice sa0_0 lr0_0 sc0_0, .slice sa0_1 lr0_1 sc0_1, .bool xr0_2] 25) := ⟨_, rfl⟩
  rw [← EWw5]
  have hB : Below w4.heap.size w4 w5 := by rw [EWw5]; exact (Below.refl _ _).alloc (Nat.le_refl _) _
  have ESw5 : w5.heap.size = w4.heap.size + 1 := by rw [EWw5]; simp
  have BXS0_5 : Hid (w5.rowIs (w4.heap.size) 25 3 (rowF [.slice sa0_0 lr0_0 sc0_0, .slice sa0_1 lr0_1 sc0_1, .bool xr0_2])) := by
    have q := row_of w4 #[.slice sa0_0 lr0_0 sc0_0, .slice sa0_1 lr0_1 sc0_1, .bool xr0_2] 25
    rw [EWw5]; exact q
  have LTS0 : Hid (w4.heap.size < w5.heap.size) := BXS0_5.out.lt
  have ADS0 : Hid (w4.heap.size = w4.heap.size) := by show _ = _; rfl
  have BW5 : Hid (Below w.heap.size w w5) := BW4.out.trans (hB.mono BW4.out.size)
  have SZ5 : Hid (w4.heap.size ≤ w5.heap.size) := hB.size
  have BS5 : Hid (Below w4.heap.size w4 w5) := hB
  have BXP0_5 : Hid (w5.rowIs (w.heap.size) 33 3 (rowF [.slice a0_0 l0_0 cap0_0, .slice a0_1 l0_1 cap0_1, .bool x0_2])) := BXP0_4.out.of_block (hB.block _ BXP0_4.out.lt)
  clear hB EWw5
  clear ESw5
  refine (Marker_to _ _ _ cs0_0 _ _ _ cs0_1 x0_2 false _ hf0_0 hs0_0 (h0_0.out.kept BW5.out) hf0_1 hs0_1 (h0_1.out.kept BW5.out)).mono ?_
  rintro e w6 ⟨Xg0_0, Xg0_1, Xp0_1, rfl, hO0_0, hO0_1, hle0, hle1, hB⟩
  have X0_0_6 : Hid (Owns w6 true w5.heap.size (.l l0_0 3 cs0_0) (.slice (some ⟨Xg0_0, 0, none⟩) l0_0 l0_0) (rng w5.heap.size Xp0_1)) := hO0_0
  have X0_1_6 : Hid (Owns w6 true w5.heap.size (.l l0_1 1 cs0_1) (.slice (some ⟨Xg0_1, 0, none⟩) l0_1 l0_1) (rng Xp0_1 w6.heap.size)) := hO0_1
  have BW6 : Hid (Below w.heap.size w w6) := BW5.out.trans (hB.mono BW5.out.size)
  have SZ6 : Hid (w5.heap.size ≤ w6.heap.size) := hB.size
  have BS6 : Hid (Below w4.heap.size w4 w6) := BS5.out.trans (hB.mono BS5.out.size)
  have BXP0_6 : Hid (w6.rowIs (w.heap.size) 33 3 (rowF [.slice a0_0 l0_0 cap0_0, .slice a0_1 l0_1 cap0_1, .bool x0_2])) := BXP0_5.out.of_block (hB.block _ BXP0_5.out.lt)
  have BXS0_6 : Hid (w6.rowIs (w4.heap.size) 25 3 (rowF [.slice sa0_0 lr0_0 sc0_0, .slice sa0_1 lr0_1 sc0_1, .bool xr0_2])) := BXS0_5.out.of_block (hB.block _ BXS0_5.out.lt)
  clear hB hO0_0 hO0_1
  have Xle0_0 : Hid (w5.heap.size ≤ Xp0_1) := hle0
  clear hle0
  have Xle0_1 : Hid (Xp0_1 ≤ w6.heap.size) := hle1
  clear hle1
  have blP0 : w.heap.size < w6.heap.size := BXP0_6.out.lt
  have bcP0_0 : w6.cell? ⟨w.heap.size, 0, none⟩ = some (.slice a0_0 l0_0 cap0_0) := BXP0_6.out.cell (i := 0) (by decide)
  have bcP0_1 : w6.cell? ⟨w.heap.size, 1, none⟩ = some (.slice a0_1 l0_1 cap0_1) := BXP0_6.out.cell (i := 1) (by decide)
  have bcP0_2 : w6.cell? ⟨w.heap.size, 2, none⟩ = some (.bool x0_2) := BXP0_6.out.cell (i := 2) (by decide)
  have blS0 : w4.heap.size < w6.heap.size := BXS0_6.out.lt
  have bcS0_0 : w6.cell? ⟨w4.heap.size, 0, none⟩ = some (.slice sa0_0 lr0_0 sc0_0) := BXS0_6.out.cell (i := 0) (by decide)
  have bcS0_1 : w6.cell? ⟨w4.heap.size, 1, none⟩ = some (.slice sa0_1 lr0_1 sc0_1) := BXS0_6.out.cell (i := 1) (by decide)
  have bcS0_2 : w6.cell? ⟨w4.heap.size, 2, none⟩ = some (.bool xr0_2) := BXS0_6.out.cell (i := 2) (by decide)
  go_wp2_with fail
  clear blP0 bcP0_0 bcP0_1 bcP0_2 blS0 bcS0_0 bcS0_1 bcS0_2
  obtain ⟨w7, EWw7⟩ : ∃ X, X = w6.alloc (.cells #[.slice (some ⟨Xg0_0, 0, none⟩) l0_0 l0_0, .slice (some ⟨Xg0_1, 0, none⟩) l0_1 l0_1, .bool x0_2] 25) := ⟨_, rfl⟩
  rw [← EWw7]
  have hB : Below w6.heap.size w6 w7 := by rw [EWw7]; exact (Below.refl _ _).alloc (Nat.le_refl _) _
  have ESw7 : w7.heap.size = w6.heap.size + 1 := by rw [EWw7]; simp
  have BXX0_7 : Hid (w7.rowIs (w6.heap.size) 25 3 (rowF [.slice (some ⟨Xg0_0, 0, none⟩) l0_0 l0_0, .slice (some ⟨Xg0_1, 0, none⟩) l0_1 l0_1, .bool x0_2])) := by
    have q := row_of w6 #[.slice (some ⟨Xg0_0, 0, none⟩) l0_0 l0_0, .slice (some ⟨Xg0_1, 0, none⟩) l0_1 l0_1, .bool x0_2] 25
    rw [EWw7]; exact q
  have LTX0 : Hid (w6.heap.size < w7.heap.size) := BXX0_7.out.lt
  have ADX0 : Hid (w6.heap.size = w6.heap.size) := by show _ = _; rfl
  have BW7 : Hid (Below w.heap.size w w7) := BW6.out.trans (hB.mono BW6.out.size)
  have SZ7 : Hid (w6.heap.size ≤ w7.heap.size) := hB.size
  have BS7 : Hid (Below w4.heap.size w4 w7) := BS6.out.trans (hB.mono BS6.out.size)
  have X0_0_7 : Hid (Owns w7 true w5.heap.size (.l l0_0 3 cs0_0) (.slice (some ⟨Xg0_0, 0, none⟩) l0_0 l0_0) (rng w5.heap.size Xp0_1)) := X0_0_6.out.kept hB
  have X0_1_7 : Hid (Owns w7 true w5.heap.size (.l l0_1 1 cs0_1) (.slice (some ⟨Xg0_1, 0, none⟩) l0_1 l0_1) (rng Xp0_1 w6.heap.size)) := X0_1_6.out.kept hB
  have BXP0_7 : Hid (w7.rowIs (w.heap.size) 33 3 (rowF [.slice a0_0 l0_0 cap0_0, .slice a0_1 l0_1 cap0_1, .bool x0_2])) := BXP0_6.out.of_block (hB.block _ BXP0_6.out.lt)
  have BXS0_7 : Hid (w7.rowIs (w4.heap.size) 25 3 (rowF [.slice sa0_0 lr0_0 sc0_0, .slice sa0_1 lr0_1 sc0_1, .bool xr0_2])) := BXS0_6.out.of_block (hB.block _ BXS0_6.out.lt)
  clear hB EWw7
  clear ESw7
  refine (HI.out _ _ _ _ _ X0_0_7.out.holds X0_1_7.out.holds).mono ?_
  rintro e w8 ⟨ga0_0, gc0_0, ga0_1, gc0_1, gP0_0, gP0_1, rfl, hO0_0, hF0_0, hO0_1, hF0_1, hD0_00_1, hB⟩
  have G0_0_8 : Hid (Owns w8 false w7.heap.size (.l lr0_0 3 csr0_0) (.slice ga0_0 lr0_0 gc0_0) gP0_0) := hO0_0
  have GF0_0 : Hid (∀ x, gP0_0 x → w7.heap.size ≤ x ∧ x < w8.heap.size) := hF0_0
  have G0_1_8 : Hid (Owns w8 false w7.heap.size (.l lr0_1 1 csr0_1) (.slice ga0_1 lr0_1 gc0_1) gP0_1) := hO0_1
  have GF0_1 : Hid (∀ x, gP0_1 x → w7.heap.size ≤ x ∧ x < w8.heap.size) := hF0_1
  have GD0_00_1 : Hid (∀ x, gP0_0 x → ¬ gP0_1 x) := hD0_00_1
  have BW8 : Hid (Below w.heap.size w w8) := BW7.out.trans (hB.mono BW7.out.size)
  have SZ8 : Hid (w7.heap.size ≤ w8.heap.size) := hB.size
  have BS8 : Hid (Below w4.heap.size w4 w8) := BS7.out.trans (hB.mono BS7.out.size)
  have X0_0_8 : Hid (Owns w8 true w5.heap.size (.l l0_0 3 cs0_0) (.slice (some ⟨Xg0_0, 0, none⟩) l0_0 l0_0) (rng w5.heap.size Xp0_1)) := X0_0_7.out.kept hB
  have X0_1_8 : Hid (Owns w8 true w5.heap.size (.l l0_1 1 cs0_1) (.slice (some ⟨Xg0_1, 0, none⟩) l0_1 l0_1) (rng Xp0_1 w6.heap.size)) := X0_1_7.out.kept hB
  have BXP0_8 : Hid (w8.rowIs (w.heap.size) 33 3 (rowF [.slice a0_0 l0_0 cap0_0, .slice a0_1 l0_1 cap0_1, .bool x0_2])) := BXP0_7.out.of_block (hB.block _ BXP0_7.out.lt)
  have BXS0_8 : Hid (w8.rowIs (w4.heap.size) 25 3 (rowF [.slice sa0_0 lr0_0 sc0_0, .slice sa0_1 lr0_1 sc0_1, .bool xr0_2])) := BXS0_7.out.of_block (hB.block _ BXS0_7.out.lt)
  have BXX0_8 : Hid (w8.rowIs (w6.heap.size) 25 3 (rowF [.slice (some ⟨Xg0_0, 0, none⟩) l0_0 l0_0, .slice (some ⟨Xg0_1, 0, none⟩) l0_1 l0_1, .bool x0_2])) := BXX0_7.out.of_block (hB.block _ BXX0_7.out.lt)
  clear hB hO0_0 hF0_0 hO0_1 hF0_1 hD0_00_1
  have blP0 : w.heap.size < w8.heap.size := BXP0_8.out.lt
  have bcP0_0 : w8.cell? ⟨w.heap.size, 0, none⟩ = some (.slice a0_0 l0_0 cap0_0) := BXP0_8.out.cell (i := 0) (by decide)
  have bcP0_1 : w8.cell? ⟨w.heap.size, 1, none⟩ = some (.slice a0_1 l0_1 cap0_1) := BXP0_8.out.cell (i := 1) (by decide)
  have bcP0_2 : w8.cell? ⟨w.heap.size, 2, none⟩ = some (.bool x0_2) := BXP0_8.out.cell (i := 2) (by decide)
  have blS0 : w4.heap.size < w8.heap.size := BXS0_8.out.lt
  have bcS0_0 : w8.cell? ⟨w4.heap.size, 0, none⟩ = some (.slice sa0_0 lr0_0 sc0_0) := BXS0_8.out.cell (i := 0) (by decide)
  have bcS0_1 : w8.cell? ⟨w4.heap.size, 1, none⟩ = some (.slice sa0_1 lr0_1 sc0_1) := BXS0_8.out.cell (i := 1) (by decide)
  have bcS0_2 : w8.cell? ⟨w4.heap.size, 2, none⟩ = some (.bool xr0_2) := BXS0_8.out.cell (i := 2) (by decide)
  have blX0 : w6.heap.size < w8.heap.size := BXX0_8.out.lt
  have bcX0_0 : w8.cell? ⟨w6.heap.size, 0, none⟩ = some (.slice (some ⟨Xg0_0, 0, none⟩) l0_0 l0_0) := BXX0_8.out.cell (i := 0) (by decide)
  have bcX0_1 : w8.cell? ⟨w6.heap.size, 1, none⟩ = some (.slice (some ⟨Xg0_1, 0, none⟩) l0_1 l0_1) := BXX0_8.out.cell (i := 1) (by decide)
  have bcX0_2 : w8.cell? ⟨w6.heap.size, 2, none⟩ = some (.bool x0_2) := BXX0_8.out.cell (i := 2) (by decide)
  go_wp2_with fail
  clear blP0 bcP0_0 bcP0_1 bcP0_2 blS0 bcS0_0 bcS0_1 bcS0_2 blX0 bcX0_0 bcX0_1 bcX0_2
  obtain ⟨w9, EWw9⟩ : ∃ X, X = w8.alloc (.cells #[.slice ga0_0 lr0_0 gc0_0, .slice ga0_1 lr0_1 gc0_1, .bool xr0_2] 25) := ⟨_, rfl⟩
  rw [← EWw9]
  have hB : Below w8.heap.size w8 w9 := by rw [EWw9]; exact (Below.refl _ _).alloc (Nat.le_refl _) _
  have ESw9 : w9.heap.size = w8.heap.size + 1 := by rw [EWw9]; simp
  have BXG0_9 : Hid (w9.rowIs (w8.heap.size) 25 3 (rowF [.slice ga0_0 lr0_0 gc0_0, .slice ga0_1 lr0_1 gc0_1, .bool xr0_2])) := by
    have q := row_of w8 #[.slice ga0_0 lr0_0 gc0_0, .slice ga0_1 lr0_1 gc0_1, .bool xr0_2] 25
    rw [EWw9]; exact q
  have LTG0 : Hid (w8.heap.size < w9.heap.size) := BXG0_9.out.lt
  have ADG0 : Hid (w8.heap.size = w8.heap.size) := by show _ = _; rfl
  have BW9 : Hid (Below w.heap.size w w9) := BW8.out.trans (hB.mono BW8.out.size)
  have SZ9 : Hid (w8.heap.size ≤ w9.heap.size) := hB.size
  have BS9 : Hid (Below w4.heap.size w4 w9) := BS8.out.trans (hB.mono BS8.out.size)
  have X0_0_9 : Hid (Owns w9 true w5.heap.size (.l l0_0 3 cs0_0) (.slice (some ⟨Xg0_0, 0, none⟩) l0_0 l0_0) (rng w5.heap.size Xp0_1)) := X0_0_8.out.kept hB
  have X0_1_9 : Hid (Owns w9 true w5.heap.size (.l l0_1 1 cs0_1) (.slice (some ⟨Xg0_1, 0, none⟩) l0_1 l0_1) (rng Xp0_1 w6.heap.size)) := X0_1_8.out.kept hB
  have G0_0_9 : Hid (Owns w9 false w7.heap.size (.l lr0_0 3 csr0_0) (.slice ga0_0 lr0_0 gc0_0) gP0_0) := G0_0_8.out.kept hB
  have G0_1_9 : Hid (Owns w9 false w7.heap.size (.l lr0_1 1 csr0_1) (.slice ga0_1 lr0_1 gc0_1) gP0_1) := G0_1_8.out.kept hB
  have BXP0_9 : Hid (w9.rowIs (w.heap.size) 33 3 (rowF [.slice a0_0 l0_0 cap0_0, .slice a0_1 l0_1 cap0_1, .bool x0_2])) := BXP0_8.out.of_block (hB.block _ BXP0_8.out.lt)
  have BXS0_9 : Hid (w9.rowIs (w4.heap.size) 25 3 (rowF [.slice sa0_0 lr0_0 sc0_0, .slice sa0_1 lr0_1 sc0_1, .bool xr0_2])) := BXS0_8.out.of_block (hB.block _ BXS0_8.out.lt)
  have BXX0_9 : Hid (w9.rowIs (w6.heap.size) 25 3 (rowF [.slice (some ⟨Xg0_0, 0, none⟩) l0_0 l0_0, .slice (some ⟨Xg0_1, 0, none⟩) l0_1 l0_1, .bool x0_2])) := BXX0_8.out.of_block (hB.block _ BXX0_8.out.lt)
  clear hB EWw9
  clear ESw9
  refine (Marker_eq _ _ _ csr0_0 _ _ _ csr0_1 xr0_2 _ _ _ _ _ _ _ hfr0_0 hsr0_0 G0_0_9.out.holds hfr0_1 hsr0_1 G0_1_9.out.holds (S0_0.out.kept BS9.out) (S0_1.out.kept BS9.out)).mono ?_
  rintro e w10 ⟨rfl, hB⟩
  have BW10 : Hid (Below w.heap.size w w10) := BW9.out.trans (hB.mono BW9.out.size)
  have SZ10 : Hid (w9.heap.size ≤ w10.heap.size) := hB.size
  have BS10 : Hid (Below w4.heap.size w4 w10) := BS9.out.trans (hB.mono BS9.out.size)
  have X0_0_10 : Hid (Owns w10 true w5.heap.size (.l l0_0 3 cs0_0) (.slice (some ⟨Xg0_0, 0, none⟩) l0_0 l0_0) (rng w5.heap.size Xp0_1)) := X0_0_9.out.kept hB
  have X0_1_10 : Hid (Owns w10 true w5.heap.size (.l l0_1 1 cs0_1) (.slice (some ⟨Xg0_1, 0, none⟩) l0_1 l0_1) (rng Xp0_1 w6.heap.size)) := X0_1_9.out.kept hB
  have G0_0_10 : Hid (Owns w10 false w7.heap.size (.l lr0_0 3 csr0_0) (.slice ga0_0 lr0_0 gc0_0) gP0_0) := G0_0_9.out.kept hB
  have G0_1_10 : Hid (Owns w10 false w7.heap.size (.l lr0_1 1 csr0_1) (.slice ga0_1 lr0_1 gc0_1) gP0_1) := G0_1_9.out.kept hB
  have BXP0_10 : Hid (w10.rowIs (w.heap.size) 33 3 (rowF [.slice a0_0 l0_0 cap0_0, .slice a0_1 l0_1 cap0_1, .bool x0_2])) := BXP0_9.out.of_block (hB.block _ BXP0_9.out.lt)
  have BXS0_10 : Hid (w10.rowIs (w4.heap.size) 25 3 (rowF [.slice sa0_0 lr0_0 sc0_0, .slice sa0_1 lr0_1 sc0_1, .bool xr0_2])) := BXS0_9.out.of_block (hB.block _ BXS0_9.out.lt)
  have BXX0_10 : Hid (w10.rowIs (w6.heap.size) 25 3 (rowF [.slice (some ⟨Xg0_0, 0, none⟩) l0_0 l0_0, .slice (some ⟨Xg0_1, 0, none⟩) l0_1 l0_1, .bool x0_2])) := BXX0_9.out.of_block (hB.block _ BXX0_9.out.lt)
  have BXG0_10 : Hid (w10.rowIs (w8.heap.size) 25 3 (rowF [.slice ga0_0 lr0_0 gc0_0, .slice ga0_1 lr0_1 gc0_1, .bool xr0_2])) := BXG0_9.out.of_block (hB.block _ BXG0_9.out.lt)
  clear hB
  have blP0 : w.heap.size < w10.heap.size := BXP0_10.out.lt
  have bcP0_0 : w10.cell? ⟨w.heap.size, 0, none⟩ = some (.slice a0_0 l0_0 cap0_0) := BXP0_10.out.cell (i := 0) (by decide)
  have bcP0_1 : w10.cell? ⟨w.heap.size, 1, none⟩ = some (.slice a0_1 l0_1 cap0_1) := BXP0_10.out.cell (i := 1) (by decide)
  have bcP0_2 : w10.cell? ⟨w.heap.size, 2, none⟩ = some (.bool x0_2) := BXP0_10.out.cell (i := 2) (by decide)
  have blS0 : w4.heap.size < w10.heap.size := BXS0_10.out.lt
  have bcS0_0 : w10.cell? ⟨w4.heap.size, 0, none⟩ = some (.slice sa0_0 lr0_0 sc0_0) := BXS0_10.out.cell (i := 0) (by decide)
  have bcS0_1 : w10.cell? ⟨w4.heap.size, 1, none⟩ = some (.slice sa0_1 lr0_1 sc0_1) := BXS0_10.out.cell (i := 1) (by decide)
  have bcS0_2 : w10.cell? ⟨w4.heap.size, 2, none⟩ = some (.bool xr0_2) := BXS0_10.out.cell (i := 2) (by decide)
  have blX0 : w6.heap.size < w10.heap.size := BXX0_10.out.lt
  have bcX0_0 : w10.cell? ⟨w6.heap.size, 0, none⟩ = some (.slice (some ⟨Xg0_0, 0, none⟩) l0_0 l0_0) := BXX0_10.out.cell (i := 0) (by decide)
  have bcX0_1 : w10.cell? ⟨w6.heap.size, 1, none⟩ = some (.slice (some ⟨Xg0_1, 0, none⟩) l0_1 l0_1) := BXX0_10.out.cell (i := 1) (by decide)
  have bcX0_2 : w10.cell? ⟨w6.heap.size, 2, none⟩ = some (.bool x0_2) := BXX0_10.out.cell (i := 2) (by decide)
  have blG0 : w8.heap.size < w10.heap.size := BXG0_10.out.lt
  have bcG0_0 : w10.cell? ⟨w8.heap.size, 0, none⟩ = some (.slice ga0_0 lr0_0 gc0_0) := BXG0_10.out.cell (i := 0) (by decide)
  have bcG0_1 : w10.cell? ⟨w8.heap.size, 1, none⟩ = some (.slice ga0_1 lr0_1 gc0_1) := BXG0_10.out.cell (i := 1) (by decide)
  have bcG0_2 : w10.cell? ⟨w8.heap.size, 2, none⟩ = some (.bool xr0_2) := BXG0_10.out.cell (i := 2) (by decide)
  go_wp2_with fail
  clear blP0 bcP0_0 bcP0_1 bcP0_2 blS0 bcS0_0 bcS0_1 bcS0_2 blX0 bcX0_0 bcX0_1 bcX0_2 blG0 bcG0_0 bcG0_1 bcG0_2
  have BD10 : Hid (Below w.heap.size w w10.drew) := BW10.out.drew
  have qs10 : w10.cell? ⟨w6.heap.size, 0, none⟩ = some (.slice (some ⟨Xg0_0, 0, none⟩) l0_0 l0_0) ∧ w10.cell? ⟨w6.heap.size, 1, none⟩ = some (.slice (some ⟨Xg0_1, 0, none⟩) l0_1 l0_1) ∧ w10.cell? ⟨w6.heap.size, 2, none⟩ = some (.bool x0_2) ∧ w10.cell? ⟨w.heap.size, 0, none⟩ = some (.slice a0_0 l0_0 cap0_0) ∧ w10.cell? ⟨w.heap.size, 1, none⟩ = some (.slice a0_1 l0_1 cap0_1) ∧ w10.cell? ⟨w.heap.size, 2, none⟩ = some (.bool x0_2) := ⟨(BXX0_10.out).cell (i := 0) (by decide), (BXX0_10.out).cell (i := 1) (by decide), (BXX0_10.out).cell (i := 2) (by decide), (BXP0_10.out).cell (i := 0) (by decide), (BXP0_10.out).cell (i := 1) (by decide), (BXP0_10.out).cell (i := 2) (by decide)⟩
  have qd10 : w10.drew.cell? ⟨w6.heap.size, 0, none⟩ = some (.slice (some ⟨Xg0_0, 0, none⟩) l0_0 l0_0) ∧ w10.drew.cell? ⟨w6.heap.size, 1, none⟩ = some (.slice (some ⟨Xg0_1, 0, none⟩) l0_1 l0_1) ∧ w10.drew.cell? ⟨w6.heap.size, 2, none⟩ = some (.bool x0_2) ∧ w10.drew.cell? ⟨w.heap.size, 0, none⟩ = some (.slice a0_0 l0_0 cap0_0) ∧ w10.drew.cell? ⟨w.heap.size, 1, none⟩ = some (.slice a0_1 l0_1 cap0_1) ∧ w10.drew.cell? ⟨w.heap.size, 2, none⟩ = some (.bool x0_2) := qs10
  go_region_held3 (fun w' => w'.cell? ⟨w6.heap.size, 0, none⟩ = some (.slice (some ⟨Xg0_0, 0, none⟩) l0_0 l0_0) ∧ w'.cell? ⟨w6.heap.size, 1, none⟩ = some (.slice (some ⟨Xg0_1, 0, none⟩) l0_1 l0_1) ∧ w'.cell? ⟨w6.heap.size, 2, none⟩ = some (.bool x0_2) ∧ w'.cell? ⟨w.heap.size, 0, none⟩ = some (.slice a0_0 l0_0 cap0_0) ∧ w'.cell? ⟨w.heap.size, 1, none⟩ = some (.slice a0_1 l0_1 cap0_1) ∧ w'.cell? ⟨w.heap.size, 2, none⟩ = some (.bool x0_2)) (first | assumption | exact qs10 | exact qd10 | exact qs11 | exact qs12 | go_keep) (first
    | (go_at_call 16; refine (Marker_to _ _ _ cs0_0 _ _ _ cs0_1 x0_2 false _ hf0_0 hs0_0 (h0_0.out.kept BD10.out) hf0_1 hs0_1 (h0_1.out.kept BD10.out)).mono ?_; rintro e w11 ⟨Zg0_0, Zg0_1, Zp0_1, rfl, hO0_0, hO0_1, hle0, hle1, hB⟩; have BW11 : Hid (Below w.heap.size w w11) := BD10.out.trans (hB.mono BD10.out.size); have SZ11 : Hid (w10.heap.size ≤ w11.heap.size) := hB.size; have BS11 : Hid (Below w4.heap.size w4 w11) := BS10.out.drew.trans (hB.mono BS10.out.drew.size); have X0_0_11 : Hid (Owns w11 true w5.heap.size (.l l0_0 3 cs0_0) (.slice (some ⟨Xg0_0, 0, none⟩) l0_0 l0_0) (rng w5.heap.size Xp0_1)) := (X0_0_10.out.kept (Below.refl _ _).drew).kept hB; have X0_1_11 : Hid (Owns w11 true w5.heap.size (.l l0_1 1 cs0_1) (.slice (some ⟨Xg0_1, 0, none⟩) l0_1 l0_1) (rng Xp0_1 w6.heap.size)) := (X0_1_10.out.kept (Below.refl _ _).drew).kept hB; have G0_0_11 : Hid (Owns w11 false w7.heap.size (.l lr0_0 3 csr0_0) (.slice ga0_0 lr0_0 gc0_0) gP0_0) := (G0_0_10.out.kept (Below.refl _ _).drew).kept hB; have G0_1_11 : Hid (Owns w11 false w7.heap.size (.l lr0_1 1 csr0_1) (.slice ga0_1 lr0_1 gc0_1) gP0_1) := (G0_1_10.out.kept (Below.refl _ _).drew).kept hB; have BXP0_11 : Hid (w11.rowIs (w.heap.size) 33 3 (rowF [.slice a0_0 l0_0 cap0_0, .slice a0_1 l0_1 cap0_1, .bool x0_2])) := BXP0_10.out.of_block (hB.block _ BXP0_10.out.lt); have BXS0_11 : Hid (w11.rowIs (w4.heap.size) 25 3 (rowF [.slice sa0_0 lr0_0 sc0_0, .slice sa0_1 lr0_1 sc0_1, .bool xr0_2])) := BXS0_10.out.of_block (hB.block _ BXS0_10.out.lt); have BXX0_11 : Hid (w11.rowIs (w6.heap.size) 25 3 (rowF [.slice (some ⟨Xg0_0, 0, none⟩) l0_0 l0_0, .slice (some ⟨Xg0_1, 0, none⟩) l0_1 l0_1, .bool x0_2])) := BXX0_10.out.of_block (hB.block _ BXX0_10.out.lt); have BXG0_11 : Hid (w11.rowIs (w8.heap.size) 25 3 (rowF [.slice ga0_0 lr0_0 gc0_0, .slice ga0_1 lr0_1 gc0_1, .bool xr0_2])) := BXG0_10.out.of_block (hB.block _ BXG0_10.out.lt); have Z0_0_11 : Hid (Holds w11 true (.l l0_0 3 cs0_0) (.slice (some ⟨Zg0_0, 0, none⟩) l0_0 l0_0)) := hO0_0.holds; have Z0_1_11 : Hid (Holds w11 true (.l l0_1 1 cs0_1) (.slice (some ⟨Zg0_1, 0, none⟩) l0_1 l0_1)) := hO0_1.holds; have qs11 : w11.cell? ⟨w6.heap.size, 0, none⟩ = some (.slice (some ⟨Xg0_0, 0, none⟩) l0_0 l0_0) ∧ w11.cell? ⟨w6.heap.size, 1, none⟩ = some (.slice (some ⟨Xg0_1, 0, none⟩) l0_1 l0_1) ∧ w11.cell? ⟨w6.heap.size, 2, none⟩ = some (.bool x0_2) ∧ w11.cell? ⟨w.heap.size, 0, none⟩ = some (.slice a0_0 l0_0 cap0_0) ∧ w11.cell? ⟨w.heap.size, 1, none⟩ = some (.slice a0_1 l0_1 cap0_1) ∧ w11.cell? ⟨w.heap.size, 2, none⟩ = some (.bool x0_2) := ⟨(BXX0_11.out).cell (i := 0) (by decide), (BXX0_11.out).cell (i := 1) (by decide), (BXX0_11.out).cell (i := 2) (by decide), (BXP0_11.out).cell (i := 0) (by decide), (BXP0_11.out).cell (i := 1) (by decide), (BXP0_11.out).cell (i := 2) (by decide)⟩; clear hB hO0_0 hO0_1 hle0 hle1)
    | (go_at_call 11; refine (Marker_eq _ _ _ cs0_0 _ _ _ cs0_1 x0_2 _ _ _ _ _ _ _ hf0_0 hs0_0 X0_0_11.out.holds hf0_1 hs0_1 X0_1_11.out.holds Z0_0_11 Z0_1_11).mono ?_; rintro e w12 ⟨rfl, hB⟩; have BW12 : Hid (Below w.heap.size w w12) := BW11.out.trans (hB.mono BW11.out.size); have SZ12 : Hid (w11.heap.size ≤ w12.heap.size) := hB.size; have BS12 : Hid (Below w4.heap.size w4 w12) := BS11.out.trans (hB.mono BS11.out.size); have X0_0_12 : Hid (Owns w12 true w5.heap.size (.l l0_0 3 cs0_0) (.slice (some ⟨Xg0_0, 0, none⟩) l0_0 l0_0) (rng w5.heap.size Xp0_1)) := X0_0_11.out.kept hB; have X0_1_12 : Hid (Owns w12 true w5.heap.size (.l l0_1 1 cs0_1) (.slice (some ⟨Xg0_1, 0, none⟩) l0_1 l0_1) (rng Xp0_1 w6.heap.size)) := X0_1_11.out.kept hB; have G0_0_12 : Hid (Owns w12 false w7.heap.size (.l lr0_0 3 csr0_0) (.slice ga0_0 lr0_0 gc0_0) gP0_0) := G0_0_11.out.kept hB; have G0_1_12 : Hid (Owns w12 false w7.heap.size (.l lr0_1 1 csr0_1) (.slice ga0_1 lr0_1 gc0_1) gP0_1) := G0_1_11.out.kept hB; have BXP0_12 : Hid (w12.rowIs (w.heap.size) 33 3 (rowF [.slice a0_0 l0_0 cap0_0, .slice a0_1 l0_1 cap0_1, .bool x0_2])) := BXP0_11.out.of_block (hB.block _ BXP0_11.out.lt); have BXS0_12 : Hid (w12.rowIs (w4.heap.size) 25 3 (rowF [.slice sa0_0 lr0_0 sc0_0, .slice sa0_1 lr0_1 sc0_1, .bool xr0_2])) := BXS0_11.out.of_block (hB.block _ BXS0_11.out.lt); have BXX0_12 : Hid (w12.rowIs (w6.heap.size) 25 3 (rowF [.slice (some ⟨Xg0_0, 0, none⟩) l0_0 l0_0, .slice (some ⟨Xg0_1, 0, none⟩) l0_1 l0_1, .bool x0_2])) := BXX0_11.out.of_block (hB.block _ BXX0_11.out.lt); have BXG0_12 : Hid (w12.rowIs (w8.heap.size) 25 3 (rowF [.slice ga0_0 lr0_0 gc0_0, .slice ga0_1 lr0_1 gc0_1, .bool xr0_2])) := BXG0_11.out.of_block (hB.block _ BXG0_11.out.lt); have qs12 : w12.cell? ⟨w6.heap.size, 0, none⟩ = some (.slice (some ⟨Xg0_0, 0, none⟩) l0_0 l0_0) ∧ w12.cell? ⟨w6.heap.size, 1, none⟩ = some (.slice (some ⟨Xg0_1, 0, none⟩) l0_1 l0_1) ∧ w12.cell? ⟨w6.heap.size, 2, none⟩ = some (.bool x0_2) ∧ w12.cell? ⟨w.heap.size, 0, none⟩ = some (.slice a0_0 l0_0 cap0_0) ∧ w12.cell? ⟨w.heap.size, 1, none⟩ = some (.slice a0_1 l0_1 cap0_1) ∧ w12.cell? ⟨w.heap.size, 2, none⟩ = some (.bool x0_2) := ⟨(BXX0_12.out).cell (i := 0) (by decide), (BXX0_12.out).cell (i := 1) (by decide), (BXX0_12.out).cell (i := 2) (by decide), (BXP0_12.out).cell (i := 0) (by decide), (BXP0_12.out).cell (i := 1) (by decide), (BXP0_12.out).cell (i := 2) (by decide)⟩; clear hB))
  clear qs10 qd10 qs11 qs12
  have hcn0_0 := cnt_le thin_CellS hf0_0.out
  obtain ⟨N0_0, HN0_0⟩ : ∃ N, Hid (cntD (.l l0_0 3 cs0_0) = N) := ⟨_, rfl⟩
  have hN0_0 : N0_0 ≤ 8388609 := by have q := hs0_0.out; rw [HN0_0.out] at hcn0_0; omega
  clear hcn0_0
  have hcn0_1 := cnt_le (s := shI) ⟨by decide, fun _ => trivial⟩ hf0_1.out
  obtain ⟨N0_1, HN0_1⟩ : ∃ N, Hid (cntD (.l l0_1 1 cs0_1) = N) := ⟨_, rfl⟩
  have hN0_1 : N0_1 ≤ 8388609 := by have q := hs0_1.out; rw [HN0_1.out] at hcn0_1; omega
  clear hcn0_1
  have blP0 : w.heap.size < w12.heap.size := BXP0_12.out.lt
  have bcP0_0 : w12.cell? ⟨w.heap.size, 0, none⟩ = some (.slice a0_0 l0_0 cap0_0) := BXP0_12.out.cell (i := 0) (by decide)
  have bcP0_1 : w12.cell? ⟨w.heap.size, 1, none⟩ = some (.slice a0_1 l0_1 cap0_1) := BXP0_12.out.cell (i := 1) (by decide)
  have bcP0_2 : w12.cell? ⟨w.heap.size, 2, none⟩ = some (.bool x0_2) := BXP0_12.out.cell (i := 2) (by decide)
  have blS0 : w4.heap.size < w12.heap.size := BXS0_12.out.lt
  have bcS0_0 : w12.cell? ⟨w4.heap.size, 0, none⟩ = some (.slice sa0_0 lr0_0 sc0_0) := BXS0_12.out.cell (i := 0) (by decide)
  have bcS0_1 : w12.cell? ⟨w4.heap.size, 1, none⟩ = some (.slice sa0_1 lr0_1 sc0_1) := BXS0_12.out.cell (i := 1) (by decide)
  have bcS0_2 : w12.cell? ⟨w4.heap.size, 2, none⟩ = some (.bool xr0_2) := BXS0_12.out.cell (i := 2) (by decide)
  have blX0 : w6.heap.size < w12.heap.size := BXX0_12.out.lt
  have bcX0_0 : w12.cell? ⟨w6.heap.size, 0, none⟩ = some (.slice (some ⟨Xg0_0, 0, none⟩) l0_0 l0_0) := BXX0_12.out.cell (i := 0) (by decide)
  have bcX0_1 : w12.cell? ⟨w6.heap.size, 1, none⟩ = some (.slice (some ⟨Xg0_1, 0, none⟩) l0_1 l0_1) := BXX0_12.out.cell (i := 1) (by decide)
  have bcX0_2 : w12.cell? ⟨w6.heap.size, 2, none⟩ = some (.bool x0_2) := BXX0_12.out.cell (i := 2) (by decide)
  have blG0 : w8.heap.size < w12.heap.size := BXG0_12.out.lt
  have bcG0_0 : w12.cell? ⟨w8.heap.size, 0, none⟩ = some (.slice ga0_0 lr0_0 gc0_0) := BXG0_12.out.cell (i := 0) (by decide)
  have bcG0_1 : w12.cell? ⟨w8.heap.size, 1, none⟩ = some (.slice ga0_1 lr0_1 gc0_1) := BXG0_12.out.cell (i := 1) (by decide)
  have bcG0_2 : w12.cell? ⟨w8.heap.size, 2, none⟩ = some (.bool xr0_2) := BXG0_12.out.cell (i := 2) (by decide)
  go_wp2_with fail
  clear blP0 bcP0_0 bcP0_1 bcP0_2 blS0 bcS0_0 bcS0_1 bcS0_2 blX0 bcX0_0 bcX0_1 bcX0_2 blG0 bcG0_0 bcG0_1 bcG0_2
  refine (Marker_mark (1) (by omega) (by omega) _ _ _ cs0_0 _ _ _ cs0_1 x0_2 true _ _ _ _ hf0_0 hs0_0 X0_0_12 (fun x hx => by have r1 := hx.2; have t0 := Xle0_0.out; have t1 := Xle0_1.out; have q7 := SZ7.out; have q8 := SZ8.out; have q9 := SZ9.out; have q10 := SZ10.out; have q11 := SZ11.out; have q12 := SZ12.out; omega) hf0_1 hs0_1 X0_1_12 (fun x hx => by have r1 := hx.2; have t0 := Xle0_0.out; have t1 := Xle0_1.out; have q7 := SZ7.out; have q8 := SZ8.out; have q9 := SZ9.out; have q10 := SZ10.out; have q11 := SZ11.out; have q12 := SZ12.out; omega) (fun x hx hy => by have r1 := hx.2; have r2 := hy.1;  omega)).mono ?_
  rw [HN0_0.out, HN0_1.out]
  rintro e w13 ⟨rfl, _, _, hF⟩
  have hF : OnlyF w12 w13 (rng w5.heap.size w6.heap.size) := hF.more (fun x hx => by rcases hx with hx | hx <;> exact ⟨by have := hx.1; have t0 := Xle0_0.out; have t1 := Xle0_1.out; omega, by have := hx.2; have t0 := Xle0_0.out; have t1 := Xle0_1.out; omega⟩)
  have hB : Below w5.heap.size w12 w13 := hF.below (by have q6 := SZ6.out; have q7 := SZ7.out; have q8 := SZ8.out; have q9 := SZ9.out; have q10 := SZ10.out; have q11 := SZ11.out; have q12 := SZ12.out; omega) (fun x hx => hx.1)
  have BW13 : Hid (Below w.heap.size w w13) := BW12.out.trans (hB.mono BW5.out.size)
  have SZ13 : Hid (w12.heap.size ≤ w13.heap.size) := hB.size
  have BS13 : Hid (Below w4.heap.size w4 w13) := BS12.out.trans (hB.mono BS5.out.size)
  have G0_0_13 : Hid (Owns w13 false w7.heap.size (.l lr0_0 3 csr0_0) (.slice ga0_0 lr0_0 gc0_0) gP0_0) := hF.owns (fun x hx hy => by have r1 := (GF0_0.out x hx).1; have r2 := hy.2; have q7 := SZ7.out; omega) G0_0_12.out
  have G0_1_13 : Hid (Owns w13 false w7.heap.size (.l lr0_1 1 csr0_1) (.slice ga0_1 lr0_1 gc0_1) gP0_1) := hF.owns (fun x hx hy => by have r1 := (GF0_1.out x hx).1; have r2 := hy.2; have q7 := SZ7.out; omega) G0_1_12.out
  have BXP0_13 : Hid (w13.rowIs (w.heap.size) 33 3 (rowF [.slice a0_0 l0_0 cap0_0, .slice a0_1 l0_1 cap0_1, .bool x0_2])) := BXP0_12.out.of_block (hF.block _ BXP0_12.out.lt (fun hy => by have r1 := hy.1; have r2 := LTP0.out; have q2 := SZ2.out; have q3 := SZ3.out; have q4 := SZ4.out; have q5 := SZ5.out; omega))
  have BXS0_13 : Hid (w13.rowIs (w4.heap.size) 25 3 (rowF [.slice sa0_0 lr0_0 sc0_0, .slice sa0_1 lr0_1 sc0_1, .bool xr0_2])) := BXS0_12.out.of_block (hF.block _ BXS0_12.out.lt (fun hy => by have r1 := hy.1; have r2 := LTS0.out;  omega))
  have BXX0_13 : Hid (w13.rowIs (w6.heap.size) 25 3 (rowF [.slice (some ⟨Xg0_0, 0, none⟩) l0_0 l0_0, .slice (some ⟨Xg0_1, 0, none⟩) l0_1 l0_1, .bool x0_2])) := BXX0_12.out.of_block (hF.block _ BXX0_12.out.lt (fun hy => by have r1 := hy.2; have r3 := ADX0.out;  omega))
  have BXG0_13 : Hid (w13.rowIs (w8.heap.size) 25 3 (rowF [.slice ga0_0 lr0_0 gc0_0, .slice ga0_1 lr0_1 gc0_1, .bool xr0_2])) := BXG0_12.out.of_block (hF.block _ BXG0_12.out.lt (fun hy => by have r1 := hy.2; have r3 := ADG0.out; have q7 := SZ7.out; have q8 := SZ8.out; omega))
  clear hF hB
  have hk : (0 : Int) ≤ 1 + (N0_0 : Int) + (N0_1 : Int) := by omega
  have blP0 : w.heap.size < w13.heap.size := BXP0_13.out.lt
  have bcP0_0 : w13.cell? ⟨w.heap.size, 0, none⟩ = some (.slice a0_0 l0_0 cap0_0) := BXP0_13.out.cell (i := 0) (by decide)
  have bcP0_1 : w13.cell? ⟨w.heap.size, 1, none⟩ = some (.slice a0_1 l0_1 cap0_1) := BXP0_13.out.cell (i := 1) (by decide)
  have bcP0_2 : w13.cell? ⟨w.heap.size, 2, none⟩ = some (.bool x0_2) := BXP0_13.out.cell (i := 2) (by decide)
  have blS0 : w4.heap.size < w13.heap.size := BXS0_13.out.lt
  have bcS0_0 : w13.cell? ⟨w4.heap.size, 0, none⟩ = some (.slice sa0_0 lr0_0 sc0_0) := BXS0_13.out.cell (i := 0) (by decide)
  have bcS0_1 : w13.cell? ⟨w4.heap.size, 1, none⟩ = some (.slice sa0_1 lr0_1 sc0_1) := BXS0_13.out.cell (i := 1) (by decide)
  have bcS0_2 : w13.cell? ⟨w4.heap.size, 2, none⟩ = some (.bool xr0_2) := BXS0_13.out.cell (i := 2) (by decide)
  have blX0 : w6.heap.size < w13.heap.size := BXX0_13.out.lt
  have bcX0_0 : w13.cell? ⟨w6.heap.size, 0, none⟩ = some (.slice (some ⟨Xg0_0, 0, none⟩) l0_0 l0_0) := BXX0_13.out.cell (i := 0) (by decide)
  have bcX0_1 : w13.cell? ⟨w6.heap.size, 1, none⟩ = some (.slice (some ⟨Xg0_1, 0, none⟩) l0_1 l0_1) := BXX0_13.out.cell (i := 1) (by decide)
  have bcX0_2 : w13.cell? ⟨w6.heap.size, 2, none⟩ = some (.bool x0_2) := BXX0_13.out.cell (i := 2) (by decide)
  have blG0 : w8.heap.size < w13.heap.size := BXG0_13.out.lt
  have bcG0_0 : w13.cell? ⟨w8.heap.size, 0, none⟩ = some (.slice ga0_0 lr0_0 gc0_0) := BXG0_13.out.cell (i := 0) (by decide)
  have bcG0_1 : w13.cell? ⟨w8.heap.size, 1, none⟩ = some (.slice ga0_1 lr0_1 gc0_1) := BXG0_13.out.cell (i := 1) (by decide)
  have bcG0_2 : w13.cell? ⟨w8.heap.size, 2, none⟩ = some (.bool xr0_2) := BXG0_13.out.cell (i := 2) (by decide)
  go_wp2_with fail
  clear blP0 bcP0_0 bcP0_1 bcP0_2 blS0 bcS0_0 bcS0_1 bcS0_2 blX0 bcX0_0 bcX0_1 bcX0_2 blG0 bcG0_0 bcG0_1 bcG0_2
  refine (Marker_eq _ _ _ csr0_0 _ _ _ csr0_1 xr0_2 _ _ _ _ _ _ _ hfr0_0 hsr0_0 G0_0_13.out.holds hfr0_1 hsr0_1 G0_1_13.out.holds (S0_0.out.kept BS13.out) (S0_1.out.kept BS13.out)).mono ?_
  rintro e w14 ⟨rfl, hB⟩
  have BW14 : Hid (Below w.heap.size w w14) := BW13.out.trans (hB.mono BW13.out.size)
  have SZ14 : Hid (w13.heap.size ≤ w14.heap.size) := hB.size
  have BS14 : Hid (Below w4.heap.size w4 w14) := BS13.out.trans (hB.mono BS13.out.size)
  have G0_0_14 : Hid (Owns w14 false w7.heap.size (.l lr0_0 3 csr0_0) (.slice ga0_0 lr0_0 gc0_0) gP0_0) := G0_0_13.out.kept hB
  have G0_1_14 : Hid (Owns w14 false w7.heap.size (.l lr0_1 1 csr0_1) (.slice ga0_1 lr0_1 gc0_1) gP0_1) := G0_1_13.out.kept hB
  have BXP0_14 : Hid (w14.rowIs (w.heap.size) 33 3 (rowF [.slice a0_0 l0_0 cap0_0, .slice a0_1 l0_1 cap0_1, .bool x0_2])) := BXP0_13.out.of_block (hB.block _ BXP0_13.out.lt)
  have BXS0_14 : Hid (w14.rowIs (w4.heap.size) 25 3 (rowF [.slice sa0_0 lr0_0 sc0_0, .slice sa0_1 lr0_1 sc0_1, .bool xr0_2])) := BXS0_13.out.of_block (hB.block _ BXS0_13.out.lt)
  have BXX0_14 : Hid (w14.rowIs (w6.heap.size) 25 3 (rowF [.slice (some ⟨Xg0_0, 0, none⟩) l0_0 l0_0, .slice (some ⟨Xg0_1, 0, none⟩) l0_1 l0_1, .bool x0_2])) := BXX0_13.out.of_block (hB.block _ BXX0_13.out.lt)
  have BXG0_14 : Hid (w14.rowIs (w8.heap.size) 25 3 (rowF [.slice ga0_0 lr0_0 gc0_0, .slice ga0_1 lr0_1 gc0_1, .bool xr0_2])) := BXG0_13.out.of_block (hB.block _ BXG0_13.out.lt)
  clear hB
  have hcnr0_0 := cnt_le thin_CellS hfr0_0.out
  obtain ⟨M0_0, HM0_0⟩ : ∃ N, Hid (cntD (.l lr0_0 3 csr0_0) = N) := ⟨_, rfl⟩
  have hM0_0 : M0_0 ≤ 800001 := by have q := hsx0_0.out; rw [HM0_0.out] at hcnr0_0; omega
  clear hcnr0_0
  have hcnr0_1 := cnt_le (s := shI) ⟨by decide, fun _ => trivial⟩ hfr0_1.out
  obtain ⟨M0_1, HM0_1⟩ : ∃ N, Hid (cntD (.l lr0_1 1 csr0_1) = N) := ⟨_, rfl⟩
  have hM0_1 : M0_1 ≤ 800001 := by have q := hsx0_1.out; rw [HM0_1.out] at hcnr0_1; omega
  clear hcnr0_1
  have blP0 : w.heap.size < w14.heap.size := BXP0_14.out.lt
  have bcP0_0 : w14.cell? ⟨w.heap.size, 0, none⟩ = some (.slice a0_0 l0_0 cap0_0) := BXP0_14.out.cell (i := 0) (by decide)
  have bcP0_1 : w14.cell? ⟨w.heap.size, 1, none⟩ = some (.slice a0_1 l0_1 cap0_1) := BXP0_14.out.cell (i := 1) (by decide)
  have bcP0_2 : w14.cell? ⟨w.heap.size, 2, none⟩ = some (.bool x0_2) := BXP0_14.out.cell (i := 2) (by decide)
  have blS0 : w4.heap.size < w14.heap.size := BXS0_14.out.lt
  have bcS0_0 : w14.cell? ⟨w4.heap.size, 0, none⟩ = some (.slice sa0_0 lr0_0 sc0_0) := BXS0_14.out.cell (i := 0) (by decide)
  have bcS0_1 : w14.cell? ⟨w4.heap.size, 1, none⟩ = some (.slice sa0_1 lr0_1 sc0_1) := BXS0_14.out.cell (i := 1) (by decide)
  have bcS0_2 : w14.cell? ⟨w4.heap.size, 2, none⟩ = some (.bool xr0_2) := BXS0_14.out.cell (i := 2) (by decide)
  have blX0 : w6.heap.size < w14.heap.size := BXX0_14.out.lt
  have bcX0_0 : w14.cell? ⟨w6.heap.size, 0, none⟩ = some (.slice (some ⟨Xg0_0, 0, none⟩) l0_0 l0_0) := BXX0_14.out.cell (i := 0) (by decide)
  have bcX0_1 : w14.cell? ⟨w6.heap.size, 1, none⟩ = some (.slice (some ⟨Xg0_1, 0, none⟩) l0_1 l0_1) := BXX0_14.out.cell (i := 1) (by decide)
  have bcX0_2 : w14.cell? ⟨w6.heap.size, 2, none⟩ = some (.bool x0_2) := BXX0_14.out.cell (i := 2) (by decide)
  have blG0 : w8.heap.size < w14.heap.size := BXG0_14.out.lt
  have bcG0_0 : w14.cell? ⟨w8.heap.size, 0, none⟩ = some (.slice ga0_0 lr0_0 gc0_0) := BXG0_14.out.cell (i := 0) (by decide)
  have bcG0_1 : w14.cell? ⟨w8.heap.size, 1, none⟩ = some (.slice ga0_1 lr0_1 gc0_1) := BXG0_14.out.cell (i := 1) (by decide)
  have bcG0_2 : w14.cell? ⟨w8.heap.size, 2, none⟩ = some (.bool xr0_2) := BXG0_14.out.cell (i := 2) (by decide)
  go_wp2_with fail
  clear blP0 bcP0_0 bcP0_1 bcP0_2 blS0 bcS0_0 bcS0_1 bcS0_2 blX0 bcX0_0 bcX0_1 bcX0_2 blG0 bcG0_0 bcG0_1 bcG0_2
  refine (Marker_mark (1) (by omega) (by omega) _ _ _ csr0_0 _ _ _ csr0_1 xr0_2 false _ _ _ _ hfr0_0 hsr0_0 G0_0_14 (fun x hx => by have r1 := (GF0_0.out x hx).2; have q9 := SZ9.out; have q10 := SZ10.out; have q11 := SZ11.out; have q12 := SZ12.out; have q13 := SZ13.out; have q14 := SZ14.out; omega) hfr0_1 hsr0_1 G0_1_14 (fun x hx => by have r1 := (GF0_1.out x hx).2; have q9 := SZ9.out; have q10 := SZ10.out; have q11 := SZ11.out; have q12 := SZ12.out; have q13 := SZ13.out; have q14 := SZ14.out; omega) GD0_00_1.out).mono ?_
  rw [HM0_0.out, HM0_1.out]
  rintro e w15 ⟨rfl, hO0_0, hO0_1, hF⟩
  have hB : Below w7.heap.size w14 w15 := hF.below (by have q8 := SZ8.out; have q9 := SZ9.out; have q10 := SZ10.out; have q11 := SZ11.out; have q12 := SZ12.out; have q13 := SZ13.out; have q14 := SZ14.out; omega) (fun x hx => by rcases hx with hx | hx <;> first | exact (GF0_0.out x hx).1 | exact (GF0_1.out x hx).1)
  have BW15 : Hid (Below w.heap.size w w15) := BW14.out.trans (hB.mono BW7.out.size)
  have SZ15 : Hid (w14.heap.size ≤ w15.heap.size) := hB.size
  have BS15 : Hid (Below w4.heap.size w4 w15) := BS14.out.trans (hB.mono BS7.out.size)
  have G0_0_15 : Hid (Owns w15 false w7.heap.size (mkD (1) (.l lr0_0 3 csr0_0)) (.slice ga0_0 lr0_0 gc0_0) gP0_0) := hO0_0
  have G0_1_15 : Hid (Owns w15 false w7.heap.size (mkD (1 + (M0_0 : Int)) (.l lr0_1 1 csr0_1)) (.slice ga0_1 lr0_1 gc0_1) gP0_1) := hO0_1
  have BXP0_15 : Hid (w15.rowIs (w.heap.size) 33 3 (rowF [.slice a0_0 l0_0 cap0_0, .slice a0_1 l0_1 cap0_1, .bool x0_2])) := BXP0_14.out.of_block (hF.block _ BXP0_14.out.lt (fun hy => by rcases hy with hy | hy <;> first | (have r0 := GF0_0.out _ hy; have r1 := r0.1; have r2 := LTP0.out; have q2 := SZ2.out; have q3 := SZ3.out; have q4 := SZ4.out; have q5 := SZ5.out; have q6 := SZ6.out; have q7 := SZ7.out; omega) | (have r0 := GF0_1.out _ hy; have r1 := r0.1; have r2 := LTP0.out; have q2 := SZ2.out; have q3 := SZ3.out; have q4 := SZ4.out; have q5 := SZ5.out; have q6 := SZ6.out; have q7 := SZ7.out; omega)))
  have BXS0_15 : Hid (w15.rowIs (w4.heap.size) 25 3 (rowF [.slice sa0_0 lr0_0 sc0_0, .slice sa0_1 lr0_1 sc0_1, .bool xr0_2])) := BXS0_14.out.of_block (hF.block _ BXS0_14.out.lt (fun hy => by rcases hy with hy | hy <;> first | (have r0 := GF0_0.out _ hy; have r1 := r0.1; have r2 := LTS0.out; have q6 := SZ6.out; have q7 := SZ7.out; omega) | (have r0 := GF0_1.out _ hy; have r1 := r0.1; have r2 := LTS0.out; have q6 := SZ6.out; have q7 := SZ7.out; omega)))
  have BXX0_15 : Hid (w15.rowIs (w6.heap.size) 25 3 (rowF [.slice (some ⟨Xg0_0, 0, none⟩) l0_0 l0_0, .slice (some ⟨Xg0_1, 0, none⟩) l0_1 l0_1, .bool x0_2])) := BXX0_14.out.of_block (hF.block _ BXX0_14.out.lt (fun hy => by rcases hy with hy | hy <;> first | (have r0 := GF0_0.out _ hy; have r1 := r0.1; have r2 := LTX0.out;  omega) | (have r0 := GF0_1.out _ hy; have r1 := r0.1; have r2 := LTX0.out;  omega)))
  have BXG0_15 : Hid (w15.rowIs (w8.heap.size) 25 3 (rowF [.slice ga0_0 lr0_0 gc0_0, .slice ga0_1 lr0_1 gc0_1, .bool xr0_2])) := BXG0_14.out.of_block (hF.block _ BXG0_14.out.lt (fun hy => by rcases hy with hy | hy <;> first | (have r0 := GF0_0.out _ hy; have r1 := r0.2; have r3 := ADG0.out;  omega) | (have r0 := GF0_1.out _ hy; have r1 := r0.2; have r3 := ADG0.out;  omega)))
  clear hF hB hO0_0 hO0_1
  have hm : (0 : Int) ≤ 1 + (M0_0 : Int) + (M0_1 : Int) := by omega
  have blP0 : w.heap.size < w15.heap.size := BXP0_15.out.lt
  have bcP0_0 : w15.cell? ⟨w.heap.size, 0, none⟩ = some (.slice a0_0 l0_0 cap0_0) := BXP0_15.out.cell (i := 0) (by decide)
  have bcP0_1 : w15.cell? ⟨w.heap.size, 1, none⟩ = some (.slice a0_1 l0_1 cap0_1) := BXP0_15.out.cell (i := 1) (by decide)
  have bcP0_2 : w15.cell? ⟨w.heap.size, 2, none⟩ = some (.bool x0_2) := BXP0_15.out.cell (i := 2) (by decide)
  have blS0 : w4.heap.size < w15.heap.size := BXS0_15.out.lt
  have bcS0_0 : w15.cell? ⟨w4.heap.size, 0, none⟩ = some (.slice sa0_0 lr0_0 sc0_0) := BXS0_15.out.cell (i := 0) (by decide)
  have bcS0_1 : w15.cell? ⟨w4.heap.size, 1, none⟩ = some (.slice sa0_1 lr0_1 sc0_1) := BXS0_15.out.cell (i := 1) (by decide)
  have bcS0_2 : w15.cell? ⟨w4.heap.size, 2, none⟩ = some (.bool xr0_2) := BXS0_15.out.cell (i := 2) (by decide)
  have blX0 : w6.heap.size < w15.heap.size := BXX0_15.out.lt
  have bcX0_0 : w15.cell? ⟨w6.heap.size, 0, none⟩ = some (.slice (some ⟨Xg0_0, 0, none⟩) l0_0 l0_0) := BXX0_15.out.cell (i := 0) (by decide)
  have bcX0_1 : w15.cell? ⟨w6.heap.size, 1, none⟩ = some (.slice (some ⟨Xg0_1, 0, none⟩) l0_1 l0_1) := BXX0_15.out.cell (i := 1) (by decide)
  have bcX0_2 : w15.cell? ⟨w6.heap.size, 2, none⟩ = some (.bool x0_2) := BXX0_15.out.cell (i := 2) (by decide)
  have blG0 : w8.heap.size < w15.heap.size := BXG0_15.out.lt
  have bcG0_0 : w15.cell? ⟨w8.heap.size, 0, none⟩ = some (.slice ga0_0 lr0_0 gc0_0) := BXG0_15.out.cell (i := 0) (by decide)
  have bcG0_1 : w15.cell? ⟨w8.heap.size, 1, none⟩ = some (.slice ga0_1 lr0_1 gc0_1) := BXG0_15.out.cell (i := 1) (by decide)
  have bcG0_2 : w15.cell? ⟨w8.heap.size, 2, none⟩ = some (.bool xr0_2) := BXG0_15.out.cell (i := 2) (by decide)
  go_wp2_with fail
  clear blP0 bcP0_0 bcP0_1 bcP0_2 blS0 bcS0_0 bcS0_1 bcS0_2 blX0 bcX0_0 bcX0_1 bcX0_2 blG0 bcG0_0 bcG0_1 bcG0_2
  refine (Marker_held (1) (by omega) _ _ _ csr0_0 _ _ _ csr0_1 xr0_2 false _ hfr0_0 hsr0_0 hfr0_1 hsr0_1 (by rw [HM0_0.out, HM0_1.out]; omega) G0_0_15.out.holds (by rw [HM0_0.out]; exact G0_1_15.out.holds)).mono ?_
  rw [HM0_0.out, HM0_1.out]
  rintro e w16 ⟨rfl, hB⟩
  have BW16 : Hid (Below w.heap.size w w16) := BW15.out.trans (hB.mono BW15.out.size)
  have SZ16 : Hid (w15.heap.size ≤ w16.heap.size) := hB.size
  have BS16 : Hid (Below w4.heap.size w4 w16) := BS15.out.trans (hB.mono BS15.out.size)
  have G0_0_16 : Hid (Owns w16 false w7.heap.size (mkD (1) (.l lr0_0 3 csr0_0)) (.slice ga0_0 lr0_0 gc0_0) gP0_0) := G0_0_15.out.kept hB
  have G0_1_16 : Hid (Owns w16 false w7.heap.size (mkD (1 + (M0_0 : Int)) (.l lr0_1 1 csr0_1)) (.slice ga0_1 lr0_1 gc0_1) gP0_1) := G0_1_15.out.kept hB
  have BXP0_16 : Hid (w16.rowIs (w.heap.size) 33 3 (rowF [.slice a0_0 l0_0 cap0_0, .slice a0_1 l0_1 cap0_1, .bool x0_2])) := BXP0_15.out.of_block (hB.block _ BXP0_15.out.lt)
  have BXS0_16 : Hid (w16.rowIs (w4.heap.size) 25 3 (rowF [.slice sa0_0 lr0_0 sc0_0, .slice sa0_1 lr0_1 sc0_1, .bool xr0_2])) := BXS0_15.out.of_block (hB.block _ BXS0_15.out.lt)
  have BXX0_16 : Hid (w16.rowIs (w6.heap.size) 25 3 (rowF [.slice (some ⟨Xg0_0, 0, none⟩) l0_0 l0_0, .slice (some ⟨Xg0_1, 0, none⟩) l0_1 l0_1, .bool x0_2])) := BXX0_15.out.of_block (hB.block _ BXX0_15.out.lt)
  have BXG0_16 : Hid (w16.rowIs (w8.heap.size) 25 3 (rowF [.slice ga0_0 lr0_0 gc0_0, .slice ga0_1 lr0_1 gc0_1, .bool xr0_2])) := BXG0_15.out.of_block (hB.block _ BXG0_15.out.lt)
  clear hB
  have hq16_0 : (0 : Int) ≤ 1 + (M0_0 : Int) + (M0_1 : Int) := by omega
  have blP0 : w.heap.size < w16.heap.size := BXP0_16.out.lt
  have bcP0_0 : w16.cell? ⟨w.heap.size, 0, none⟩ = some (.slice a0_0 l0_0 cap0_0) := BXP0_16.out.cell (i := 0) (by decide)
  have bcP0_1 : w16.cell? ⟨w.heap.size, 1, none⟩ = some (.slice a0_1 l0_1 cap0_1) := BXP0_16.out.cell (i := 1) (by decide)
  have bcP0_2 : w16.cell? ⟨w.heap.size, 2, none⟩ = some (.bool x0_2) := BXP0_16.out.cell (i := 2) (by decide)
  have blS0 : w4.heap.size < w16.heap.size := BXS0_16.out.lt
  have bcS0_0 : w16.cell? ⟨w4.heap.size, 0, none⟩ = some (.slice sa0_0 lr0_0 sc0_0) := BXS0_16.out.cell (i := 0) (by decide)
  have bcS0_1 : w16.cell? ⟨w4.heap.size, 1, none⟩ = some (.slice sa0_1 lr0_1 sc0_1) := BXS0_16.out.cell (i := 1) (by decide)
  have bcS0_2 : w16.cell? ⟨w4.heap.size, 2, none⟩ = some (.bool xr0_2) := BXS0_16.out.cell (i := 2) (by decide)
  have blX0 : w6.heap.size < w16.heap.size := BXX0_16.out.lt
  have bcX0_0 : w16.cell? ⟨w6.heap.size, 0, none⟩ = some (.slice (some ⟨Xg0_0, 0, none⟩) l0_0 l0_0) := BXX0_16.out.cell (i := 0) (by decide)
  have bcX0_1 : w16.cell? ⟨w6.heap.size, 1, none⟩ = some (.slice (some ⟨Xg0_1, 0, none⟩) l0_1 l0_1) := BXX0_16.out.cell (i := 1) (by decide)
  have bcX0_2 : w16.cell? ⟨w6.heap.size, 2, none⟩ = some (.bool x0_2) := BXX0_16.out.cell (i := 2) (by decide)
  have blG0 : w8.heap.size < w16.heap.size := BXG0_16.out.lt
  have bcG0_0 : w16.cell? ⟨w8.heap.size, 0, none⟩ = some (.slice ga0_0 lr0_0 gc0_0) := BXG0_16.out.cell (i := 0) (by decide)
  have bcG0_1 : w16.cell? ⟨w8.heap.size, 1, none⟩ = some (.slice ga0_1 lr0_1 gc0_1) := BXG0_16.out.cell (i := 1) (by decide)
  have bcG0_2 : w16.cell? ⟨w8.heap.size, 2, none⟩ = some (.bool xr0_2) := BXG0_16.out.cell (i := 2) (by decide)
  go_wp2_with fail
  clear blP0 bcP0_0 bcP0_1 bcP0_2 blS0 bcS0_0 bcS0_1 bcS0_2 blX0 bcX0_0 bcX0_1 bcX0_2 blG0 bcG0_0 bcG0_1 bcG0_2
  refine (Marker_to _ _ _ cs0_0 _ _ _ cs0_1 x0_2 false _ hf0_0 hs0_0 (h0_0.out.kept BW16.out) hf0_1 hs0_1 (h0_1.out.kept BW16.out)).mono ?_
  rintro e w17 ⟨Cg0_0, Cg0_1, Cp0_1, rfl, hO0_0, hO0_1, hle0, hle1, hB⟩
  have C0_0_17 : Hid (Owns w17 true w16.heap.size (.l l0_0 3 cs0_0) (.slice (some ⟨Cg0_0, 0, none⟩) l0_0 l0_0) (rng w16.heap.size Cp0_1)) := hO0_0
  have C0_1_17 : Hid (Owns w17 true w16.heap.size (.l l0_1 1 cs0_1) (.slice (some ⟨Cg0_1, 0, none⟩) l0_1 l0_1) (rng Cp0_1 w17.heap.size)) := hO0_1
  have BW17 : Hid (Below w.heap.size w w17) := BW16.out.trans (hB.mono BW16.out.size)
  have SZ17 : Hid (w16.heap.size ≤ w17.heap.size) := hB.size
  have BS17 : Hid (Below w4.heap.size w4 w17) := BS16.out.trans (hB.mono BS16.out.size)
  have G0_0_17 : Hid (Owns w17 false w7.heap.size (mkD (1) (.l lr0_0 3 csr0_0)) (.slice ga0_0 lr0_0 gc0_0) gP0_0) := G0_0_16.out.kept hB
  have G0_1_17 : Hid (Owns w17 false w7.heap.size (mkD (1 + (M0_0 : Int)) (.l lr0_1 1 csr0_1)) (.slice ga0_1 lr0_1 gc0_1) gP0_1) := G0_1_16.out.kept hB
  have BXP0_17 : Hid (w17.rowIs (w.heap.size) 33 3 (rowF [.slice a0_0 l0_0 cap0_0, .slice a0_1 l0_1 cap0_1, .bool x0_2])) := BXP0_16.out.of_block (hB.block _ BXP0_16.out.lt)
  have BXS0_17 : Hid (w17.rowIs (w4.heap.size) 25 3 (rowF [.slice sa0_0 lr0_0 sc0_0, .slice sa0_1 lr0_1 sc0_1, .bool xr0_2])) := BXS0_16.out.of_block (hB.block _ BXS0_16.out.lt)
  have BXX0_17 : Hid (w17.rowIs (w6.heap.size) 25 3 (rowF [.slice (some ⟨Xg0_0, 0, none⟩) l0_0 l0_0, .slice (some ⟨Xg0_1, 0, none⟩) l0_1 l0_1, .bool x0_2])) := BXX0_16.out.of_block (hB.block _ BXX0_16.out.lt)
  have BXG0_17 : Hid (w17.rowIs (w8.heap.size) 25 3 (rowF [.slice ga0_0 lr0_0 gc0_0, .slice ga0_1 lr0_1 gc0_1, .bool xr0_2])) := BXG0_16.out.of_block (hB.block _ BXG0_16.out.lt)
  clear hB hO0_0 hO0_1
  have Cle0_0 : Hid (w16.heap.size ≤ Cp0_1) := hle0
  clear hle0
  have Cle0_1 : Hid (Cp0_1 ≤ w17.heap.size) := hle1
  clear hle1
  have blP0 : w.heap.size < w17.heap.size := BXP0_17.out.lt
  have bcP0_0 : w17.cell? ⟨w.heap.size, 0, none⟩ = some (.slice a0_0 l0_0 cap0_0) := BXP0_17.out.cell (i := 0) (by decide)
  have bcP0_1 : w17.cell? ⟨w.heap.size, 1, none⟩ = some (.slice a0_1 l0_1 cap0_1) := BXP0_17.out.cell (i := 1) (by decide)
  have bcP0_2 : w17.cell? ⟨w.heap.size, 2, none⟩ = some (.bool x0_2) := BXP0_17.out.cell (i := 2) (by decide)
  have blS0 : w4.heap.size < w17.heap.size := BXS0_17.out.lt
  have bcS0_0 : w17.cell? ⟨w4.heap.size, 0, none⟩ = some (.slice sa0_0 lr0_0 sc0_0) := BXS0_17.out.cell (i := 0) (by decide)
  have bcS0_1 : w17.cell? ⟨w4.heap.size, 1, none⟩ = some (.slice sa0_1 lr0_1 sc0_1) := BXS0_17.out.cell (i := 1) (by decide)
  have bcS0_2 : w17.cell? ⟨w4.heap.size, 2, none⟩ = some (.bool xr0_2) := BXS0_17.out.cell (i := 2) (by decide)
  have blX0 : w6.heap.size < w17.heap.size := BXX0_17.out.lt
  have bcX0_0 : w17.cell? ⟨w6.heap.size, 0, none⟩ = some (.slice (some ⟨Xg0_0, 0, none⟩) l0_0 l0_0) := BXX0_17.out.cell (i := 0) (by decide)
  have bcX0_1 : w17.cell? ⟨w6.heap.size, 1, none⟩ = some (.slice (some ⟨Xg0_1, 0, none⟩) l0_1 l0_1) := BXX0_17.out.cell (i := 1) (by decide)
  have bcX0_2 : w17.cell? ⟨w6.heap.size, 2, none⟩ = some (.bool x0_2) := BXX0_17.out.cell (i := 2) (by decide)
  have blG0 : w8.heap.size < w17.heap.size := BXG0_17.out.lt
  have bcG0_0 : w17.cell? ⟨w8.heap.size, 0, none⟩ = some (.slice ga0_0 lr0_0 gc0_0) := BXG0_17.out.cell (i := 0) (by decide)
  have bcG0_1 : w17.cell? ⟨w8.heap.size, 1, none⟩ = some (.slice ga0_1 lr0_1 gc0_1) := BXG0_17.out.cell (i := 1) (by decide)
  have bcG0_2 : w17.cell? ⟨w8.heap.size, 2, none⟩ = some (.bool xr0_2) := BXG0_17.out.cell (i := 2) (by decide)
  go_wp2_with fail
  clear blP0 bcP0_0 bcP0_1 bcP0_2 blS0 bcS0_0 bcS0_1 bcS0_2 blX0 bcX0_0 bcX0_1 bcX0_2 blG0 bcG0_0 bcG0_1 bcG0_2
  refine (HI.out _ _ _ _ _ C0_0_17.out.holds C0_1_17.out.holds).mono ?_
  rintro e w18 ⟨ha0_0, hc0_0, ha0_1, hc0_1, hP0_0, hP0_1, rfl, hO0_0, hF0_0, hO0_1, hF0_1, hD0_00_1, hB⟩
  have H0_0_18 : Hid (Owns w18 false w17.heap.size (.l lr0_0 3 csr0_0) (.slice ha0_0 lr0_0 hc0_0) hP0_0) := hO0_0
  have HF0_0 : Hid (∀ x, hP0_0 x → w17.heap.size ≤ x ∧ x < w18.heap.size) := hF0_0
  have H0_1_18 : Hid (Owns w18 false w17.heap.size (.l lr0_1 1 csr0_1) (.slice ha0_1 lr0_1 hc0_1) hP0_1) := hO0_1
  have HF0_1 : Hid (∀ x, hP0_1 x → w17.heap.size ≤ x ∧ x < w18.heap.size) := hF0_1
  have HD0_00_1 : Hid (∀ x, hP0_0 x → ¬ hP0_1 x) := hD0_00_1
  have BW18 : Hid (Below w.heap.size w w18) := BW17.out.trans (hB.mono BW17.out.size)
  have SZ18 : Hid (w17.heap.size ≤ w18.heap.size) := hB.size
  have BS18 : Hid (Below w4.heap.size w4 w18) := BS17.out.trans (hB.mono BS17.out.size)
  have G0_0_18 : Hid (Owns w18 false w7.heap.size (mkD (1) (.l lr0_0 3 csr0_0)) (.slice ga0_0 lr0_0 gc0_0) gP0_0) := G0_0_17.out.kept hB
  have G0_1_18 : Hid (Owns w18 false w7.heap.size (mkD (1 + (M0_0 : Int)) (.l lr0_1 1 csr0_1)) (.slice ga0_1 lr0_1 gc0_1) gP0_1) := G0_1_17.out.kept hB
  have C0_0_18 : Hid (Owns w18 true w16.heap.size (.l l0_0 3 cs0_0) (.slice (some ⟨Cg0_0, 0, none⟩) l0_0 l0_0) (rng w16.heap.size Cp0_1)) := C0_0_17.out.kept hB
  have C0_1_18 : Hid (Owns w18 true w16.heap.size (.l l0_1 1 cs0_1) (.slice (some ⟨Cg0_1, 0, none⟩) l0_1 l0_1) (rng Cp0_1 w17.heap.size)) := C0_1_17.out.kept hB
  have BXP0_18 : Hid (w18.rowIs (w.heap.size) 33 3 (rowF [.slice a0_0 l0_0 cap0_0, .slice a0_1 l0_1 cap0_1, .bool x0_2])) := BXP0_17.out.of_block (hB.block _ BXP0_17.out.lt)
  have BXS0_18 : Hid (w18.rowIs (w4.heap.size) 25 3 (rowF [.slice sa0_0 lr0_0 sc0_0, .slice sa0_1 lr0_1 sc0_1, .bool xr0_2])) := BXS0_17.out.of_block (hB.block _ BXS0_17.out.lt)
  have BXX0_18 : Hid (w18.rowIs (w6.heap.size) 25 3 (rowF [.slice (some ⟨Xg0_0, 0, none⟩) l0_0 l0_0, .slice (some ⟨Xg0_1, 0, none⟩) l0_1 l0_1, .bool x0_2])) := BXX0_17.out.of_block (hB.block _ BXX0_17.out.lt)
  have BXG0_18 : Hid (w18.rowIs (w8.heap.size) 25 3 (rowF [.slice ga0_0 lr0_0 gc0_0, .slice ga0_1 lr0_1 gc0_1, .bool xr0_2])) := BXG0_17.out.of_block (hB.block _ BXG0_17.out.lt)
  clear hB hO0_0 hF0_0 hO0_1 hF0_1 hD0_00_1
  have blP0 : w.heap.size < w18.heap.size := BXP0_18.out.lt
  have bcP0_0 : w18.cell? ⟨w.heap.size, 0, none⟩ = some (.slice a0_0 l0_0 cap0_0) := BXP0_18.out.cell (i := 0) (by decide)
  have bcP0_1 : w18.cell? ⟨w.heap.size, 1, none⟩ = some (.slice a0_1 l0_1 cap0_1) := BXP0_18.out.cell (i := 1) (by decide)
  have bcP0_2 : w18.cell? ⟨w.heap.size, 2, none⟩ = some (.bool x0_2) := BXP0_18.out.cell (i := 2) (by decide)
  have blS0 : w4.heap.size < w18.heap.size := BXS0_18.out.lt
  have bcS0_0 : w18.cell? ⟨w4.heap.size, 0, none⟩ = some (.slice sa0_0 lr0_0 sc0_0) := BXS0_18.out.cell (i := 0) (by decide)
  have bcS0_1 : w18.cell? ⟨w4.heap.size, 1, none⟩ = some (.slice sa0_1 lr0_1 sc0_1) := BXS0_18.out.cell (i := 1) (by decide)
  have bcS0_2 : w18.cell? ⟨w4.heap.size, 2, none⟩ = some (.bool xr0_2) := BXS0_18.out.cell (i := 2) (by decide)
  have blX0 : w6.heap.size < w18.heap.size := BXX0_18.out.lt
  have bcX0_0 : w18.cell? ⟨w6.heap.size, 0, none⟩ = some (.slice (some ⟨Xg0_0, 0, none⟩) l0_0 l0_0) := BXX0_18.out.cell (i := 0) (by decide)
  have bcX0_1 : w18.cell? ⟨w6.heap.size, 1, none⟩ = some (.slice (some ⟨Xg0_1, 0, none⟩) l0_1 l0_1) := BXX0_18.out.cell (i := 1) (by decide)
  have bcX0_2 : w18.cell? ⟨w6.heap.size, 2, none⟩ = some (.bool x0_2) := BXX0_18.out.cell (i := 2) (by decide)
  have blG0 : w8.heap.size < w18.heap.size := BXG0_18.out.lt
  have bcG0_0 : w18.cell? ⟨w8.heap.size, 0, none⟩ = some (.slice ga0_0 lr0_0 gc0_0) := BXG0_18.out.cell (i := 0) (by decide)
  have bcG0_1 : w18.cell? ⟨w8.heap.size, 1, none⟩ = some (.slice ga0_1 lr0_1 gc0_1) := BXG0_18.out.cell (i := 1) (by decide)
  have bcG0_2 : w18.cell? ⟨w8.heap.size, 2, none⟩ = some (.bool xr0_2) := BXG0_18.out.cell (i := 2) (by decide)
  go_wp2_with fail
  clear blP0 bcP0_0 bcP0_1 bcP0_2 blS0 bcS0_0 bcS0_1 bcS0_2 blX0 bcX0_0 bcX0_1 bcX0_2 blG0 bcG0_0 bcG0_1 bcG0_2
  obtain ⟨w19, EWw19⟩ : ∃ X, X = w18.alloc (.cells #[.slice ha0_0 lr0_0 hc0_0, .slice ha0_1 lr0_1 hc0_1, .bool xr0_2] 25) := ⟨_, rfl⟩
  rw [← EWw19]
  have hB : Below w18.heap.size w18 w19 := by rw [EWw19]; exact (Below.refl _ _).alloc (Nat.le_refl _) _
  have ESw19 : w19.heap.size = w18.heap.size + 1 := by rw [EWw19]; simp
  have BXH0_19 : Hid (w19.rowIs (w18.heap.size) 25 3 (rowF [.slice ha0_0 lr0_0 hc0_0, .slice ha0_1 lr0_1 hc0_1, .bool xr0_2])) := by
    have q := row_of w18 #[.slice ha0_0 lr0_0 hc0_0, .slice ha0_1 lr0_1 hc0_1, .bool xr0_2] 25
    rw [EWw19]; exact q
  have LTH0 : Hid (w18.heap.size < w19.heap.size) := BXH0_19.out.lt
  have ADH0 : Hid (w18.heap.size = w18.heap.size) := by show _ = _; rfl
  have BW19 : Hid (Below w.heap.size w w19) := BW18.out.trans (hB.mono BW18.out.size)
  have SZ19 : Hid (w18.heap.size ≤ w19.heap.size) := hB.size
  have BS19 : Hid (Below w4.heap.size w4 w19) := BS18.out.trans (hB.mono BS18.out.size)
  have G0_0_19 : Hid (Owns w19 false w7.heap.size (mkD (1) (.l lr0_0 3 csr0_0)) (.slice ga0_0 lr0_0 gc0_0) gP0_0) := G0_0_18.out.kept hB
  have G0_1_19 : Hid (Owns w19 false w7.heap.size (mkD (1 + (M0_0 : Int)) (.l lr0_1 1 csr0_1)) (.slice ga0_1 lr0_1 gc0_1) gP0_1) := G0_1_18.out.kept hB
  have H0_0_19 : Hid (Owns w19 false w17.heap.size (.l lr0_0 3 csr0_0) (.slice ha0_0 lr0_0 hc0_0) hP0_0) := H0_0_18.out.kept hB
  have H0_1_19 : Hid (Owns w19 false w17.heap.size (.l lr0_1 1 csr0_1) (.slice ha0_1 lr0_1 hc0_1) hP0_1) := H0_1_18.out.kept hB
  have BXP0_19 : Hid (w19.rowIs (w.heap.size) 33 3 (rowF [.slice a0_0 l0_0 cap0_0, .slice a0_1 l0_1 cap0_1, .bool x0_2])) := BXP0_18.out.of_block (hB.block _ BXP0_18.out.lt)
  have BXS0_19 : Hid (w19.rowIs (w4.heap.size) 25 3 (rowF [.slice sa0_0 lr0_0 sc0_0, .slice sa0_1 lr0_1 sc0_1, .bool xr0_2])) := BXS0_18.out.of_block (hB.block _ BXS0_18.out.lt)
  have BXX0_19 : Hid (w19.rowIs (w6.heap.size) 25 3 (rowF [.slice (some ⟨Xg0_0, 0, none⟩) l0_0 l0_0, .slice (some ⟨Xg0_1, 0, none⟩) l0_1 l0_1, .bool x0_2])) := BXX0_18.out.of_block (hB.block _ BXX0_18.out.lt)
  have BXG0_19 : Hid (w19.rowIs (w8.heap.size) 25 3 (rowF [.slice ga0_0 lr0_0 gc0_0, .slice ga0_1 lr0_1 gc0_1, .bool xr0_2])) := BXG0_18.out.of_block (hB.block _ BXG0_18.out.lt)
  clear hB EWw19
  clear ESw19
  refine (Marker_eq _ _ _ csr0_0 _ _ _ csr0_1 xr0_2 _ _ _ _ _ _ _ hfr0_0 hsr0_0 H0_0_19.out.holds hfr0_1 hsr0_1 H0_1_19.out.holds (S0_0.out.kept BS19.out) (S0_1.out.kept BS19.out)).mono ?_
  rintro e w20 ⟨rfl, hB⟩
  have BW20 : Hid (Below w.heap.size w w20) := BW19.out.trans (hB.mono BW19.out.size)
  have SZ20 : Hid (w19.heap.size ≤ w20.heap.size) := hB.size
  have BS20 : Hid (Below w4.heap.size w4 w20) := BS19.out.trans (hB.mono BS19.out.size)
  have G0_0_20 : Hid (Owns w20 false w7.heap.size (mkD (1) (.l lr0_0 3 csr0_0)) (.slice ga0_0 lr0_0 gc0_0) gP0_0) := G0_0_19.out.kept hB
  have G0_1_20 : Hid (Owns w20 false w7.heap.size (mkD (1 + (M0_0 : Int)) (.l lr0_1 1 csr0_1)) (.slice ga0_1 lr0_1 gc0_1) gP0_1) := G0_1_19.out.kept hB
  have H0_0_20 : Hid (Owns w20 false w17.heap.size (.l lr0_0 3 csr0_0) (.slice ha0_0 lr0_0 hc0_0) hP0_0) := H0_0_19.out.kept hB
  have H0_1_20 : Hid (Owns w20 false w17.heap.size (.l lr0_1 1 csr0_1) (.slice ha0_1 lr0_1 hc0_1) hP0_1) := H0_1_19.out.kept hB
  have BXP0_20 : Hid (w20.rowIs (w.heap.size) 33 3 (rowF [.slice a0_0 l0_0 cap0_0, .slice a0_1 l0_1 cap0_1, .bool x0_2])) := BXP0_19.out.of_block (hB.block _ BXP0_19.out.lt)
  have BXS0_20 : Hid (w20.rowIs (w4.heap.size) 25 3 (rowF [.slice sa0_0 lr0_0 sc0_0, .slice sa0_1 lr0_1 sc0_1, .bool xr0_2])) := BXS0_19.out.of_block (hB.block _ BXS0_19.out.lt)
  have BXX0_20 : Hid (w20.rowIs (w6.heap.size) 25 3 (rowF [.slice (some ⟨Xg0_0, 0, none⟩) l0_0 l0_0, .slice (some ⟨Xg0_1, 0, none⟩) l0_1 l0_1, .bool x0_2])) := BXX0_19.out.of_block (hB.block _ BXX0_19.out.lt)
  have BXG0_20 : Hid (w20.rowIs (w8.heap.size) 25 3 (rowF [.slice ga0_0 lr0_0 gc0_0, .slice ga0_1 lr0_1 gc0_1, .bool xr0_2])) := BXG0_19.out.of_block (hB.block _ BXG0_19.out.lt)
  have BXH0_20 : Hid (w20.rowIs (w18.heap.size) 25 3 (rowF [.slice ha0_0 lr0_0 hc0_0, .slice ha0_1 lr0_1 hc0_1, .bool xr0_2])) := BXH0_19.out.of_block (hB.block _ BXH0_19.out.lt)
  clear hB
  have blP0 : w.heap.size < w20.heap.size := BXP0_20.out.lt
  have bcP0_0 : w20.cell? ⟨w.heap.size, 0, none⟩ = some (.slice a0_0 l0_0 cap0_0) := BXP0_20.out.cell (i := 0) (by decide)
  have bcP0_1 : w20.cell? ⟨w.heap.size, 1, none⟩ = some (.slice a0_1 l0_1 cap0_1) := BXP0_20.out.cell (i := 1) (by decide)
  have bcP0_2 : w20.cell? ⟨w.heap.size, 2, none⟩ = some (.bool x0_2) := BXP0_20.out.cell (i := 2) (by decide)
  have blS0 : w4.heap.size < w20.heap.size := BXS0_20.out.lt
  have bcS0_0 : w20.cell? ⟨w4.heap.size, 0, none⟩ = some (.slice sa0_0 lr0_0 sc0_0) := BXS0_20.out.cell (i := 0) (by decide)
  have bcS0_1 : w20.cell? ⟨w4.heap.size, 1, none⟩ = some (.slice sa0_1 lr0_1 sc0_1) := BXS0_20.out.cell (i := 1) (by decide)
  have bcS0_2 : w20.cell? ⟨w4.heap.size, 2, none⟩ = some (.bool xr0_2) := BXS0_20.out.cell (i := 2) (by decide)
  have blX0 : w6.heap.size < w20.heap.size := BXX0_20.out.lt
  have bcX0_0 : w20.cell? ⟨w6.heap.size, 0, none⟩ = some (.slice (some ⟨Xg0_0, 0, none⟩) l0_0 l0_0) := BXX0_20.out.cell (i := 0) (by decide)
  have bcX0_1 : w20.cell? ⟨w6.heap.size, 1, none⟩ = some (.slice (some ⟨Xg0_1, 0, none⟩) l0_1 l0_1) := BXX0_20.out.cell (i := 1) (by decide)
  have bcX0_2 : w20.cell? ⟨w6.heap.size, 2, none⟩ = some (.bool x0_2) := BXX0_20.out.cell (i := 2) (by decide)
  have blG0 : w8.heap.size < w20.heap.size := BXG0_20.out.lt
  have bcG0_0 : w20.cell? ⟨w8.heap.size, 0, none⟩ = some (.slice ga0_0 lr0_0 gc0_0) := BXG0_20.out.cell (i := 0) (by decide)
  have bcG0_1 : w20.cell? ⟨w8.heap.size, 1, none⟩ = some (.slice ga0_1 lr0_1 gc0_1) := BXG0_20.out.cell (i := 1) (by decide)
  have bcG0_2 : w20.cell? ⟨w8.heap.size, 2, none⟩ = some (.bool xr0_2) := BXG0_20.out.cell (i := 2) (by decide)
  have blH0 : w18.heap.size < w20.heap.size := BXH0_20.out.lt
  have bcH0_0 : w20.cell? ⟨w18.heap.size, 0, none⟩ = some (.slice ha0_0 lr0_0 hc0_0) := BXH0_20.out.cell (i := 0) (by decide)
  have bcH0_1 : w20.cell? ⟨w18.heap.size, 1, none⟩ = some (.slice ha0_1 lr0_1 hc0_1) := BXH0_20.out.cell (i := 1) (by decide)
  have bcH0_2 : w20.cell? ⟨w18.heap.size, 2, none⟩ = some (.bool xr0_2) := BXH0_20.out.cell (i := 2) (by decide)
  go_wp2_with fail
  clear blP0 bcP0_0 bcP0_1 bcP0_2 blS0 bcS0_0 bcS0_1 bcS0_2 blX0 bcX0_0 bcX0_1 bcX0_2 blG0 bcG0_0 bcG0_1 bcG0_2 blH0 bcH0_0 bcH0_1 bcH0_2
  refine (Marker_held (1) (by omega) _ _ _ csr0_0 _ _ _ csr0_1 xr0_2 false _ hfr0_0 hsr0_0 hfr0_1 hsr0_1 (by rw [HM0_0.out, HM0_1.out]; omega) G0_0_20.out.holds (by rw [HM0_0.out]; exact G0_1_20.out.holds)).mono ?_
  rw [HM0_0.out, HM0_1.out]
  rintro e w21 ⟨rfl, hB⟩
  have BW21 : Hid (Below w.heap.size w w21) := BW20.out.trans (hB.mono BW20.out.size)
  have SZ21 : Hid (w20.heap.size ≤ w21.heap.size) := hB.size
  have BS21 : Hid (Below w4.heap.size w4 w21) := BS20.out.trans (hB.mono BS20.out.size)
  have G0_0_21 : Hid (Owns w21 false w7.heap.size (mkD (1) (.l lr0_0 3 csr0_0)) (.slice ga0_0 lr0_0 gc0_0) gP0_0) := G0_0_20.out.kept hB
  have G0_1_21 : Hid (Owns w21 false w7.heap.size (mkD (1 + (M0_0 : Int)) (.l lr0_1 1 csr0_1)) (.slice ga0_1 lr0_1 gc0_1) gP0_1) := G0_1_20.out.kept hB
  have H0_0_21 : Hid (Owns w21 false w17.heap.size (.l lr0_0 3 csr0_0) (.slice ha0_0 lr0_0 hc0_0) hP0_0) := H0_0_20.out.kept hB
  have H0_1_21 : Hid (Owns w21 false w17.heap.size (.l lr0_1 1 csr0_1) (.slice ha0_1 lr0_1 hc0_1) hP0_1) := H0_1_20.out.kept hB
  have BXP0_21 : Hid (w21.rowIs (w.heap.size) 33 3 (rowF [.slice a0_0 l0_0 cap0_0, .slice a0_1 l0_1 cap0_1, .bool x0_2])) := BXP0_20.out.of_block (hB.block _ BXP0_20.out.lt)
  have BXS0_21 : Hid (w21.rowIs (w4.heap.size) 25 3 (rowF [.slice sa0_0 lr0_0 sc0_0, .slice sa0_1 lr0_1 sc0_1, .bool xr0_2])) := BXS0_20.out.of_block (hB.block _ BXS0_20.out.lt)
  have BXX0_21 : Hid (w21.rowIs (w6.heap.size) 25 3 (rowF [.slice (some ⟨Xg0_0, 0, none⟩) l0_0 l0_0, .slice (some ⟨Xg0_1, 0, none⟩) l0_1 l0_1, .bool x0_2])) := BXX0_20.out.of_block (hB.block _ BXX0_20.out.lt)
  have BXG0_21 : Hid (w21.rowIs (w8.heap.size) 25 3 (rowF [.slice ga0_0 lr0_0 gc0_0, .slice ga0_1 lr0_1 gc0_1, .bool xr0_2])) := BXG0_20.out.of_block (hB.block _ BXG0_20.out.lt)
  have BXH0_21 : Hid (w21.rowIs (w18.heap.size) 25 3 (rowF [.slice ha0_0 lr0_0 hc0_0, .slice ha0_1 lr0_1 hc0_1, .bool xr0_2])) := BXH0_20.out.of_block (hB.block _ BXH0_20.out.lt)
  clear hB
  have hq21_0 : (0 : Int) ≤ 1 + (M0_0 : Int) + (M0_1 : Int) := by omega
  go_wp2
  go_ret
  exact ⟨rfl, BW21.out⟩
theorem walk (a0_0 : Option Addr) (l0_0 cap0_0 : Nat) (cs0_0 : Nat → Dv) (a0_1 : Option Addr) (l0_1 cap0_1 : Nat) (cs0_1 : Nat → Dv) (x0_2 : Bool) (w : World) (h0_0 : Holds w false (.l l0_0 3 cs0_0) (.slice a0_0 l0_0 cap0_0)) (f0_0 : Fits shCellS (.l l0_0 3 cs0_0)) (n0_0 : Lens (.l l0_0 3 cs0_0)) (h0_1 : Holds w false (.l l0_1 1 cs0_1) (.slice a0_1 l0_1 cap0_1)) (f0_1 : Fits shI (.l l0_1 1 cs0_1)) (n0_1 : Lens (.l l0_1 1 cs0_1)) :
    Calls Try.prog 8 #[.agg #[.slice a0_0 l0_0 cap0_0, .slice a0_1 l0_1 cap0_1, .bool x0_2]] w fun e w' => e = .returned (.bool true) ∧ Below w.heap.size w w' := by
  cases hb0 : markB cs0_0 l0_0 (intsOf cs0_1 (l0_1 * 1)) x0_2
  · refine walk_of a0_0 cap0_0 a0_1 cap0_1 l0_0 cs0_0 l0_1 cs0_1 x0_2 0 (cellD newS) 0 (rootD newS) false 0 false w f0_0 n0_0 h0_0 f0_1 n0_1 h0_1 (cell_fits newS 0) (cell_size newS (by decide)) (root_fits newS 0) (by show szD _ ≤ 100000; decide) (fun hs hs1 => ?_) (fun hs hs1 => ?_)
    · intro W a cap b bcap hh hb
      have HZ1 : Hid ((intsOf cs0_1 (l0_1 * 1)).length = l0_1) := by show _ = _; rw [intsOf_len]; omega
      have h1 : l0_1 ≤ 1048576 := Nat.le_trans (Nat.le_add_right _ _) hs1
      refine (spec_finishmark a l0_0 cap b l0_1 bcap x0_2 cs0_0 (intsOf cs0_1 (l0_1 * 1)) true W f0_0 hs hh HZ1 h1 (holds_ints hb (fits_I f0_1))).mono (fun e W' q => ?_)
      rcases q with ⟨_, rfl, bb⟩ | ⟨h1, _⟩
      · exact ⟨none, 0, none, 0, rfl, ⟨none, 0, rfl, (fun q => by cases q), Or.inl (by decide)⟩, ⟨none, 0, rfl, (fun q => by cases q), Or.inl (by decide)⟩, bb⟩
      · rw [hb0] at h1; cases h1
    · intro W a cap b bcap hh hb
      have HZ1 : Hid ((intsOf cs0_1 (l0_1 * 1)).length = l0_1) := by show _ = _; rw [intsOf_len]; omega
      have h1 : l0_1 ≤ 1048576 := Nat.le_trans (Nat.le_add_right _ _) hs1
      refine (impl_finishmark a l0_0 cap b l0_1 bcap x0_2 cs0_0 (intsOf cs0_1 (l0_1 * 1)) true W f0_0 hs hh HZ1 h1 (holds_ints hb (fits_I f0_1))).mono (fun e W' q => ?_)
      rcases q with ⟨_, rfl, bb⟩ | ⟨h1, _⟩
      · exact ⟨none, 0, none, 0, fun _ => False, fun _ => False, rfl, ⟨none, 0, rfl, (fun q => by cases q), Or.inl (by decide)⟩, (fun x q => q.elim), ⟨none, 0, rfl, (fun q => by cases q), Or.inl (by decide)⟩, (fun x q => q.elim), (fun x q => q.elim), bb⟩
      · rw [hb0] at h1; cases h1
  · have hok := mark_out hb0
    have hn10 : l0_0 ≤ 10 := hok.2.2.1.2
    refine walk_of a0_0 cap0_0 a0_1 cap0_1 l0_0 cs0_0 l0_1 cs0_1 x0_2 l0_0 (cellD (sweepS (finishS (stM cs0_0 (intsOf cs0_1 (l0_1 * 1)) x0_2) l0_0).1 l0_0)) 2 (rootD (sweepS (finishS (stM cs0_0 (intsOf cs0_1 (l0_1 * 1)) x0_2) l0_0).1 l0_0)) false ((finishS (stM cs0_0 (intsOf cs0_1 (l0_1 * 1)) x0_2) l0_0).2 : Int) true w f0_0 n0_0 h0_0 f0_1 n0_1 h0_1 (cell_fits _ _) (cell_size _ hn10) (root_fits _ 2) (root_size _) (fun hs hs1 => ?_) (fun hs hs1 => ?_)
    · intro W a cap b bcap hh hb
      have HZ1 : Hid ((intsOf cs0_1 (l0_1 * 1)).length = l0_1) := by show _ = _; rw [intsOf_len]; omega
      have h1 : l0_1 ≤ 1048576 := Nat.le_trans (Nat.le_add_right _ _) hs1
      refine (spec_finishmark a l0_0 cap b l0_1 bcap x0_2 cs0_0 (intsOf cs0_1 (l0_1 * 1)) true W f0_0 hs hh HZ1 h1 (holds_ints hb (fits_I f0_1))).mono (fun e W' q => ?_)
      rcases q with ⟨h1, _⟩ | ⟨_, v, rfl, g0, d0, g1, d1, F0, F1, rfl, o0, l0, o1, l1, dd, bb⟩
      · rw [hb0] at h1; cases h1
      · exact ⟨g0, d0, g1, d1, rfl, o0.holds, o1.holds, bb⟩
    · intro W a cap b bcap hh hb
      have HZ1 : Hid ((intsOf cs0_1 (l0_1 * 1)).length = l0_1) := by show _ = _; rw [intsOf_len]; omega
      have h1 : l0_1 ≤ 1048576 := Nat.le_trans (Nat.le_add_right _ _) hs1
      refine (impl_finishmark a l0_0 cap b l0_1 bcap x0_2 cs0_0 (intsOf cs0_1 (l0_1 * 1)) true W f0_0 hs hh HZ1 h1 (holds_ints hb (fits_I f0_1))).mono (fun e W' q => ?_)
      rcases q with ⟨h1, _⟩ | ⟨_, v, rfl, g0, d0, g1, d1, F0, F1, rfl, o0, l0, o1, l1, dd, bb⟩
      · rw [hb0] at h1; cases h1
      · exact ⟨g0, d0, g1, d1, F0, F1, rfl, o0, l0, o1, l1, dd, bb⟩

theorem arr_of3 {c : Array Value} (h : c.size = 3) : ∃ q0 q1 q2, c = #[q0, q1, q2] := by
  rcases c with ⟨l⟩
  match l, h with
  | [q0, q1, q2], _ => exact ⟨q0, q1, q2, rfl⟩
set_option maxRecDepth 100000 in
set_option maxHeartbeats 4000000 in
theorem lifted (os : Os) (started : os.Started) (H : Type) (enc : TypeId × Value → H) :
    ReturnsInHanded {} Try.checked os 8 .any (Rows.fnExactFinishMarkSpec.pre6 enc Try.prog Try.f8 Rows.fnExactFinishMarkRow.domain false) (Rows.fnExactFinishMarkSpec.post enc Try.prog Try.f8 false true false false) := by
  refine returnsInHanded_of_change_sized (C := Try.checked) own started (by kernel_rfl) Try.func8
    (ChangeSpec.witness6 (enc := enc) (C := Try.checked) false ⟨#[], #[.agg #[.slice none 0 0, .slice none 0 0, .bool false]], []⟩ 8 (by kernel_rfl) (by kernel_rfl) (by kernel_rfl) (by kernel_rfl)) ?_
  intro W base args ds gs before hval0 hW hcnd hsz0 _
  have hval : ∀ (j : Nat) t v, Try.f8.params[j]? = some t → args[j]? = some v → Value.okWide Try.prog W .any base t v := hval0
  have hW' := hW
  obtain ⟨p, q, hA0, hV, rfl, hfz, hnd⟩ := hW
  have hsz : (DataW.weightsEach Try.prog (Try.f8.params.toList ++ Rows.fnExactFinishMarkSpec.plain.varTypes Try.prog) (ds ++ gs)).all (· ≤ reachBytes) = true := hsz0
  have hA : DataW.TrodAll enc Try.prog W 0 (fun _ => true) true Try.f8.params.toList args.toList ds p := hA0
  rw [Try.params8] at hA hval hsz
  obtain ⟨v0, vs0, d0, ds0, p0, q0, hargs, rfl, rfl, h0, r0⟩ := trodAll_cons hA
  obtain ⟨rfl, rfl, rfl⟩ := trodAll_nil r0
  obtain rfl : args = #[v0] := by cases args; simp_all
  obtain ⟨rfl, rfl⟩ := trodVars_none hV
  have k0 := h0
  have lt0 : ∀ x ∈ p0, x.block < W.heap.size := by obtain ⟨m, hm⟩ := k0; exact DataW.trod_lt m _ _ _ hm
  obtain ⟨arr0, rfl, hsz0, hrow0⟩ := open_row (n := 3) (e := fun i => match i with | 0 => shCellS | 1 => shI | _ => .t) Try.underlying33 (show Try.prog.cellsOf 33 = 3 by kernel_rfl) rfl (fun i f h => by
    match i, h with
    | 0, h => obtain rfl := Option.some.inj h; exact ⟨rfl, (show Try.prog.cellsOf 31 = 1 by kernel_rfl), ⟨82, Try.underlying31, (show Try.prog.cellsOf 82 = 3 by kernel_rfl), by decide, Or.inr ⟨_, Try.underlying82, rfl, (fun i f h => by
    match i, h with
    | 0, h => obtain rfl := Option.some.inj h; exact ⟨rfl, (show Try.prog.cellsOf 23 = 1 by kernel_rfl), ⟨3, Try.underlying23, (show Try.prog.cellsOf 3 = 1 by kernel_rfl), by decide, Or.inl ⟨rfl, Try.underlying3⟩⟩⟩
    | 1, h => obtain rfl := Option.some.inj h; exact ⟨rfl, (show Try.prog.cellsOf 3 = 1 by kernel_rfl), Try.underlying3⟩
    | 2, h => obtain rfl := Option.some.inj h; exact ⟨rfl, (show Try.prog.cellsOf 4 = 1 by kernel_rfl), Try.underlying4⟩
    | i + 3, h => simp at h)⟩⟩⟩
    | 1, h => obtain rfl := Option.some.inj h; exact ⟨rfl, (show Try.prog.cellsOf 23 = 1 by kernel_rfl), ⟨3, Try.underlying23, (show Try.prog.cellsOf 3 = 1 by kernel_rfl), by decide, Or.inl ⟨rfl, Try.underlying3⟩⟩⟩
    | 2, h => obtain rfl := Option.some.inj h; exact ⟨rfl, (show Try.prog.cellsOf 4 = 1 by kernel_rfl), Try.underlying4⟩
    | i + 3, h => simp at h) (hval 0 33 v0 rfl rfl) h0
  obtain ⟨c0_0, c0_1, c0_2, rfl⟩ := arr_of3 hsz0
  obtain ⟨d0_0, u0_0, e0_0, hh0_0, ff0_0, ll0_0⟩ := hrow0 0 (by decide)
  obtain rfl : c0_0 = u0_0 := Option.some.inj e0_0
  obtain ⟨l0_0, cs0_0, rfl, _⟩ := Fits.list ff0_0
  obtain ⟨a0_0, cap0_0, rfl, _⟩ := hh0_0.slice
  have w0_0 := hh0_0
  have f0_0 := ff0_0
  have n0_0 := ll0_0
  obtain ⟨d0_1, u0_1, e0_1, hh0_1, ff0_1, ll0_1⟩ := hrow0 1 (by decide)
  obtain rfl : c0_1 = u0_1 := Option.some.inj e0_1
  obtain ⟨l0_1, cs0_1, rfl, _⟩ := Fits.list ff0_1
  obtain ⟨a0_1, cap0_1, rfl, _⟩ := hh0_1.slice
  have w0_1 := hh0_1
  have f0_1 := ff0_1
  have n0_1 := ll0_1
  obtain ⟨d0_2, u0_2, e0_2, hh0_2, ff0_2, ll0_2⟩ := hrow0 2 (by decide)
  obtain rfl : c0_2 = u0_2 := Option.some.inj e0_2
  obtain ⟨x0_2, rfl⟩ := Fits.bool ff0_2
  obtain rfl := (show c0_2 = .bool x0_2 from hh0_2)
  clear hA0 hval0
  refine (walk a0_0 l0_0 cap0_0 cs0_0 a0_1 l0_1 cap0_1 cs0_1 x0_2 W w0_0 f0_0 n0_0 w0_1 f0_1 n0_1).mono fun e W' ⟨he, bel⟩ => ?_
  subst he
  exact ⟨_, rfl, _, _, _, [], _, [], hW', trodAll_mk1 (shut_bool Try.underlying4 _), (trodAll_cons_mk (Below.trod laidOut (by kernel_rfl) (of_decide_eq_true (by kernel_rfl)) k0 bel lt0) trodAll_mk0), rfl, bel.frame _, fun h => by cases h⟩

theorem over : Rows.fnExactFinishMarkRow.holds Try.pinned (OpenSpec.ofChange Rows.fnExactFinishMarkSpec) :=
  OpenClaim.holds_of_wide 8 Try.f8 rfl rfl rfl rfl rfl rfl rfl ⟨rfl, rfl, rfl, rfl, rfl⟩ rfl rfl rfl rfl rfl (by kernel_rfl) Try.func8 (by kernel_rfl)
    (of_decide_eq_true (by kernel_rfl)) (by unfold Func.isWrapper; first | (rw [if_pos (by decide +kernel)]; kernel_rfl) | (rw [if_neg (by decide +kernel)]; exact ⟨rfl, rfl⟩))
    (fun os started H enc _ => lifted os started H enc)

theorem proved : Rows.FnExactFinishMarkSaid :=
  over
#print axioms proved
end Go.Proofs.Ytokaibpkajloeaa.fnExactFinishMark
