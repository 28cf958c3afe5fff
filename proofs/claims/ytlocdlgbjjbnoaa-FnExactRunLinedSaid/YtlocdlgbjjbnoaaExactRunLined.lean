/-
  At every argument RunLined answers as the specification, field by field; it writes into no argument and keeps nothing of one; its answer owns its memory, behind another call too.
-/
import Derived.Test.YtlocdlgbjjbnoaaRows
import Derived.WalkKit
import Derived.ProofKit
import Derived.OpenShut
import Derived.ShutString
import Derived.ChangeOld
import Derived.Below
import Derived.Carry
import Derived.Deep.RegionHeld3
import Derived.SizedLaws
import Derived.Test.YtlocdlgbjjbnoaaMagMath
import Derived.Test.YtlocdlgbjjbnoaaInts
import Derived.Test.YtlocdlgbjjbnoaaOwnInts
import Derived.Test.YtlocdlgbjjbnoaaDeep
import Derived.Test.YtlocdlgbjjbnoaaDeepOpen
import Derived.Test.YtlocdlgbjjbnoaaDeepRow
import Derived.Test.YtlocdlgbjjbnoaaOwnMath
import Derived.Test.YtlocdlgbjjbnoaaDeepL
import Derived.Test.YtlocdlgbjjbnoaaLineData
import Derived.Test.YtlocdlgbjjbnoaaLineMath
import Derived.Test.YtlocdlgbjjbnoaaLineStep
import Derived.Test.YtlocdlgbjjbnoaaLineGd
import Derived.Test.YtlocdlgbjjbnoaaLineGood
import Derived.Test.YtlocdlgbjjbnoaaLineGuard
import Derived.Test.YtlocdlgbjjbnoaaRunLMath16
import Derived.Test.YtlocdlgbjjbnoaaRunLSpec16
import Derived.Test.YtlocdlgbjjbnoaaRunLImpl16
import Derived.Test.YtlocdlgbjjbnoaaRunLDo16
import Derived.Test.YtlocdlgbjjbnoaaRunLRun16
import Derived.Test.YtlocdlgbjjbnoaaRunLTop16
namespace Go.Proofs.Ytlocdlgbjjbnoaa.fnExactRunLined
open Go.ChangeShapes Go.WideShapes Go.ChangeAt Go.RowKit
open Go.ChangeMaps (open_string shut_string)
open Go.Proofs.Ytlocdlgbjjbnoaa.math
open Go.Proofs.Ytlocdlgbjjbnoaa.ints
open Go.Proofs.Ytlocdlgbjjbnoaa.deep
open Go.Proofs.Ytlocdlgbjjbnoaa.walks
open Go.Proofs.Ytlocdlgbjjbnoaa.deep
set_option linter.unusedVariables false

theorem own : ownKnob Try.prog.godebug = none := by kernel_rfl
theorem laidOut : laidOutB Try.prog = true := by kernel_rfl

def SpecTells (l0_0 : Nat) (cs0_0 : Nat → Dv) (l0_1 : Nat) (cs0_1 : Nat → Dv) (x1 : Int) (lr0 : Nat) (csr0 : Nat → Dv) (xr1 : Int) (xr2 : Int) (xr3 : Bool) : Prop := ∀ (W : World) (a0_0 : Option Addr) (cap0_0 : Nat) (a0_1 : Option Addr) (cap0_1 : Nat), Holds W true (.l l0_0 3 cs0_0) (.slice a0_0 l0_0 cap0_0) → Holds W true (.l l0_1 4 cs0_1) (.slice a0_1 l0_1 cap0_1) → Calls Try.prog 21 #[.agg #[.slice a0_0 l0_0 cap0_0, .slice a0_1 l0_1 cap0_1], .int .i64 x1] W fun e W' => ∃ g0 d0, e = .returned (.tuple #[.slice g0 lr0 d0, .int .i64 xr1, .int .i64 xr2, .bool xr3]) ∧ Holds W' false (.l lr0 1 csr0) (.slice g0 lr0 d0) ∧ Below W.heap.size W W'
def ImplTells (l0_0 : Nat) (cs0_0 : Nat → Dv) (l0_1 : Nat) (cs0_1 : Nat → Dv) (x1 : Int) (lr0 : Nat) (csr0 : Nat → Dv) (xr1 : Int) (xr2 : Int) (xr3 : Bool) : Prop := ∀ (W : World) (a0_0 : Option Addr) (cap0_0 : Nat) (a0_1 : Option Addr) (cap0_1 : Nat), Holds W true (.l l0_0 3 cs0_0) (.slice a0_0 l0_0 cap0_0) → Holds W true (.l l0_1 4 cs0_1) (.slice a0_1 l0_1 cap0_1) → Calls Try.prog 23 #[.agg #[.slice a0_0 l0_0 cap0_0, .slice a0_1 l0_1 cap0_1], .int .i64 x1] W fun e W' => ∃ (g0 : Option Addr) (d0 : Nat) (F0 : Nat → Prop), e = .returned (.tuple #[.slice g0 lr0 d0, .int .i64 xr1, .int .i64 xr2, .bool xr3]) ∧ Owns W' false W.heap.size (.l lr0 1 csr0) (.slice g0 lr0 d0) F0 ∧ (∀ x, F0 x → W.heap.size ≤ x ∧ x < W'.heap.size) ∧ Below W.heap.size W W'
set_option maxHeartbeats 16000000 in
set_option maxRecDepth 100000 in
theorem walk_of (a0_0 : Option Addr) (cap0_0 : Nat) (a0_1 : Option Addr) (cap0_1 : Nat) (l0_0 : Nat) (cs0_0 : Nat → Dv) (l0_1 : Nat) (cs0_1 : Nat → Dv) (x1 : Int) (lr0 : Nat) (csr0 : Nat → Dv) (xr1 : Int) (xr2 : Int) (xr3 : Bool) (w : World) (hf0_0 : Hid (Fits shLStepS (.l l0_0 3 cs0_0))) (hn0_0 : Hid (Lens (.l l0_0 3 cs0_0))) (h0_0 : Hid (Holds w false (.l l0_0 3 cs0_0) (.slice a0_0 l0_0 cap0_0))) (hf0_1 : Hid (Fits shGuardS (.l l0_1 4 cs0_1))) (hn0_1 : Hid (Lens (.l l0_1 4 cs0_1))) (h0_1 : Hid (Holds w false (.l l0_1 4 cs0_1) (.slice a0_1 l0_1 cap0_1))) (hfr0 : Hid (Fits shI (.l lr0 1 csr0))) (hsx0 : Hid (szD (.l lr0 1 csr0) ≤ 100000)) (Hs : Hid (szD (.l l0_0 3 cs0_0) ≤ 1048576 → szD (.l l0_1 4 cs0_1) ≤ 1048576 → SpecTells l0_0 cs0_0 l0_1 cs0_1 x1 lr0 csr0 xr1 xr2 xr3)) (Hi : Hid (szD (.l l0_0 3 cs0_0) ≤ 1048576 → szD (.l l0_1 4 cs0_1) ≤ 1048576 → ImplTells l0_0 cs0_0 l0_1 cs0_1 x1 lr0 csr0 xr1 xr2 xr3)) :
    Calls Try.prog 5 #[.agg #[.slice a0_0 l0_0 cap0_0, .slice a0_1 l0_1 cap0_1], .int .i64 x1] w fun e w' => e = .returned (.bool true) ∧ Below w.heap.size w w' := by
  have hsr0 : Hid (szD (.l lr0 1 csr0) ≤ 1048576) := Nat.le_trans hsx0.out (by decide)
  have pe1 : (xr1 != xr1) = false := by simp
  have pe2 : (xr2 != xr2) = false := by simp
  have pe3 : (xr3 != xr3) = false := by cases xr3 <;> rfl
  go_enter Try.func5, Try.ntmps5
  obtain ⟨z0_0, HZ0_0⟩ : ∃ z, Hid (szD (.l l0_0 3 cs0_0) = z) := ⟨_, rfl⟩
  obtain ⟨z0_1, HZ0_1⟩ : ∃ z, Hid (szD (.l l0_1 4 cs0_1) = z) := ⟨_, rfl⟩
  go_wp2_with fail
  obtain ⟨w1, EWw1⟩ : ∃ X, X = w.alloc (.cells #[.slice a0_0 l0_0 cap0_0, .slice a0_1 l0_1 cap0_1] 45) := ⟨_, rfl⟩
  rw [← EWw1]
  have hB : Below w.heap.size w w1 := by rw [EWw1]; exact (Below.refl _ _).alloc (Nat.le_refl _) _
  have ESw1 : w1.heap.size = w.heap.size + 1 := by rw [EWw1]; simp
  have BXP0_1 : Hid (w1.rowIs (w.heap.size) 45 2 (rowF [.slice a0_0 l0_0 cap0_0, .slice a0_1 l0_1 cap0_1])) := by
    have q := row_of w #[.slice a0_0 l0_0 cap0_0, .slice a0_1 l0_1 cap0_1] 45
    rw [EWw1]; exact q
  have LTP0 : Hid (w.heap.size < w1.heap.size) := BXP0_1.out.lt
  have ADP0 : Hid (w.heap.size = w.heap.size) := by show _ = _; rfl
  have BW1 : Hid (Below w.heap.size w w1) := hB
  have SZ1 : Hid (w.heap.size ≤ w1.heap.size) := hB.size
  clear hB EWw1
  clear ESw1
  refine (Lined_size _ _ _ cs0_0 _ _ _ cs0_1 (1048576) false _ hf0_0 hn0_0 (h0_0.out.kept BW1.out) hf0_1 hn0_1 (h0_1.out.kept BW1.out) (by omega) (by omega)).mono ?_
  rw [HZ0_0.out, HZ0_1.out]
  rintro e w2 ⟨rfl, hB⟩
  have BW2 : Hid (Below w.heap.size w w2) := BW1.out.trans (hB.mono BW1.out.size)
  have SZ2 : Hid (w1.heap.size ≤ w2.heap.size) := hB.size
  have BXP0_2 : Hid (w2.rowIs (w.heap.size) 45 2 (rowF [.slice a0_0 l0_0 cap0_0, .slice a0_1 l0_1 cap0_1])) := BXP0_1.out.of_block (hB.block _ BXP0_1.out.lt)
  clear hB
  by_cases ok0 : (z0_0 : Int) + (z0_1 : Int) ≤ 1048576
  rotate_left
  · rw [if_neg ok0]
    go_wp2
    go_ret
    exact ⟨rfl, BW2.out⟩
  rw [if_pos ok0]
  have left0 : 0 ≤ 1048576 - ((z0_0 : Int) + (z0_1 : Int)) := by omega
  have hs0_0 : Hid (szD (.l l0_0 3 cs0_0) ≤ 1048576) := by show _ ≤ _; rw [HZ0_0.out]; omega
  have hs0_1 : Hid (szD (.l l0_1 4 cs0_1) ≤ 1048576) := by show _ ≤ _; rw [HZ0_1.out]; omega
  have HS : Hid (SpecTells l0_0 cs0_0 l0_1 cs0_1 x1 lr0 csr0 xr1 xr2 xr3) := Hs.out hs0_0.out hs0_1.out
  have HI : Hid (ImplTells l0_0 cs0_0 l0_1 cs0_1 x1 lr0 csr0 xr1 xr2 xr3) := Hi.out hs0_0.out hs0_1.out
  clear Hs Hi
  have blP0 : w.heap.size < w2.heap.size := BXP0_2.out.lt
  have bcP0_0 : w2.cell? ⟨w.heap.size, 0, none⟩ = some (.slice a0_0 l0_0 cap0_0) := BXP0_2.out.cell (i := 0) (by decide)
  have bcP0_1 : w2.cell? ⟨w.heap.size, 1, none⟩ = some (.slice a0_1 l0_1 cap0_1) := BXP0_2.out.cell (i := 1) (by decide)
  go_wp2_with fail
  clear blP0 bcP0_0 bcP0_1
  refine (Lined_to _ _ _ cs0_0 _ _ _ cs0_1 false _ hf0_0 hs0_0 (h0_0.out.kept BW2.out) hf0_1 hs0_1 (h0_1.out.kept BW2.out)).mono ?_
  rintro e w3 ⟨Ag0_0, Ag0_1, Ap0_1, rfl, hO0_0, hO0_1, hle0, hle1, hB⟩
  have A0_0_3 : Hid (Owns w3 true w2.heap.size (.l l0_0 3 cs0_0) (.slice (some ⟨Ag0_0, 0, none⟩) l0_0 l0_0) (rng w2.heap.size Ap0_1)) := hO0_0
  have A0_1_3 : Hid (Owns w3 true w2.heap.size (.l l0_1 4 cs0_1) (.slice (some ⟨Ag0_1, 0, none⟩) l0_1 l0_1) (rng Ap0_1 w3.heap.size)) := hO0_1
  have BW3 : Hid (Below w.heap.size w w3) := BW2.out.trans (hB.mono BW2.out.size)
  have SZ3 : Hid (w2.heap.size ≤ w3.heap.size) := hB.size
  have BXP0_3 : Hid (w3.rowIs (w.heap.size) 45 2 (rowF [.slice a0_0 l0_0 cap0_0, .slice a0_1 l0_1 cap0_1])) := BXP0_2.out.of_block (hB.block _ BXP0_2.out.lt)
  clear hB hO0_0 hO0_1
  have Ale0_0 : Hid (w2.heap.size ≤ Ap0_1) := hle0
  clear hle0
  have Ale0_1 : Hid (Ap0_1 ≤ w3.heap.size) := hle1
  clear hle1
  have blP0 : w.heap.size < w3.heap.size := BXP0_3.out.lt
  have bcP0_0 : w3.cell? ⟨w.heap.size, 0, none⟩ = some (.slice a0_0 l0_0 cap0_0) := BXP0_3.out.cell (i := 0) (by decide)
  have bcP0_1 : w3.cell? ⟨w.heap.size, 1, none⟩ = some (.slice a0_1 l0_1 cap0_1) := BXP0_3.out.cell (i := 1) (by decide)
  go_wp2_with fail
  clear blP0 bcP0_0 bcP0_1
  refine (HS.out _ _ _ _ _ A0_0_3.out.holds A0_1_3.out.holds).mono ?_
  rintro e w4 ⟨sa0, sc0, rfl, hS0, hB⟩
  have S0 : Hid (Holds w4 false (.l lr0 1 csr0) (.slice sa0 lr0 sc0)) := hS0
  have BW4 : Hid (Below w.heap.size w w4) := BW3.out.trans (hB.mono BW3.out.size)
  have SZ4 : Hid (w3.heap.size ≤ w4.heap.size) := hB.size
  have BXP0_4 : Hid (w4.rowIs (w.heap.size) 45 2 (rowF [.slice a0_0 l0_0 cap0_0, .slice a0_1 l0_1 cap0_1])) := BXP0_3.out.of_block (hB.block _ BXP0_3.out.lt)
  clear hB hS0
  have blP0 : w.heap.size < w4.heap.size := BXP0_4.out.lt
  have bcP0_0 : w4.cell? ⟨w.heap.size, 0, none⟩ = some (.slice a0_0 l0_0 cap0_0) := BXP0_4.out.cell (i := 0) (by decide)
  have bcP0_1 : w4.cell? ⟨w.heap.size, 1, none⟩ = some (.slice a0_1 l0_1 cap0_1) := BXP0_4.out.cell (i := 1) (by decide)
  go_wp2_with fail
  clear blP0 bcP0_0 bcP0_1
  refine (Lined_to _ _ _ cs0_0 _ _ _ cs0_1 false _ hf0_0 hs0_0 (h0_0.out.kept BW4.out) hf0_1 hs0_1 (h0_1.out.kept BW4.out)).mono ?_
  rintro e w5 ⟨Xg0_0, Xg0_1, Xp0_1, rfl, hO0_0, hO0_1, hle0, hle1, hB⟩
  have X0_0_5 : Hid (Owns w5 true w4.heap.size (.l l0_0 3 cs0_0) (.slice (some ⟨Xg0_0, 0, none⟩) l0_0 l0_0) (rng w4.heap.size Xp0_1)) := hO0_0
  have X0_1_5 : Hid (Owns w5 true w4.heap.size (.l l0_1 4 cs0_1) (.slice (some ⟨Xg0_1, 0, none⟩) l0_1 l0_1) (rng Xp0_1 w5.heap.size)) := hO0_1
  have BW5 : Hid (Below w.heap.size w w5) := BW4.out.trans (hB.mono BW4.out.size)
  have SZ5 : Hid (w4.heap.size ≤ w5.heap.size) := hB.size
  have BS5 : Hid (Below w4.heap.size w4 w5) := hB
  have BXP0_5 : Hid (w5.rowIs (w.heap.size) 45 2 (rowF [.slice a0_0 l0_0 cap0_0, .slice a0_1 l0_1 cap0_1])) := BXP0_4.out.of_block (hB.block _ BXP0_4.out.lt)
  clear hB hO0_0 hO0_1
  have Xle0_0 : Hid (w4.heap.size ≤ Xp0_1) := hle0
  clear hle0
  have Xle0_1 : Hid (Xp0_1 ≤ w5.heap.size) := hle1
  clear hle1
  have blP0 : w.heap.size < w5.heap.size := BXP0_5.out.lt
  have bcP0_0 : w5.cell? ⟨w.heap.size, 0, none⟩ = some (.slice a0_0 l0_0 cap0_0) := BXP0_5.out.cell (i := 0) (by decide)
  have bcP0_1 : w5.cell? ⟨w.heap.size, 1, none⟩ = some (.slice a0_1 l0_1 cap0_1) := BXP0_5.out.cell (i := 1) (by decide)
  go_wp2_with fail
  clear blP0 bcP0_0 bcP0_1
  obtain ⟨w6, EWw6⟩ : ∃ X, X = w5.alloc (.cells #[.slice (some ⟨Xg0_0, 0, none⟩) l0_0 l0_0, .slice (some ⟨Xg0_1, 0, none⟩) l0_1 l0_1] 37) := ⟨_, rfl⟩
  rw [← EWw6]
  have hB : Below w5.heap.size w5 w6 := by rw [EWw6]; exact (Below.refl _ _).alloc (Nat.le_refl _) _
  have ESw6 : w6.heap.size = w5.heap.size + 1 := by rw [EWw6]; simp
  have BXX0_6 : Hid (w6.rowIs (w5.heap.size) 37 2 (rowF [.slice (some ⟨Xg0_0, 0, none⟩) l0_0 l0_0, .slice (some ⟨Xg0_1, 0, none⟩) l0_1 l0_1])) := by
    have q := row_of w5 #[.slice (some ⟨Xg0_0, 0, none⟩) l0_0 l0_0, .slice (some ⟨Xg0_1, 0, none⟩) l0_1 l0_1] 37
    rw [EWw6]; exact q
  have LTX0 : Hid (w5.heap.size < w6.heap.size) := BXX0_6.out.lt
  have ADX0 : Hid (w5.heap.size = w5.heap.size) := by show _ = _; rfl
  have BW6 : Hid (Below w.heap.size w w6) := BW5.out.trans (hB.mono BW5.out.size)
  have SZ6 : Hid (w5.heap.size ≤ w6.heap.size) := hB.size
  have BS6 : Hid (Below w4.heap.size w4 w6) := BS5.out.trans (hB.mono BS5.out.size)
  have X0_0_6 : Hid (Owns w6 true w4.heap.size (.l l0_0 3 cs0_0) (.slice (some ⟨Xg0_0, 0, none⟩) l0_0 l0_0) (rng w4.heap.size Xp0_1)) := X0_0_5.out.kept hB
  have X0_1_6 : Hid (Owns w6 true w4.heap.size (.l l0_1 4 cs0_1) (.slice (some ⟨Xg0_1, 0, none⟩) l0_1 l0_1) (rng Xp0_1 w5.heap.size)) := X0_1_5.out.kept hB
  have BXP0_6 : Hid (w6.rowIs (w.heap.size) 45 2 (rowF [.slice a0_0 l0_0 cap0_0, .slice a0_1 l0_1 cap0_1])) := BXP0_5.out.of_block (hB.block _ BXP0_5.out.lt)
  clear hB EWw6
  clear ESw6
  refine (HI.out _ _ _ _ _ X0_0_6.out.holds X0_1_6.out.holds).mono ?_
  rintro e w7 ⟨ga0, gc0, gP0, rfl, hO0, hF0, hB⟩
  have G0_7 : Hid (Owns w7 false w6.heap.size (.l lr0 1 csr0) (.slice ga0 lr0 gc0) gP0) := hO0
  have GF0 : Hid (∀ x, gP0 x → w6.heap.size ≤ x ∧ x < w7.heap.size) := hF0
  have BW7 : Hid (Below w.heap.size w w7) := BW6.out.trans (hB.mono BW6.out.size)
  have SZ7 : Hid (w6.heap.size ≤ w7.heap.size) := hB.size
  have BS7 : Hid (Below w4.heap.size w4 w7) := BS6.out.trans (hB.mono BS6.out.size)
  have X0_0_7 : Hid (Owns w7 true w4.heap.size (.l l0_0 3 cs0_0) (.slice (some ⟨Xg0_0, 0, none⟩) l0_0 l0_0) (rng w4.heap.size Xp0_1)) := X0_0_6.out.kept hB
  have X0_1_7 : Hid (Owns w7 true w4.heap.size (.l l0_1 4 cs0_1) (.slice (some ⟨Xg0_1, 0, none⟩) l0_1 l0_1) (rng Xp0_1 w5.heap.size)) := X0_1_6.out.kept hB
  have BXP0_7 : Hid (w7.rowIs (w.heap.size) 45 2 (rowF [.slice a0_0 l0_0 cap0_0, .slice a0_1 l0_1 cap0_1])) := BXP0_6.out.of_block (hB.block _ BXP0_6.out.lt)
  have BXX0_7 : Hid (w7.rowIs (w5.heap.size) 37 2 (rowF [.slice (some ⟨Xg0_0, 0, none⟩) l0_0 l0_0, .slice (some ⟨Xg0_1, 0, none⟩) l0_1 l0_1])) := BXX0_6.out.of_block (hB.block _ BXX0_6.out.lt)
  clear hB hO0 hF0
  have blP0 : w.heap.size < w7.heap.size := BXP0_7.out.lt
  have bcP0_0 : w7.cell? ⟨w.heap.size, 0, none⟩ = some (.slice a0_0 l0_0 cap0_0) := BXP0_7.out.cell (i := 0) (by decide)
  have bcP0_1 : w7.cell? ⟨w.heap.size, 1, none⟩ = some (.slice a0_1 l0_1 cap0_1) := BXP0_7.out.cell (i := 1) (by decide)
  have blX0 : w5.heap.size < w7.heap.size := BXX0_7.out.lt
  have bcX0_0 : w7.cell? ⟨w5.heap.size, 0, none⟩ = some (.slice (some ⟨Xg0_0, 0, none⟩) l0_0 l0_0) := BXX0_7.out.cell (i := 0) (by decide)
  have bcX0_1 : w7.cell? ⟨w5.heap.size, 1, none⟩ = some (.slice (some ⟨Xg0_1, 0, none⟩) l0_1 l0_1) := BXX0_7.out.cell (i := 1) (by decide)
  go_wp2_with fail
  clear blP0 bcP0_0 bcP0_1 blX0 bcX0_0 bcX0_1
  refine (IntS_eq _ _ _ _ _ csr0 _ _ _ hfr0 (Nat.le_trans (Nat.le_add_right _ _) hsr0.out) G0_7.out.holds (S0.out.kept BS7.out)).mono ?_
  rintro e w8 ⟨rfl, hB⟩
  have BW8 : Hid (Below w.heap.size w w8) := BW7.out.trans (hB.mono BW7.out.size)
  have SZ8 : Hid (w7.heap.size ≤ w8.heap.size) := hB.size
  have BS8 : Hid (Below w4.heap.size w4 w8) := BS7.out.trans (hB.mono BS7.out.size)
  have X0_0_8 : Hid (Owns w8 true w4.heap.size (.l l0_0 3 cs0_0) (.slice (some ⟨Xg0_0, 0, none⟩) l0_0 l0_0) (rng w4.heap.size Xp0_1)) := X0_0_7.out.kept hB
  have X0_1_8 : Hid (Owns w8 true w4.heap.size (.l l0_1 4 cs0_1) (.slice (some ⟨Xg0_1, 0, none⟩) l0_1 l0_1) (rng Xp0_1 w5.heap.size)) := X0_1_7.out.kept hB
  have G0_8 : Hid (Owns w8 false w6.heap.size (.l lr0 1 csr0) (.slice ga0 lr0 gc0) gP0) := G0_7.out.kept hB
  have BXP0_8 : Hid (w8.rowIs (w.heap.size) 45 2 (rowF [.slice a0_0 l0_0 cap0_0, .slice a0_1 l0_1 cap0_1])) := BXP0_7.out.of_block (hB.block _ BXP0_7.out.lt)
  have BXX0_8 : Hid (w8.rowIs (w5.heap.size) 37 2 (rowF [.slice (some ⟨Xg0_0, 0, none⟩) l0_0 l0_0, .slice (some ⟨Xg0_1, 0, none⟩) l0_1 l0_1])) := BXX0_7.out.of_block (hB.block _ BXX0_7.out.lt)
  clear hB
  have blP0 : w.heap.size < w8.heap.size := BXP0_8.out.lt
  have bcP0_0 : w8.cell? ⟨w.heap.size, 0, none⟩ = some (.slice a0_0 l0_0 cap0_0) := BXP0_8.out.cell (i := 0) (by decide)
  have bcP0_1 : w8.cell? ⟨w.heap.size, 1, none⟩ = some (.slice a0_1 l0_1 cap0_1) := BXP0_8.out.cell (i := 1) (by decide)
  have blX0 : w5.heap.size < w8.heap.size := BXX0_8.out.lt
  have bcX0_0 : w8.cell? ⟨w5.heap.size, 0, none⟩ = some (.slice (some ⟨Xg0_0, 0, none⟩) l0_0 l0_0) := BXX0_8.out.cell (i := 0) (by decide)
  have bcX0_1 : w8.cell? ⟨w5.heap.size, 1, none⟩ = some (.slice (some ⟨Xg0_1, 0, none⟩) l0_1 l0_1) := BXX0_8.out.cell (i := 1) (by decide)
  go_wp2_with fail
  clear blP0 bcP0_0 bcP0_1 blX0 bcX0_0 bcX0_1
  have BD8 : Hid (Below w.heap.size w w8.drew) := BW8.out.drew
  have qs8 : w8.cell? ⟨w5.heap.size, 0, none⟩ = some (.slice (some ⟨Xg0_0, 0, none⟩) l0_0 l0_0) ∧ w8.cell? ⟨w5.heap.size, 1, none⟩ = some (.slice (some ⟨Xg0_1, 0, none⟩) l0_1 l0_1) ∧ w8.cell? ⟨w.heap.size, 0, none⟩ = some (.slice a0_0 l0_0 cap0_0) ∧ w8.cell? ⟨w.heap.size, 1, none⟩ = some (.slice a0_1 l0_1 cap0_1) := ⟨(BXX0_8.out).cell (i := 0) (by decide), (BXX0_8.out).cell (i := 1) (by decide), (BXP0_8.out).cell (i := 0) (by decide), (BXP0_8.out).cell (i := 1) (by decide)⟩
  have qd8 : w8.drew.cell? ⟨w5.heap.size, 0, none⟩ = some (.slice (some ⟨Xg0_0, 0, none⟩) l0_0 l0_0) ∧ w8.drew.cell? ⟨w5.heap.size, 1, none⟩ = some (.slice (some ⟨Xg0_1, 0, none⟩) l0_1 l0_1) ∧ w8.drew.cell? ⟨w.heap.size, 0, none⟩ = some (.slice a0_0 l0_0 cap0_0) ∧ w8.drew.cell? ⟨w.heap.size, 1, none⟩ = some (.slice a0_1 l0_1 cap0_1) := qs8
  go_region_held3 (fun w' => w'.cell? ⟨w5.heap.size, 0, none⟩ = some (.slice (some ⟨Xg0_0, 0, none⟩) l0_0 l0_0) ∧ w'.cell? ⟨w5.heap.size, 1, none⟩ = some (.slice (some ⟨Xg0_1, 0, none⟩) l0_1 l0_1) ∧ w'.cell? ⟨w.heap.size, 0, none⟩ = some (.slice a0_0 l0_0 cap0_0) ∧ w'.cell? ⟨w.heap.size, 1, none⟩ = some (.slice a0_1 l0_1 cap0_1)) (first | assumption | exact qs8 | exact qd8 | exact qs9 | exact qs10 | go_keep) (first
    | (go_at_call 22; refine (Lined_to _ _ _ cs0_0 _ _ _ cs0_1 false _ hf0_0 hs0_0 (h0_0.out.kept BD8.out) hf0_1 hs0_1 (h0_1.out.kept BD8.out)).mono ?_; rintro e w9 ⟨Zg0_0, Zg0_1, Zp0_1, rfl, hO0_0, hO0_1, hle0, hle1, hB⟩; have BW9 : Hid (Below w.heap.size w w9) := BD8.out.trans (hB.mono BD8.out.size); have SZ9 : Hid (w8.heap.size ≤ w9.heap.size) := hB.size; have BS9 : Hid (Below w4.heap.size w4 w9) := BS8.out.drew.trans (hB.mono BS8.out.drew.size); have X0_0_9 : Hid (Owns w9 true w4.heap.size (.l l0_0 3 cs0_0) (.slice (some ⟨Xg0_0, 0, none⟩) l0_0 l0_0) (rng w4.heap.size Xp0_1)) := (X0_0_8.out.kept (Below.refl _ _).drew).kept hB; have X0_1_9 : Hid (Owns w9 true w4.heap.size (.l l0_1 4 cs0_1) (.slice (some ⟨Xg0_1, 0, none⟩) l0_1 l0_1) (rng Xp0_1 w5.heap.size)) := (X0_1_8.out.kept (Below.refl _ _).drew).kept hB; have G0_9 : Hid (Owns w9 false w6.heap.size (.l lr0 1 csr0) (.slice ga0 lr0 gc0) gP0) := (G0_8.out.kept (Below.refl _ _).drew).kept hB; have BXP0_9 : Hid (w9.rowIs (w.heap.size) 45 2 (rowF [.slice a0_0 l0_0 cap0_0, .slice a0_1 l0_1 cap0_1])) := BXP0_8.out.of_block (hB.block _ BXP0_8.out.lt); have BXX0_9 : Hid (w9.rowIs (w5.heap.size) 37 2 (rowF [.slice (some ⟨Xg0_0, 0, none⟩) l0_0 l0_0, .slice (some ⟨Xg0_1, 0, none⟩) l0_1 l0_1])) := BXX0_8.out.of_block (hB.block _ BXX0_8.out.lt); have Z0_0_9 : Hid (Holds w9 true (.l l0_0 3 cs0_0) (.slice (some ⟨Zg0_0, 0, none⟩) l0_0 l0_0)) := hO0_0.holds; have Z0_1_9 : Hid (Holds w9 true (.l l0_1 4 cs0_1) (.slice (some ⟨Zg0_1, 0, none⟩) l0_1 l0_1)) := hO0_1.holds; have qs9 : w9.cell? ⟨w5.heap.size, 0, none⟩ = some (.slice (some ⟨Xg0_0, 0, none⟩) l0_0 l0_0) ∧ w9.cell? ⟨w5.heap.size, 1, none⟩ = some (.slice (some ⟨Xg0_1, 0, none⟩) l0_1 l0_1) ∧ w9.cell? ⟨w.heap.size, 0, none⟩ = some (.slice a0_0 l0_0 cap0_0) ∧ w9.cell? ⟨w.heap.size, 1, none⟩ = some (.slice a0_1 l0_1 cap0_1) := ⟨(BXX0_9.out).cell (i := 0) (by decide), (BXX0_9.out).cell (i := 1) (by decide), (BXP0_9.out).cell (i := 0) (by decide), (BXP0_9.out).cell (i := 1) (by decide)⟩; clear hB hO0_0 hO0_1 hle0 hle1)
    | (go_at_call 17; refine (Lined_eq _ _ _ cs0_0 _ _ _ cs0_1 _ _ _ _ _ _ _ hf0_0 hs0_0 X0_0_9.out.holds hf0_1 hs0_1 X0_1_9.out.holds Z0_0_9 Z0_1_9).mono ?_; rintro e w10 ⟨rfl, hB⟩; have BW10 : Hid (Below w.heap.size w w10) := BW9.out.trans (hB.mono BW9.out.size); have SZ10 : Hid (w9.heap.size ≤ w10.heap.size) := hB.size; have BS10 : Hid (Below w4.heap.size w4 w10) := BS9.out.trans (hB.mono BS9.out.size); have X0_0_10 : Hid (Owns w10 true w4.heap.size (.l l0_0 3 cs0_0) (.slice (some ⟨Xg0_0, 0, none⟩) l0_0 l0_0) (rng w4.heap.size Xp0_1)) := X0_0_9.out.kept hB; have X0_1_10 : Hid (Owns w10 true w4.heap.size (.l l0_1 4 cs0_1) (.slice (some ⟨Xg0_1, 0, none⟩) l0_1 l0_1) (rng Xp0_1 w5.heap.size)) := X0_1_9.out.kept hB; have G0_10 : Hid (Owns w10 false w6.heap.size (.l lr0 1 csr0) (.slice ga0 lr0 gc0) gP0) := G0_9.out.kept hB; have BXP0_10 : Hid (w10.rowIs (w.heap.size) 45 2 (rowF [.slice a0_0 l0_0 cap0_0, .slice a0_1 l0_1 cap0_1])) := BXP0_9.out.of_block (hB.block _ BXP0_9.out.lt); have BXX0_10 : Hid (w10.rowIs (w5.heap.size) 37 2 (rowF [.slice (some ⟨Xg0_0, 0, none⟩) l0_0 l0_0, .slice (some ⟨Xg0_1, 0, none⟩) l0_1 l0_1])) := BXX0_9.out.of_block (hB.block _ BXX0_9.out.lt); have qs10 : w10.cell? ⟨w5.heap.size, 0, none⟩ = some (.slice (some ⟨Xg0_0, 0, none⟩) l0_0 l0_0) ∧ w10.cell? ⟨w5.heap.size, 1, none⟩ = some (.slice (some ⟨Xg0_1, 0, none⟩) l0_1 l0_1) ∧ w10.cell? ⟨w.heap.size, 0, none⟩ = some (.slice a0_0 l0_0 cap0_0) ∧ w10.cell? ⟨w.heap.size, 1, none⟩ = some (.slice a0_1 l0_1 cap0_1) := ⟨(BXX0_10.out).cell (i := 0) (by decide), (BXX0_10.out).cell (i := 1) (by decide), (BXP0_10.out).cell (i := 0) (by decide), (BXP0_10.out).cell (i := 1) (by decide)⟩; clear hB))
  clear qs8 qd8 qs9 qs10
  have hcn0_0 := cnt_le thin_LStepS hf0_0.out
  obtain ⟨N0_0, HN0_0⟩ : ∃ N, Hid (cntD (.l l0_0 3 cs0_0) = N) := ⟨_, rfl⟩
  have hN0_0 : N0_0 ≤ 8388609 := by have q := hs0_0.out; rw [HN0_0.out] at hcn0_0; omega
  clear hcn0_0
  have hcn0_1 := cnt_le thin_GuardS hf0_1.out
  obtain ⟨N0_1, HN0_1⟩ : ∃ N, Hid (cntD (.l l0_1 4 cs0_1) = N) := ⟨_, rfl⟩
  have hN0_1 : N0_1 ≤ 8388609 := by have q := hs0_1.out; rw [HN0_1.out] at hcn0_1; omega
  clear hcn0_1
  have blP0 : w.heap.size < w10.heap.size := BXP0_10.out.lt
  have bcP0_0 : w10.cell? ⟨w.heap.size, 0, none⟩ = some (.slice a0_0 l0_0 cap0_0) := BXP0_10.out.cell (i := 0) (by decide)
  have bcP0_1 : w10.cell? ⟨w.heap.size, 1, none⟩ = some (.slice a0_1 l0_1 cap0_1) := BXP0_10.out.cell (i := 1) (by decide)
  have blX0 : w5.heap.size < w10.heap.size := BXX0_10.out.lt
  have bcX0_0 : w10.cell? ⟨w5.heap.size, 0, none⟩ = some (.slice (some ⟨Xg0_0, 0, none⟩) l0_0 l0_0) := BXX0_10.out.cell (i := 0) (by decide)
  have bcX0_1 : w10.cell? ⟨w5.heap.size, 1, none⟩ = some (.slice (some ⟨Xg0_1, 0, none⟩) l0_1 l0_1) := BXX0_10.out.cell (i := 1) (by decide)
  go_wp2_with fail
  clear blP0 bcP0_0 bcP0_1 blX0 bcX0_0 bcX0_1
  refine (Lined_mark (1) (by omega) (by omega) _ _ _ cs0_0 _ _ _ cs0_1 true _ _ _ _ hf0_0 hs0_0 X0_0_10 (fun x hx => by have r1 := hx.2; have t0 := Xle0_0.out; have t1 := Xle0_1.out; have q6 := SZ6.out; have q7 := SZ7.out; have q8 := SZ8.out; have q9 := SZ9.out; have q10 := SZ10.out; omega) hf0_1 hs0_1 X0_1_10 (fun x hx => by have r1 := hx.2; have t0 := Xle0_0.out; have t1 := Xle0_1.out; have q6 := SZ6.out; have q7 := SZ7.out; have q8 := SZ8.out; have q9 := SZ9.out; have q10 := SZ10.out; omega) (fun x hx hy => by have r1 := hx.2; have r2 := hy.1;  omega)).mono ?_
  rw [HN0_0.out, HN0_1.out]
  rintro e w11 ⟨rfl, _, _, hF⟩
  have hF : OnlyF w10 w11 (rng w4.heap.size w5.heap.size) := hF.more (fun x hx => by rcases hx with hx | hx <;> exact ⟨by have := hx.1; have t0 := Xle0_0.out; have t1 := Xle0_1.out; omega, by have := hx.2; have t0 := Xle0_0.out; have t1 := Xle0_1.out; omega⟩)
  have hB : Below w4.heap.size w10 w11 := hF.below (by have q5 := SZ5.out; have q6 := SZ6.out; have q7 := SZ7.out; have q8 := SZ8.out; have q9 := SZ9.out; have q10 := SZ10.out; omega) (fun x hx => hx.1)
  have BW11 : Hid (Below w.heap.size w w11) := BW10.out.trans (hB.mono BW4.out.size)
  have SZ11 : Hid (w10.heap.size ≤ w11.heap.size) := hB.size
  have BS11 : Hid (Below w4.heap.size w4 w11) := BS10.out.trans (hB.mono (Nat.le_refl _))
  have G0_11 : Hid (Owns w11 false w6.heap.size (.l lr0 1 csr0) (.slice ga0 lr0 gc0) gP0) := hF.owns (fun x hx hy => by have r1 := (GF0.out x hx).1; have r2 := hy.2; have q6 := SZ6.out; omega) G0_10.out
  have BXP0_11 : Hid (w11.rowIs (w.heap.size) 45 2 (rowF [.slice a0_0 l0_0 cap0_0, .slice a0_1 l0_1 cap0_1])) := BXP0_10.out.of_block (hF.block _ BXP0_10.out.lt (fun hy => by have r1 := hy.1; have r2 := LTP0.out; have q2 := SZ2.out; have q3 := SZ3.out; have q4 := SZ4.out; omega))
  have BXX0_11 : Hid (w11.rowIs (w5.heap.size) 37 2 (rowF [.slice (some ⟨Xg0_0, 0, none⟩) l0_0 l0_0, .slice (some ⟨Xg0_1, 0, none⟩) l0_1 l0_1])) := BXX0_10.out.of_block (hF.block _ BXX0_10.out.lt (fun hy => by have r1 := hy.2; have r3 := ADX0.out;  omega))
  clear hF hB
  have hk : (0 : Int) ≤ 1 + (N0_0 : Int) + (N0_1 : Int) := by omega
  have blP0 : w.heap.size < w11.heap.size := BXP0_11.out.lt
  have bcP0_0 : w11.cell? ⟨w.heap.size, 0, none⟩ = some (.slice a0_0 l0_0 cap0_0) := BXP0_11.out.cell (i := 0) (by decide)
  have bcP0_1 : w11.cell? ⟨w.heap.size, 1, none⟩ = some (.slice a0_1 l0_1 cap0_1) := BXP0_11.out.cell (i := 1) (by decide)
  have blX0 : w5.heap.size < w11.heap.size := BXX0_11.out.lt
  have bcX0_0 : w11.cell? ⟨w5.heap.size, 0, none⟩ = some (.slice (some ⟨Xg0_0, 0, none⟩) l0_0 l0_0) := BXX0_11.out.cell (i := 0) (by decide)
  have bcX0_1 : w11.cell? ⟨w5.heap.size, 1, none⟩ = some (.slice (some ⟨Xg0_1, 0, none⟩) l0_1 l0_1) := BXX0_11.out.cell (i := 1) (by decide)
  go_wp2_with fail
  clear blP0 bcP0_0 bcP0_1 blX0 bcX0_0 bcX0_1
  refine (IntS_eq _ _ _ _ _ csr0 _ _ _ hfr0 (Nat.le_trans (Nat.le_add_right _ _) hsr0.out) G0_11.out.holds (S0.out.kept BS11.out)).mono ?_
  rintro e w12 ⟨rfl, hB⟩
  have BW12 : Hid (Below w.heap.size w w12) := BW11.out.trans (hB.mono BW11.out.size)
  have SZ12 : Hid (w11.heap.size ≤ w12.heap.size) := hB.size
  have BS12 : Hid (Below w4.heap.size w4 w12) := BS11.out.trans (hB.mono BS11.out.size)
  have G0_12 : Hid (Owns w12 false w6.heap.size (.l lr0 1 csr0) (.slice ga0 lr0 gc0) gP0) := G0_11.out.kept hB
  have BXP0_12 : Hid (w12.rowIs (w.heap.size) 45 2 (rowF [.slice a0_0 l0_0 cap0_0, .slice a0_1 l0_1 cap0_1])) := BXP0_11.out.of_block (hB.block _ BXP0_11.out.lt)
  have BXX0_12 : Hid (w12.rowIs (w5.heap.size) 37 2 (rowF [.slice (some ⟨Xg0_0, 0, none⟩) l0_0 l0_0, .slice (some ⟨Xg0_1, 0, none⟩) l0_1 l0_1])) := BXX0_11.out.of_block (hB.block _ BXX0_11.out.lt)
  clear hB
  have hcnr0 := cnt_le (s := shI) ⟨by decide, fun _ => trivial⟩ hfr0.out
  obtain ⟨M0, HM0⟩ : ∃ N, Hid (cntD (.l lr0 1 csr0) = N) := ⟨_, rfl⟩
  have hM0 : M0 ≤ 800001 := by have q := hsx0.out; rw [HM0.out] at hcnr0; omega
  clear hcnr0
  have blP0 : w.heap.size < w12.heap.size := BXP0_12.out.lt
  have bcP0_0 : w12.cell? ⟨w.heap.size, 0, none⟩ = some (.slice a0_0 l0_0 cap0_0) := BXP0_12.out.cell (i := 0) (by decide)
  have bcP0_1 : w12.cell? ⟨w.heap.size, 1, none⟩ = some (.slice a0_1 l0_1 cap0_1) := BXP0_12.out.cell (i := 1) (by decide)
  have blX0 : w5.heap.size < w12.heap.size := BXX0_12.out.lt
  have bcX0_0 : w12.cell? ⟨w5.heap.size, 0, none⟩ = some (.slice (some ⟨Xg0_0, 0, none⟩) l0_0 l0_0) := BXX0_12.out.cell (i := 0) (by decide)
  have bcX0_1 : w12.cell? ⟨w5.heap.size, 1, none⟩ = some (.slice (some ⟨Xg0_1, 0, none⟩) l0_1 l0_1) := BXX0_12.out.cell (i := 1) (by decide)
  go_wp2_with fail
  clear blP0 bcP0_0 bcP0_1 blX0 bcX0_0 bcX0_1
  refine (IntS_mark (1) (by omega) (by omega) _ _ _ csr0 false _ _ _ hfr0 (Nat.le_trans (Nat.le_add_right _ _) hsr0.out) G0_12).mono ?_
  rw [HM0.out]
  rintro e w13 ⟨rfl, hO0, hF⟩
  have hB : Below w6.heap.size w12 w13 := hF.below (by have q7 := SZ7.out; have q8 := SZ8.out; have q9 := SZ9.out; have q10 := SZ10.out; have q11 := SZ11.out; have q12 := SZ12.out; omega) (fun x hx => (GF0.out x hx).1)
  have BW13 : Hid (Below w.heap.size w w13) := BW12.out.trans (hB.mono BW6.out.size)
  have SZ13 : Hid (w12.heap.size ≤ w13.heap.size) := hB.size
  have BS13 : Hid (Below w4.heap.size w4 w13) := BS12.out.trans (hB.mono BS6.out.size)
  have G0_13 : Hid (Owns w13 false w6.heap.size (mkD (1) (.l lr0 1 csr0)) (.slice ga0 lr0 gc0) gP0) := hO0
  have BXP0_13 : Hid (w13.rowIs (w.heap.size) 45 2 (rowF [.slice a0_0 l0_0 cap0_0, .slice a0_1 l0_1 cap0_1])) := BXP0_12.out.of_block (hF.block _ BXP0_12.out.lt (fun hy => by have r0 := GF0.out _ hy; have r1 := r0.1; have r2 := LTP0.out; have q2 := SZ2.out; have q3 := SZ3.out; have q4 := SZ4.out; have q5 := SZ5.out; have q6 := SZ6.out; omega))
  have BXX0_13 : Hid (w13.rowIs (w5.heap.size) 37 2 (rowF [.slice (some ⟨Xg0_0, 0, none⟩) l0_0 l0_0, .slice (some ⟨Xg0_1, 0, none⟩) l0_1 l0_1])) := BXX0_12.out.of_block (hF.block _ BXX0_12.out.lt (fun hy => by have r0 := GF0.out _ hy; have r1 := r0.1; have r2 := LTX0.out;  omega))
  clear hF hB hO0
  have hm : (0 : Int) ≤ 1 + (M0 : Int) := by omega
  have blP0 : w.heap.size < w13.heap.size := BXP0_13.out.lt
  have bcP0_0 : w13.cell? ⟨w.heap.size, 0, none⟩ = some (.slice a0_0 l0_0 cap0_0) := BXP0_13.out.cell (i := 0) (by decide)
  have bcP0_1 : w13.cell? ⟨w.heap.size, 1, none⟩ = some (.slice a0_1 l0_1 cap0_1) := BXP0_13.out.cell (i := 1) (by decide)
  have blX0 : w5.heap.size < w13.heap.size := BXX0_13.out.lt
  have bcX0_0 : w13.cell? ⟨w5.heap.size, 0, none⟩ = some (.slice (some ⟨Xg0_0, 0, none⟩) l0_0 l0_0) := BXX0_13.out.cell (i := 0) (by decide)
  have bcX0_1 : w13.cell? ⟨w5.heap.size, 1, none⟩ = some (.slice (some ⟨Xg0_1, 0, none⟩) l0_1 l0_1) := BXX0_13.out.cell (i := 1) (by decide)
  go_wp2_with fail
  clear blP0 bcP0_0 bcP0_1 blX0 bcX0_0 bcX0_1
  refine (IntS_held (1) (by omega) (by omega) _ _ _ csr0 false _ hfr0 (Nat.le_trans (Nat.le_add_right _ _) hsr0.out) G0_13.out.holds).mono ?_
  rintro e w' ⟨rfl, hw⟩
  rw [hw, HM0.out]
  clear hw w'
  have hq13_0 : (0 : Int) ≤ 1 + (M0 : Int) := by omega
  have blP0 : w.heap.size < w13.heap.size := BXP0_13.out.lt
  have bcP0_0 : w13.cell? ⟨w.heap.size, 0, none⟩ = some (.slice a0_0 l0_0 cap0_0) := BXP0_13.out.cell (i := 0) (by decide)
  have bcP0_1 : w13.cell? ⟨w.heap.size, 1, none⟩ = some (.slice a0_1 l0_1 cap0_1) := BXP0_13.out.cell (i := 1) (by decide)
  have blX0 : w5.heap.size < w13.heap.size := BXX0_13.out.lt
  have bcX0_0 : w13.cell? ⟨w5.heap.size, 0, none⟩ = some (.slice (some ⟨Xg0_0, 0, none⟩) l0_0 l0_0) := BXX0_13.out.cell (i := 0) (by decide)
  have bcX0_1 : w13.cell? ⟨w5.heap.size, 1, none⟩ = some (.slice (some ⟨Xg0_1, 0, none⟩) l0_1 l0_1) := BXX0_13.out.cell (i := 1) (by decide)
  go_wp2_with fail
  clear blP0 bcP0_0 bcP0_1 blX0 bcX0_0 bcX0_1
  refine (Lined_to _ _ _ cs0_0 _ _ _ cs0_1 false _ hf0_0 hs0_0 (h0_0.out.kept BW13.out) hf0_1 hs0_1 (h0_1.out.kept BW13.out)).mono ?_
  rintro e w14 ⟨Cg0_0, Cg0_1, Cp0_1, rfl, hO0_0, hO0_1, hle0, hle1, hB⟩
  have C0_0_14 : Hid (Owns w14 true w13.heap.size (.l l0_0 3 cs0_0) (.slice (some ⟨Cg0_0, 0, none⟩) l0_0 l0_0) (rng w13.heap.size Cp0_1)) := hO0_0
  have C0_1_14 : Hid (Owns w14 true w13.heap.size (.l l0_1 4 cs0_1) (.slice (some ⟨Cg0_1, 0, none⟩) l0_1 l0_1) (rng Cp0_1 w14.heap.size)) := hO0_1
  have BW14 : Hid (Below w.heap.size w w14) := BW13.out.trans (hB.mono BW13.out.size)
  have SZ14 : Hid (w13.heap.size ≤ w14.heap.size) := hB.size
  have BS14 : Hid (Below w4.heap.size w4 w14) := BS13.out.trans (hB.mono BS13.out.size)
  have G0_14 : Hid (Owns w14 false w6.heap.size (mkD (1) (.l lr0 1 csr0)) (.slice ga0 lr0 gc0) gP0) := G0_13.out.kept hB
  have BXP0_14 : Hid (w14.rowIs (w.heap.size) 45 2 (rowF [.slice a0_0 l0_0 cap0_0, .slice a0_1 l0_1 cap0_1])) := BXP0_13.out.of_block (hB.block _ BXP0_13.out.lt)
  have BXX0_14 : Hid (w14.rowIs (w5.heap.size) 37 2 (rowF [.slice (some ⟨Xg0_0, 0, none⟩) l0_0 l0_0, .slice (some ⟨Xg0_1, 0, none⟩) l0_1 l0_1])) := BXX0_13.out.of_block (hB.block _ BXX0_13.out.lt)
  clear hB hO0_0 hO0_1
  have Cle0_0 : Hid (w13.heap.size ≤ Cp0_1) := hle0
  clear hle0
  have Cle0_1 : Hid (Cp0_1 ≤ w14.heap.size) := hle1
  clear hle1
  have blP0 : w.heap.size < w14.heap.size := BXP0_14.out.lt
  have bcP0_0 : w14.cell? ⟨w.heap.size, 0, none⟩ = some (.slice a0_0 l0_0 cap0_0) := BXP0_14.out.cell (i := 0) (by decide)
  have bcP0_1 : w14.cell? ⟨w.heap.size, 1, none⟩ = some (.slice a0_1 l0_1 cap0_1) := BXP0_14.out.cell (i := 1) (by decide)
  have blX0 : w5.heap.size < w14.heap.size := BXX0_14.out.lt
  have bcX0_0 : w14.cell? ⟨w5.heap.size, 0, none⟩ = some (.slice (some ⟨Xg0_0, 0, none⟩) l0_0 l0_0) := BXX0_14.out.cell (i := 0) (by decide)
  have bcX0_1 : w14.cell? ⟨w5.heap.size, 1, none⟩ = some (.slice (some ⟨Xg0_1, 0, none⟩) l0_1 l0_1) := BXX0_14.out.cell (i := 1) (by decide)
  go_wp2_with fail
  clear blP0 bcP0_0 bcP0_1 blX0 bcX0_0 bcX0_1
  refine (HI.out _ _ _ _ _ C0_0_14.out.holds C0_1_14.out.holds).mono ?_
  rintro e w15 ⟨ha0, hc0, hP0, rfl, hO0, hF0, hB⟩
  have H0_15 : Hid (Owns w15 false w14.heap.size (.l lr0 1 csr0) (.slice ha0 lr0 hc0) hP0) := hO0
  have HF0 : Hid (∀ x, hP0 x → w14.heap.size ≤ x ∧ x < w15.heap.size) := hF0
  have BW15 : Hid (Below w.heap.size w w15) := BW14.out.trans (hB.mono BW14.out.size)
  have SZ15 : Hid (w14.heap.size ≤ w15.heap.size) := hB.size
  have BS15 : Hid (Below w4.heap.size w4 w15) := BS14.out.trans (hB.mono BS14.out.size)
  have G0_15 : Hid (Owns w15 false w6.heap.size (mkD (1) (.l lr0 1 csr0)) (.slice ga0 lr0 gc0) gP0) := G0_14.out.kept hB
  have C0_0_15 : Hid (Owns w15 true w13.heap.size (.l l0_0 3 cs0_0) (.slice (some ⟨Cg0_0, 0, none⟩) l0_0 l0_0) (rng w13.heap.size Cp0_1)) := C0_0_14.out.kept hB
  have C0_1_15 : Hid (Owns w15 true w13.heap.size (.l l0_1 4 cs0_1) (.slice (some ⟨Cg0_1, 0, none⟩) l0_1 l0_1) (rng Cp0_1 w14.heap.size)) := C0_1_14.out.kept hB
  have BXP0_15 : Hid (w15.rowIs (w.heap.size) 45 2 (rowF [.slice a0_0 l0_0 cap0_0, .slice a0_1 l0_1 cap0_1])) := BXP0_14.out.of_block (hB.block _ BXP0_14.out.lt)
  have BXX0_15 : Hid (w15.rowIs (w5.heap.size) 37 2 (rowF [.slice (some ⟨Xg0_0, 0, none⟩) l0_0 l0_0, .slice (some ⟨Xg0_1, 0, none⟩) l0_1 l0_1])) := BXX0_14.out.of_block (hB.block _ BXX0_14.out.lt)
  clear hB hO0 hF0
  have blP0 : w.heap.size < w15.heap.size := BXP0_15.out.lt
  have bcP0_0 : w15.cell? ⟨w.heap.size, 0, none⟩ = some (.slice a0_0 l0_0 cap0_0) := BXP0_15.out.cell (i := 0) (by decide)
  have bcP0_1 : w15.cell? ⟨w.heap.size, 1, none⟩ = some (.slice a0_1 l0_1 cap0_1) := BXP0_15.out.cell (i := 1) (by decide)
  have blX0 : w5.heap.size < w15.heap.size := BXX0_15.out.lt
  have bcX0_0 : w15.cell? ⟨w5.heap.size, 0, none⟩ = some (.slice (some ⟨Xg0_0, 0, none⟩) l0_0 l0_0) := BXX0_15.out.cell (i := 0) (by decide)
  have bcX0_1 : w15.cell? ⟨w5.heap.size, 1, none⟩ = some (.slice (some ⟨Xg0_1, 0, none⟩) l0_1 l0_1) := BXX0_15.out.cell (i := 1) (by decide)
  go_wp2_with fail
  clear blP0 bcP0_0 bcP0_1 blX0 bcX0_0 bcX0_1
  refine (IntS_eq _ _ _ _ _ csr0 _ _ _ hfr0 (Nat.le_trans (Nat.le_add_right _ _) hsr0.out) H0_15.out.holds (S0.out.kept BS15.out)).mono ?_
  rintro e w16 ⟨rfl, hB⟩
  have BW16 : Hid (Below w.heap.size w w16) := BW15.out.trans (hB.mono BW15.out.size)
  have SZ16 : Hid (w15.heap.size ≤ w16.heap.size) := hB.size
  have BS16 : Hid (Below w4.heap.size w4 w16) := BS15.out.trans (hB.mono BS15.out.size)
  have G0_16 : Hid (Owns w16 false w6.heap.size (mkD (1) (.l lr0 1 csr0)) (.slice ga0 lr0 gc0) gP0) := G0_15.out.kept hB
  have H0_16 : Hid (Owns w16 false w14.heap.size (.l lr0 1 csr0) (.slice ha0 lr0 hc0) hP0) := H0_15.out.kept hB
  have BXP0_16 : Hid (w16.rowIs (w.heap.size) 45 2 (rowF [.slice a0_0 l0_0 cap0_0, .slice a0_1 l0_1 cap0_1])) := BXP0_15.out.of_block (hB.block _ BXP0_15.out.lt)
  have BXX0_16 : Hid (w16.rowIs (w5.heap.size) 37 2 (rowF [.slice (some ⟨Xg0_0, 0, none⟩) l0_0 l0_0, .slice (some ⟨Xg0_1, 0, none⟩) l0_1 l0_1])) := BXX0_15.out.of_block (hB.block _ BXX0_15.out.lt)
  clear hB
  have blP0 : w.heap.size < w16.heap.size := BXP0_16.out.lt
  have bcP0_0 : w16.cell? ⟨w.heap.size, 0, none⟩ = some (.slice a0_0 l0_0 cap0_0) := BXP0_16.out.cell (i := 0) (by decide)
  have bcP0_1 : w16.cell? ⟨w.heap.size, 1, none⟩ = some (.slice a0_1 l0_1 cap0_1) := BXP0_16.out.cell (i := 1) (by decide)
  have blX0 : w5.heap.size < w16.heap.size := BXX0_16.out.lt
  have bcX0_0 : w16.cell? ⟨w5.heap.size, 0, none⟩ = some (.slice (some ⟨Xg0_0, 0, none⟩) l0_0 l0_0) := BXX0_16.out.cell (i := 0) (by decide)
  have bcX0_1 : w16.cell? ⟨w5.heap.size, 1, none⟩ = some (.slice (some ⟨Xg0_1, 0, none⟩) l0_1 l0_1) := BXX0_16.out.cell (i := 1) (by decide)
  go_wp2_with fail
  clear blP0 bcP0_0 bcP0_1 blX0 bcX0_0 bcX0_1
  refine (IntS_held (1) (by omega) (by omega) _ _ _ csr0 false _ hfr0 (Nat.le_trans (Nat.le_add_right _ _) hsr0.out) G0_16.out.holds).mono ?_
  rintro e w' ⟨rfl, hw⟩
  rw [hw, HM0.out]
  clear hw w'
  have hq16_0 : (0 : Int) ≤ 1 + (M0 : Int) := by omega
  go_wp2
  go_ret
  exact ⟨rfl, BW16.out⟩
theorem walk (a0_0 : Option Addr) (l0_0 cap0_0 : Nat) (cs0_0 : Nat → Dv) (a0_1 : Option Addr) (l0_1 cap0_1 : Nat) (cs0_1 : Nat → Dv) (a1 : Int) (w1 : (Lit.int .i64 a1).wf = true) (w : World) (h0_0 : Holds w false (.l l0_0 3 cs0_0) (.slice a0_0 l0_0 cap0_0)) (f0_0 : Fits shLStepS (.l l0_0 3 cs0_0)) (n0_0 : Lens (.l l0_0 3 cs0_0)) (h0_1 : Holds w false (.l l0_1 4 cs0_1) (.slice a0_1 l0_1 cap0_1)) (f0_1 : Fits shGuardS (.l l0_1 4 cs0_1)) (n0_1 : Lens (.l l0_1 4 cs0_1)) :
    Calls Try.prog 5 #[.agg #[.slice a0_0 l0_0 cap0_0, .slice a0_1 l0_1 cap0_1], .int .i64 a1] w fun e w' => e = .returned (.bool true) ∧ Below w.heap.size w w' := by
  have HF3 := fits_L3 f0_0
  have HF4 := fits_G4 f0_1
  obtain ⟨R, HR⟩ : ∃ R, Hid (lineAns (zf (intsOf cs0_0 (l0_0 * 3))) l0_0 (zf (intsOf cs0_1 (l0_1 * 4))) l0_1 a1 = R) := ⟨_, rfl⟩
  cases hR : R with
  | none =>
    refine walk_of a0_0 cap0_0 a0_1 cap0_1 l0_0 cs0_0 l0_1 cs0_1 a1 0 (fun _ => .n 0) 0 0 false w f0_0 n0_0 h0_0 f0_1 n0_1 h0_1 ⟨rfl, fun i hi => by omega⟩ (show 0 + sumTo _ (0 * 1) ≤ 100000 by simp [sumTo]) (fun hs hs1 => ?_) (fun hs hs1 => ?_)
    · intro W a cap b bcap hh hb
      have h0 : l0_0 ≤ 1048576 := Nat.le_trans (Nat.le_add_right _ _) hs
      have h1 : l0_1 ≤ 1048576 := Nat.le_trans (Nat.le_add_right _ _) hs1
      refine (spec_runlined a l0_0 cap b l0_1 bcap (intsOf cs0_0 (l0_0 * 3)) (intsOf cs0_1 (l0_1 * 4)) a1 W (by show _ = _; rw [intsOf_len]) h0 (holds_ints hh HF3) (by show _ = _; rw [intsOf_len]) h1 (holds_ints hb HF4) R HR).mono (fun e W' q => ?_)
      exact ⟨none, 0, q.2.1 hR, ⟨none, 0, rfl, (fun q => by cases q), Or.inl (by decide)⟩, q.1⟩
    · intro W a cap b bcap hh hb
      have h0 : l0_0 ≤ 1048576 := Nat.le_trans (Nat.le_add_right _ _) hs
      have h1 : l0_1 ≤ 1048576 := Nat.le_trans (Nat.le_add_right _ _) hs1
      refine (impl_runlined a l0_0 cap b l0_1 bcap (intsOf cs0_0 (l0_0 * 3)) (intsOf cs0_1 (l0_1 * 4)) a1 W (by show _ = _; rw [intsOf_len]) h0 (holds_ints hh HF3) (by show _ = _; rw [intsOf_len]) h1 (holds_ints hb HF4) R HR).mono (fun e W' q => ?_)
      exact ⟨none, 0, fun _ => False, q.2.1 hR, ⟨none, 0, rfl, (fun q => by cases q), Or.inl (by decide)⟩, (fun x q => q.elim), q.1⟩
  | some p =>
    obtain ⟨G, u, d⟩ := p
    have h200 : G.length ≤ 200 := line_few (HR.out.trans hR)
    refine walk_of a0_0 cap0_0 a0_1 cap0_1 l0_0 cs0_0 l0_1 cs0_1 a1 G.length (fun i => .n (G.getD i 0)) u (d : Int) true w f0_0 n0_0 h0_0 f0_1 n0_1 h0_1 ⟨rfl, fun i hi => trivial⟩ (by show _ + sumTo _ _ ≤ 100000; rw [sz_flat _ (fun i _ => ⟨_, rfl⟩)]; omega) (fun hs hs1 => ?_) (fun hs hs1 => ?_)
    · intro W a cap b bcap hh hb
      have h0 : l0_0 ≤ 1048576 := Nat.le_trans (Nat.le_add_right _ _) hs
      have h1 : l0_1 ≤ 1048576 := Nat.le_trans (Nat.le_add_right _ _) hs1
      refine (spec_runlined a l0_0 cap b l0_1 bcap (intsOf cs0_0 (l0_0 * 3)) (intsOf cs0_1 (l0_1 * 4)) a1 W (by show _ = _; rw [intsOf_len]) h0 (holds_ints hh HF3) (by show _ = _; rw [intsOf_len]) h1 (holds_ints hb HF4) R HR).mono (fun e W' q => ?_)
      obtain ⟨v, q2, hO⟩ := q.2.2 G u d hR
      obtain ⟨g, dd, rfl, ho⟩ := ints_row (n := G.length) hO (es := fun i => .n (G.getD i 0)) rfl (fun i hi => rfl)
      exact ⟨g, dd, q2, ho.holds, q.1⟩
    · intro W a cap b bcap hh hb
      have h0 : l0_0 ≤ 1048576 := Nat.le_trans (Nat.le_add_right _ _) hs
      have h1 : l0_1 ≤ 1048576 := Nat.le_trans (Nat.le_add_right _ _) hs1
      refine (impl_runlined a l0_0 cap b l0_1 bcap (intsOf cs0_0 (l0_0 * 3)) (intsOf cs0_1 (l0_1 * 4)) a1 W (by show _ = _; rw [intsOf_len]) h0 (holds_ints hh HF3) (by show _ = _; rw [intsOf_len]) h1 (holds_ints hb HF4) R HR).mono (fun e W' q => ?_)
      obtain ⟨v, q2, hO⟩ := q.2.2 G u d hR
      obtain ⟨g, dd, rfl, ho⟩ := ints_row (n := G.length) hO (es := fun i => .n (G.getD i 0)) rfl (fun i hi => rfl)
      exact ⟨g, dd, _, q2, ho, (fun x e => World.ownsRow.lt hO x e), q.1⟩

theorem arr_of2 {c : Array Value} (h : c.size = 2) : ∃ q0 q1, c = #[q0, q1] := by
  rcases c with ⟨l⟩
  match l, h with
  | [q0, q1], _ => exact ⟨q0, q1, rfl⟩
set_option maxRecDepth 100000 in
set_option maxHeartbeats 4000000 in
theorem lifted (os : Os) (started : os.Started) (H : Type) (enc : TypeId × Value → H) :
    ReturnsInHanded {} Try.checked os 5 .any (Rows.fnExactRunLinedSpec.pre6 enc Try.prog Try.f5 Rows.fnExactRunLinedRow.domain false) (Rows.fnExactRunLinedSpec.post enc Try.prog Try.f5 false true false false) := by
  refine returnsInHanded_of_change_sized (C := Try.checked) own started (by kernel_rfl) Try.func5
    (ChangeSpec.witness6 (enc := enc) (C := Try.checked) false ⟨#[], #[.agg #[.slice none 0 0, .slice none 0 0], .int .i64 0], []⟩ 8 (by kernel_rfl) (by kernel_rfl) (by kernel_rfl) (by kernel_rfl)) ?_
  intro W base args ds gs before hval0 hW hcnd hsz0 _
  have hval : ∀ (j : Nat) t v, Try.f5.params[j]? = some t → args[j]? = some v → Value.okWide Try.prog W .any base t v := hval0
  have hW' := hW
  obtain ⟨p, q, hA0, hV, rfl, hfz, hnd⟩ := hW
  have hsz : (DataW.weightsEach Try.prog (Try.f5.params.toList ++ Rows.fnExactRunLinedSpec.plain.varTypes Try.prog) (ds ++ gs)).all (· ≤ reachBytes) = true := hsz0
  have hA : DataW.TrodAll enc Try.prog W 0 (fun _ => true) true Try.f5.params.toList args.toList ds p := hA0
  rw [Try.params5] at hA hval hsz
  obtain ⟨v0, vs0, d0, ds0, p0, q0, hargs, rfl, rfl, h0, r0⟩ := trodAll_cons hA
  obtain ⟨v1, vs1, d1, ds1, p1, q1, rfl, rfl, rfl, h1, r1⟩ := trodAll_cons r0
  obtain ⟨rfl, rfl, rfl⟩ := trodAll_nil r1
  obtain rfl : args = #[v0, v1] := by cases args; simp_all
  obtain ⟨rfl, rfl⟩ := trodVars_none hV
  have k0 := h0
  have lt0 : ∀ x ∈ p0, x.block < W.heap.size := by obtain ⟨m, hm⟩ := k0; exact DataW.trod_lt m _ _ _ hm
  obtain ⟨arr0, rfl, hsz0, hrow0⟩ := open_row (n := 2) (e := fun i => match i with | 0 => shLStepS | _ => shGuardS) Try.underlying45 (show Try.prog.cellsOf 45 = 2 by kernel_rfl) rfl (fun i f h => by
    match i, h with
    | 0, h => obtain rfl := Option.some.inj h; exact ⟨rfl, (show Try.prog.cellsOf 42 = 1 by kernel_rfl), ⟨118, Try.underlying42, (show Try.prog.cellsOf 118 = 3 by kernel_rfl), by decide, Or.inr ⟨_, Try.underlying118, rfl, (fun i f h => by
    match i, h with
    | 0, h => obtain rfl := Option.some.inj h; exact ⟨rfl, (show Try.prog.cellsOf 3 = 1 by kernel_rfl), Try.underlying3⟩
    | 1, h => obtain rfl := Option.some.inj h; exact ⟨rfl, (show Try.prog.cellsOf 3 = 1 by kernel_rfl), Try.underlying3⟩
    | 2, h => obtain rfl := Option.some.inj h; exact ⟨rfl, (show Try.prog.cellsOf 3 = 1 by kernel_rfl), Try.underlying3⟩
    | i + 3, h => simp at h)⟩⟩⟩
    | 1, h => obtain rfl := Option.some.inj h; exact ⟨rfl, (show Try.prog.cellsOf 43 = 1 by kernel_rfl), ⟨120, Try.underlying43, (show Try.prog.cellsOf 120 = 4 by kernel_rfl), by decide, Or.inr ⟨_, Try.underlying120, rfl, (fun i f h => by
    match i, h with
    | 0, h => obtain rfl := Option.some.inj h; exact ⟨rfl, (show Try.prog.cellsOf 3 = 1 by kernel_rfl), Try.underlying3⟩
    | 1, h => obtain rfl := Option.some.inj h; exact ⟨rfl, (show Try.prog.cellsOf 3 = 1 by kernel_rfl), Try.underlying3⟩
    | 2, h => obtain rfl := Option.some.inj h; exact ⟨rfl, (show Try.prog.cellsOf 3 = 1 by kernel_rfl), Try.underlying3⟩
    | 3, h => obtain rfl := Option.some.inj h; exact ⟨rfl, (show Try.prog.cellsOf 3 = 1 by kernel_rfl), Try.underlying3⟩
    | i + 4, h => simp at h)⟩⟩⟩
    | i + 2, h => simp at h) (hval 0 45 v0 rfl rfl) h0
  obtain ⟨c0_0, c0_1, rfl⟩ := arr_of2 hsz0
  obtain ⟨d0_0, u0_0, e0_0, hh0_0, ff0_0, ll0_0⟩ := hrow0 0 (by decide)
  obtain rfl : c0_0 = u0_0 := Option.some.inj e0_0
  obtain ⟨l0_0, cs0_0, rfl, _⟩ := Fits.list ff0_0
  obtain ⟨a0_0, cap0_0, rfl, _⟩ := hh0_0.slice
  have w0_0 := hh0_0
  have f0_0 := ff0_0
  have n0_0 := ll0_0
  obtain ⟨d0_1, u0_1, e0_1, hh0_1, ff0_1, ll0_1⟩ := hrow0 1 (by decide)
  obtain rfl : c0_1 = u0_1 := Option.some.inj e0_1
  obtain ⟨l0_1, cs0_1, rfl, _⟩ := Fits.list ff0_1
  obtain ⟨a0_1, cap0_1, rfl, _⟩ := hh0_1.slice
  have w0_1 := hh0_1
  have f0_1 := ff0_1
  have n0_1 := ll0_1
  have k1 := h1
  have lt1 : ∀ x ∈ p1, x.block < W.heap.size := by obtain ⟨m, hm⟩ := k1; exact DataW.trod_lt m _ _ _ hm
  obtain ⟨a1, rfl, rfl, rfl, w1⟩ := open_int Try.underlying3 (hval 1 3 v1 rfl rfl) h1
  clear hA0 hval0
  refine (walk a0_0 l0_0 cap0_0 cs0_0 a0_1 l0_1 cap0_1 cs0_1 a1 w1 W w0_0 f0_0 n0_0 w0_1 f0_1 n0_1).mono fun e W' ⟨he, bel⟩ => ?_
  subst he
  exact ⟨_, rfl, _, _, _, [], _, [], hW', trodAll_mk1 (shut_bool Try.underlying4 _), (trodAll_cons_mk (Below.trod laidOut (by kernel_rfl) (of_decide_eq_true (by kernel_rfl)) k0 bel lt0) (trodAll_cons_mk (Below.trod laidOut (by kernel_rfl) (of_decide_eq_true (by kernel_rfl)) k1 bel lt1) trodAll_mk0)), rfl, bel.frame _, fun h => by cases h⟩

theorem over : Rows.fnExactRunLinedRow.holds Try.pinned (OpenSpec.ofChange Rows.fnExactRunLinedSpec) :=
  OpenClaim.holds_of_wide 5 Try.f5 rfl rfl rfl rfl rfl rfl rfl ⟨rfl, rfl, rfl, rfl, rfl⟩ rfl rfl rfl rfl rfl (by kernel_rfl) Try.func5 (by kernel_rfl)
    (of_decide_eq_true (by kernel_rfl)) (by unfold Func.isWrapper; first | (rw [if_pos (by decide +kernel)]; kernel_rfl) | (rw [if_neg (by decide +kernel)]; exact ⟨rfl, rfl⟩))
    (fun os started H enc _ => lifted os started H enc)

theorem proved : Rows.FnExactRunLinedSaid :=
  over
#print axioms proved
end Go.Proofs.Ytlocdlgbjjbnoaa.fnExactRunLined
