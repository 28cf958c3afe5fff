/-
  At every argument GuardAt answers as the specification; it writes into no argument and keeps nothing of one.
-/
import Derived.Test.YtbjfhcbgghpdaaaRows
import Derived.WalkKit
import Derived.ProofKit
import Derived.OpenShut
import Derived.ShutString
import Derived.ChangeOld
import Derived.Below
import Derived.Carry
import Derived.Deep.RegionHeld3
import Derived.SizedLaws
import Derived.Test.YtbjfhcbgghpdaaaMagMath
import Derived.Test.YtbjfhcbgghpdaaaInts
import Derived.Test.YtbjfhcbgghpdaaaDeep
import Derived.Test.YtbjfhcbgghpdaaaDeepOpen
import Derived.Test.YtbjfhcbgghpdaaaDeepRow
import Derived.Test.YtbjfhcbgghpdaaaDeepL
import Derived.Test.YtbjfhcbgghpdaaaLineData
import Derived.Test.YtbjfhcbgghpdaaaLineMath
import Derived.Test.YtbjfhcbgghpdaaaLineStep
import Derived.Test.YtbjfhcbgghpdaaaLineGd
import Derived.Test.YtbjfhcbgghpdaaaLineGood
import Derived.Test.YtbjfhcbgghpdaaaLineGuard
namespace Go.Proofs.Ytbjfhcbgghpdaaa.fnExactGuardAt
open Go.ChangeShapes Go.WideShapes Go.ChangeAt Go.RowKit
open Go.ChangeMaps (open_string shut_string)
open Go.Proofs.Ytbjfhcbgghpdaaa.math
open Go.Proofs.Ytbjfhcbgghpdaaa.ints
open Go.Proofs.Ytbjfhcbgghpdaaa.deep
open Go.Proofs.Ytbjfhcbgghpdaaa.walks
open Go.Proofs.Ytbjfhcbgghpdaaa.deep
set_option linter.unusedVariables false

theorem own : ownKnob Try.prog.godebug = none := by kernel_rfl
theorem laidOut : laidOutB Try.prog = true := by kernel_rfl

def SpecTells (l0_0 : Nat) (cs0_0 : Nat → Dv) (l0_1 : Nat) (cs0_1 : Nat → Dv) (x1 : Int) (x2 : Int) (xr0 : Int) (xr1 : Bool) : Prop := ∀ (W : World) (a0_0 : Option Addr) (cap0_0 : Nat) (a0_1 : Option Addr) (cap0_1 : Nat), Holds W true (.l l0_0 3 cs0_0) (.slice a0_0 l0_0 cap0_0) → Holds W true (.l l0_1 4 cs0_1) (.slice a0_1 l0_1 cap0_1) → Calls Try.prog 17 #[.agg #[.slice a0_0 l0_0 cap0_0, .slice a0_1 l0_1 cap0_1], .int .i64 x1, .int .i64 x2] W fun e W' => e = .returned (.tuple #[.int .i64 xr0, .bool xr1]) ∧ Below W.heap.size W W'
def ImplTells (l0_0 : Nat) (cs0_0 : Nat → Dv) (l0_1 : Nat) (cs0_1 : Nat → Dv) (x1 : Int) (x2 : Int) (xr0 : Int) (xr1 : Bool) : Prop := ∀ (W : World) (a0_0 : Option Addr) (cap0_0 : Nat) (a0_1 : Option Addr) (cap0_1 : Nat), Holds W true (.l l0_0 3 cs0_0) (.slice a0_0 l0_0 cap0_0) → Holds W true (.l l0_1 4 cs0_1) (.slice a0_1 l0_1 cap0_1) → Calls Try.prog 18 #[.agg #[.slice a0_0 l0_0 cap0_0, .slice a0_1 l0_1 cap0_1], .int .i64 x1, .int .i64 x2] W fun e W' => e = .returned (.tuple #[.int .i64 xr0, .bool xr1]) ∧ Below W.heap.size W W'
set_option maxHeartbeats 16000000 in
set_option maxRecDepth 100000 in
theorem walk_of (a0_0 : Option Addr) (cap0_0 : Nat) (a0_1 : Option Addr) (cap0_1 : Nat) (l0_0 : Nat) (cs0_0 : Nat → Dv) (l0_1 : Nat) (cs0_1 : Nat → Dv) (x1 : Int) (x2 : Int) (xr0 : Int) (xr1 : Bool) (w : World) (hf0_0 : Hid (Fits shLStepS (.l l0_0 3 cs0_0))) (hn0_0 : Hid (Lens (.l l0_0 3 cs0_0))) (h0_0 : Hid (Holds w false (.l l0_0 3 cs0_0) (.slice a0_0 l0_0 cap0_0))) (hf0_1 : Hid (Fits shGuardS (.l l0_1 4 cs0_1))) (hn0_1 : Hid (Lens (.l l0_1 4 cs0_1))) (h0_1 : Hid (Holds w false (.l l0_1 4 cs0_1) (.slice a0_1 l0_1 cap0_1))) (Hs : Hid (szD (.l l0_0 3 cs0_0) ≤ 1048576 → szD (.l l0_1 4 cs0_1) ≤ 1048576 → SpecTells l0_0 cs0_0 l0_1 cs0_1 x1 x2 xr0 xr1)) (Hi : Hid (szD (.l l0_0 3 cs0_0) ≤ 1048576 → szD (.l l0_1 4 cs0_1) ≤ 1048576 → ImplTells l0_0 cs0_0 l0_1 cs0_1 x1 x2 xr0 xr1)) :
    Calls Try.prog 5 #[.agg #[.slice a0_0 l0_0 cap0_0, .slice a0_1 l0_1 cap0_1], .int .i64 x1, .int .i64 x2] w fun e w' => e = .returned (.bool true) ∧ Below w.heap.size w w' := by
  have pe0 : (xr0 != xr0) = false := by simp
  have pe1 : (xr1 != xr1) = false := by cases xr1 <;> rfl
  go_enter Try.func5, Try.ntmps5
  obtain ⟨z0_0, HZ0_0⟩ : ∃ z, Hid (szD (.l l0_0 3 cs0_0) = z) := ⟨_, rfl⟩
  obtain ⟨z0_1, HZ0_1⟩ : ∃ z, Hid (szD (.l l0_1 4 cs0_1) = z) := ⟨_, rfl⟩
  go_wp2_with fail
  obtain ⟨w1, EWw1⟩ : ∃ X, X = w.alloc (.cells #[.slice a0_0 l0_0 cap0_0, .slice a0_1 l0_1 cap0_1] 32) := ⟨_, rfl⟩
  rw [← EWw1]
  have hB : Below w.heap.size w w1 := by rw [EWw1]; exact (Below.refl _ _).alloc (Nat.le_refl _) _
  have ESw1 : w1.heap.size = w.heap.size + 1 := by rw [EWw1]; simp
  have BXP0_1 : Hid (w1.rowIs (w.heap.size) 32 2 (rowF [.slice a0_0 l0_0 cap0_0, .slice a0_1 l0_1 cap0_1])) := by
    have q := row_of w #[.slice a0_0 l0_0 cap0_0, .slice a0_1 l0_1 cap0_1] 32
    rw [EWw1]; exact q
  have LTP0 : Hid (w.heap.size < w1.heap.size) := BXP0_1.out.lt
  have ADP0 : Hid (w.heap.size = w.heap.size) := by show _ = _; rfl
  have BW1 : Hid (Below w.heap.size w w1) := hB
  have SZ1 : Hid (w.heap.size ≤ w1.heap.size) := hB.size
  clear hB EWw1
  clear ESw1
  refine (Lined_size _ _ _ cs0_0 _ _ _ cs0_1 (1048576) false _ hf0_0 hn0_0 (h0_0.out.kept BW1.out) hf0_1 hn0_1 (h0_1.out.kept BW1.out) (by omega) (by omega)).mono ?_
  rw [HZ0_0.out, HZ0_1.out]
  rintro e w2 ⟨rfl, hB⟩
  have BW2 : Hid (Below w.heap.size w w2) := BW1.out.trans (hB.mono BW1.out.size)
  have SZ2 : Hid (w1.heap.size ≤ w2.heap.size) := hB.size
  have BXP0_2 : Hid (w2.rowIs (w.heap.size) 32 2 (rowF [.slice a0_0 l0_0 cap0_0, .slice a0_1 l0_1 cap0_1])) := BXP0_1.out.of_block (hB.block _ BXP0_1.out.lt)
  clear hB
  by_cases ok0 : (z0_0 : Int) + (z0_1 : Int) ≤ 1048576
  rotate_left
  · rw [if_neg ok0]
    go_wp2
    go_ret
    exact ⟨rfl, BW2.out⟩
  rw [if_pos ok0]
  have left0 : 0 ≤ 1048576 - ((z0_0 : Int) + (z0_1 : Int)) := by omega
  have hs0_0 : Hid (szD (.l l0_0 3 cs0_0) ≤ 1048576) := by show _ ≤ _; rw [HZ0_0.out]; omega
  have hs0_1 : Hid (szD (.l l0_1 4 cs0_1) ≤ 1048576) := by show _ ≤ _; rw [HZ0_1.out]; omega
  have HS : Hid (SpecTells l0_0 cs0_0 l0_1 cs0_1 x1 x2 xr0 xr1) := Hs.out hs0_0.out hs0_1.out
  have HI : Hid (ImplTells l0_0 cs0_0 l0_1 cs0_1 x1 x2 xr0 xr1) := Hi.out hs0_0.out hs0_1.out
  clear Hs Hi
  have blP0 : w.heap.size < w2.heap.size := BXP0_2.out.lt
  have bcP0_0 : w2.cell? ⟨w.heap.size, 0, none⟩ = some (.slice a0_0 l0_0 cap0_0) := BXP0_2.out.cell (i := 0) (by decide)
  have bcP0_1 : w2.cell? ⟨w.heap.size, 1, none⟩ = some (.slice a0_1 l0_1 cap0_1) := BXP0_2.out.cell (i := 1) (by decide)
  go_wp2_with fail
  clear blP0 bcP0_0 bcP0_1
  refine (Lined_to _ _ _ cs0_0 _ _ _ cs0_1 false _ hf0_0 hs0_0 (h0_0.out.kept BW2.out) hf0_1 hs0_1 (h0_1.out.kept BW2.out)).mono ?_
  rintro e w3 ⟨Ag0_0, Ag0_1, Ap0_1, rfl, hO0_0, hO0_1, hle0, hle1, hB⟩
  have A0_0_3 : Hid (Owns w3 true w2.heap.size (.l l0_0 3 cs0_0) (.slice (some ⟨Ag0_0, 0, none⟩) l0_0 l0_0) (rng w2.heap.size Ap0_1)) := hO0_0
  have A0_1_3 : Hid (Owns w3 true w2.heap.size (.l l0_1 4 cs0_1) (.slice (some ⟨Ag0_1, 0, none⟩) l0_1 l0_1) (rng Ap0_1 w3.heap.size)) := hO0_1
  have BW3 : Hid (Below w.heap.size w w3) := BW2.out.trans (hB.mono BW2.out.size)
  have SZ3 : Hid (w2.heap.size ≤ w3.heap.size) := hB.size
  have BXP0_3 : Hid (w3.rowIs (w.heap.size) 32 2 (rowF [.slice a0_0 l0_0 cap0_0, .slice a0_1 l0_1 cap0_1])) := BXP0_2.out.of_block (hB.block _ BXP0_2.out.lt)
  clear hB hO0_0 hO0_1
  have Ale0_0 : Hid (w2.heap.size ≤ Ap0_1) := hle0
  clear hle0
  have Ale0_1 : Hid (Ap0_1 ≤ w3.heap.size) := hle1
  clear hle1
  have blP0 : w.heap.size < w3.heap.size := BXP0_3.out.lt
  have bcP0_0 : w3.cell? ⟨w.heap.size, 0, none⟩ = some (.slice a0_0 l0_0 cap0_0) := BXP0_3.out.cell (i := 0) (by decide)
  have bcP0_1 : w3.cell? ⟨w.heap.size, 1, none⟩ = some (.slice a0_1 l0_1 cap0_1) := BXP0_3.out.cell (i := 1) (by decide)
  go_wp2_with fail
  clear blP0 bcP0_0 bcP0_1
  refine (HS.out _ _ _ _ _ A0_0_3.out.holds A0_1_3.out.holds).mono ?_
  rintro e w4 ⟨rfl, hB⟩
  have BW4 : Hid (Below w.heap.size w w4) := BW3.out.trans (hB.mono BW3.out.size)
  have SZ4 : Hid (w3.heap.size ≤ w4.heap.size) := hB.size
  have BXP0_4 : Hid (w4.rowIs (w.heap.size) 32 2 (rowF [.slice a0_0 l0_0 cap0_0, .slice a0_1 l0_1 cap0_1])) := BXP0_3.out.of_block (hB.block _ BXP0_3.out.lt)
  clear hB
  have blP0 : w.heap.size < w4.heap.size := BXP0_4.out.lt
  have bcP0_0 : w4.cell? ⟨w.heap.size, 0, none⟩ = some (.slice a0_0 l0_0 cap0_0) := BXP0_4.out.cell (i := 0) (by decide)
  have bcP0_1 : w4.cell? ⟨w.heap.size, 1, none⟩ = some (.slice a0_1 l0_1 cap0_1) := BXP0_4.out.cell (i := 1) (by decide)
  go_wp2_with fail
  clear blP0 bcP0_0 bcP0_1
  refine (Lined_to _ _ _ cs0_0 _ _ _ cs0_1 false _ hf0_0 hs0_0 (h0_0.out.kept BW4.out) hf0_1 hs0_1 (h0_1.out.kept BW4.out)).mono ?_
  rintro e w5 ⟨Xg0_0, Xg0_1, Xp0_1, rfl, hO0_0, hO0_1, hle0, hle1, hB⟩
  have X0_0_5 : Hid (Owns w5 true w4.heap.size (.l l0_0 3 cs0_0) (.slice (some ⟨Xg0_0, 0, none⟩) l0_0 l0_0) (rng w4.heap.size Xp0_1)) := hO0_0
  have X0_1_5 : Hid (Owns w5 true w4.heap.size (.l l0_1 4 cs0_1) (.slice (some ⟨Xg0_1, 0, none⟩) l0_1 l0_1) (rng Xp0_1 w5.heap.size)) := hO0_1
  have BW5 : Hid (Below w.heap.size w w5) := BW4.out.trans (hB.mono BW4.out.size)
  have SZ5 : Hid (w4.heap.size ≤ w5.heap.size) := hB.size
  have BS5 : Hid (Below w4.heap.size w4 w5) := hB
  have BXP0_5 : Hid (w5.rowIs (w.heap.size) 32 2 (rowF [.slice a0_0 l0_0 cap0_0, .slice a0_1 l0_1 cap0_1])) := BXP0_4.out.of_block (hB.block _ BXP0_4.out.lt)
  clear hB hO0_0 hO0_1
  have Xle0_0 : Hid (w4.heap.size ≤ Xp0_1) := hle0
  clear hle0
  have Xle0_1 : Hid (Xp0_1 ≤ w5.heap.size) := hle1
  clear hle1
  have blP0 : w.heap.size < w5.heap.size := BXP0_5.out.lt
  have bcP0_0 : w5.cell? ⟨w.heap.size, 0, none⟩ = some (.slice a0_0 l0_0 cap0_0) := BXP0_5.out.cell (i := 0) (by decide)
  have bcP0_1 : w5.cell? ⟨w.heap.size, 1, none⟩ = some (.slice a0_1 l0_1 cap0_1) := BXP0_5.out.cell (i := 1) (by decide)
  go_wp2_with fail
  clear blP0 bcP0_0 bcP0_1
  obtain ⟨w6, EWw6⟩ : ∃ X, X = w5.alloc (.cells #[.slice (some ⟨Xg0_0, 0, none⟩) l0_0 l0_0, .slice (some ⟨Xg0_1, 0, none⟩) l0_1 l0_1] 38) := ⟨_, rfl⟩
  rw [← EWw6]
  have hB : Below w5.heap.size w5 w6 := by rw [EWw6]; exact (Below.refl _ _).alloc (Nat.le_refl _) _
  have ESw6 : w6.heap.size = w5.heap.size + 1 := by rw [EWw6]; simp
  have BXX0_6 : Hid (w6.rowIs (w5.heap.size) 38 2 (rowF [.slice (some ⟨Xg0_0, 0, none⟩) l0_0 l0_0, .slice (some ⟨Xg0_1, 0, none⟩) l0_1 l0_1])) := by
    have q := row_of w5 #[.slice (some ⟨Xg0_0, 0, none⟩) l0_0 l0_0, .slice (some ⟨Xg0_1, 0, none⟩) l0_1 l0_1] 38
    rw [EWw6]; exact q
  have LTX0 : Hid (w5.heap.size < w6.heap.size) := BXX0_6.out.lt
  have ADX0 : Hid (w5.heap.size = w5.heap.size) := by show _ = _; rfl
  have BW6 : Hid (Below w.heap.size w w6) := BW5.out.trans (hB.mono BW5.out.size)
  have SZ6 : Hid (w5.heap.size ≤ w6.heap.size) := hB.size
  have BS6 : Hid (Below w4.heap.size w4 w6) := BS5.out.trans (hB.mono BS5.out.size)
  have X0_0_6 : Hid (Owns w6 true w4.heap.size (.l l0_0 3 cs0_0) (.slice (some ⟨Xg0_0, 0, none⟩) l0_0 l0_0) (rng w4.heap.size Xp0_1)) := X0_0_5.out.kept hB
  have X0_1_6 : Hid (Owns w6 true w4.heap.size (.l l0_1 4 cs0_1) (.slice (some ⟨Xg0_1, 0, none⟩) l0_1 l0_1) (rng Xp0_1 w5.heap.size)) := X0_1_5.out.kept hB
  have BXP0_6 : Hid (w6.rowIs (w.heap.size) 32 2 (rowF [.slice a0_0 l0_0 cap0_0, .slice a0_1 l0_1 cap0_1])) := BXP0_5.out.of_block (hB.block _ BXP0_5.out.lt)
  clear hB EWw6
  clear ESw6
  refine (HI.out _ _ _ _ _ X0_0_6.out.holds X0_1_6.out.holds).mono ?_
  rintro e w7 ⟨rfl, hB⟩
  have BW7 : Hid (Below w.heap.size w w7) := BW6.out.trans (hB.mono BW6.out.size)
  have SZ7 : Hid (w6.heap.size ≤ w7.heap.size) := hB.size
  have BS7 : Hid (Below w4.heap.size w4 w7) := BS6.out.trans (hB.mono BS6.out.size)
  have X0_0_7 : Hid (Owns w7 true w4.heap.size (.l l0_0 3 cs0_0) (.slice (some ⟨Xg0_0, 0, none⟩) l0_0 l0_0) (rng w4.heap.size Xp0_1)) := X0_0_6.out.kept hB
  have X0_1_7 : Hid (Owns w7 true w4.heap.size (.l l0_1 4 cs0_1) (.slice (some ⟨Xg0_1, 0, none⟩) l0_1 l0_1) (rng Xp0_1 w5.heap.size)) := X0_1_6.out.kept hB
  have BXP0_7 : Hid (w7.rowIs (w.heap.size) 32 2 (rowF [.slice a0_0 l0_0 cap0_0, .slice a0_1 l0_1 cap0_1])) := BXP0_6.out.of_block (hB.block _ BXP0_6.out.lt)
  have BXX0_7 : Hid (w7.rowIs (w5.heap.size) 38 2 (rowF [.slice (some ⟨Xg0_0, 0, none⟩) l0_0 l0_0, .slice (some ⟨Xg0_1, 0, none⟩) l0_1 l0_1])) := BXX0_6.out.of_block (hB.block _ BXX0_6.out.lt)
  clear hB
  have blP0 : w.heap.size < w7.heap.size := BXP0_7.out.lt
  have bcP0_0 : w7.cell? ⟨w.heap.size, 0, none⟩ = some (.slice a0_0 l0_0 cap0_0) := BXP0_7.out.cell (i := 0) (by decide)
  have bcP0_1 : w7.cell? ⟨w.heap.size, 1, none⟩ = some (.slice a0_1 l0_1 cap0_1) := BXP0_7.out.cell (i := 1) (by decide)
  have blX0 : w5.heap.size < w7.heap.size := BXX0_7.out.lt
  have bcX0_0 : w7.cell? ⟨w5.heap.size, 0, none⟩ = some (.slice (some ⟨Xg0_0, 0, none⟩) l0_0 l0_0) := BXX0_7.out.cell (i := 0) (by decide)
  have bcX0_1 : w7.cell? ⟨w5.heap.size, 1, none⟩ = some (.slice (some ⟨Xg0_1, 0, none⟩) l0_1 l0_1) := BXX0_7.out.cell (i := 1) (by decide)
  go_wp2_with fail
  clear blP0 bcP0_0 bcP0_1 blX0 bcX0_0 bcX0_1
  have BD7 : Hid (Below w.heap.size w w7.drew) := BW7.out.drew
  have qs7 : w7.cell? ⟨w5.heap.size, 0, none⟩ = some (.slice (some ⟨Xg0_0, 0, none⟩) l0_0 l0_0) ∧ w7.cell? ⟨w5.heap.size, 1, none⟩ = some (.slice (some ⟨Xg0_1, 0, none⟩) l0_1 l0_1) ∧ w7.cell? ⟨w.heap.size, 0, none⟩ = some (.slice a0_0 l0_0 cap0_0) ∧ w7.cell? ⟨w.heap.size, 1, none⟩ = some (.slice a0_1 l0_1 cap0_1) := ⟨(BXX0_7.out).cell (i := 0) (by decide), (BXX0_7.out).cell (i := 1) (by decide), (BXP0_7.out).cell (i := 0) (by decide), (BXP0_7.out).cell (i := 1) (by decide)⟩
  have qd7 : w7.drew.cell? ⟨w5.heap.size, 0, none⟩ = some (.slice (some ⟨Xg0_0, 0, none⟩) l0_0 l0_0) ∧ w7.drew.cell? ⟨w5.heap.size, 1, none⟩ = some (.slice (some ⟨Xg0_1, 0, none⟩) l0_1 l0_1) ∧ w7.drew.cell? ⟨w.heap.size, 0, none⟩ = some (.slice a0_0 l0_0 cap0_0) ∧ w7.drew.cell? ⟨w.heap.size, 1, none⟩ = some (.slice a0_1 l0_1 cap0_1) := qs7
  go_region_held3 (fun w' => w'.cell? ⟨w5.heap.size, 0, none⟩ = some (.slice (some ⟨Xg0_0, 0, none⟩) l0_0 l0_0) ∧ w'.cell? ⟨w5.heap.size, 1, none⟩ = some (.slice (some ⟨Xg0_1, 0, none⟩) l0_1 l0_1) ∧ w'.cell? ⟨w.heap.size, 0, none⟩ = some (.slice a0_0 l0_0 cap0_0) ∧ w'.cell? ⟨w.heap.size, 1, none⟩ = some (.slice a0_1 l0_1 cap0_1)) (first | assumption | exact qs7 | exact qd7 | exact qs8 | exact qs9 | go_keep) (first
    | (go_at_call 14; refine (Lined_to _ _ _ cs0_0 _ _ _ cs0_1 false _ hf0_0 hs0_0 (h0_0.out.kept BD7.out) hf0_1 hs0_1 (h0_1.out.kept BD7.out)).mono ?_; rintro e w8 ⟨Zg0_0, Zg0_1, Zp0_1, rfl, hO0_0, hO0_1, hle0, hle1, hB⟩; have BW8 : Hid (Below w.heap.size w w8) := BD7.out.trans (hB.mono BD7.out.size); have SZ8 : Hid (w7.heap.size ≤ w8.heap.size) := hB.size; have BS8 : Hid (Below w4.heap.size w4 w8) := BS7.out.drew.trans (hB.mono BS7.out.drew.size); have X0_0_8 : Hid (Owns w8 true w4.heap.size (.l l0_0 3 cs0_0) (.slice (some ⟨Xg0_0, 0, none⟩) l0_0 l0_0) (rng w4.heap.size Xp0_1)) := (X0_0_7.out.kept (Below.refl _ _).drew).kept hB; have X0_1_8 : Hid (Owns w8 true w4.heap.size (.l l0_1 4 cs0_1) (.slice (some ⟨Xg0_1, 0, none⟩) l0_1 l0_1) (rng Xp0_1 w5.heap.size)) := (X0_1_7.out.kept (Below.refl _ _).drew).kept hB; have BXP0_8 : Hid (w8.rowIs (w.heap.size) 32 2 (rowF [.slice a0_0 l0_0 cap0_0, .slice a0_1 l0_1 cap0_1])) := BXP0_7.out.of_block (hB.block _ BXP0_7.out.lt); have BXX0_8 : Hid (w8.rowIs (w5.heap.size) 38 2 (rowF [.slice (some ⟨Xg0_0, 0, none⟩) l0_0 l0_0, .slice (some ⟨Xg0_1, 0, none⟩) l0_1 l0_1])) := BXX0_7.out.of_block (hB.block _ BXX0_7.out.lt); have Z0_0_8 : Hid (Holds w8 true (.l l0_0 3 cs0_0) (.slice (some ⟨Zg0_0, 0, none⟩) l0_0 l0_0)) := hO0_0.holds; have Z0_1_8 : Hid (Holds w8 true (.l l0_1 4 cs0_1) (.slice (some ⟨Zg0_1, 0, none⟩) l0_1 l0_1)) := hO0_1.holds; have qs8 : w8.cell? ⟨w5.heap.size, 0, none⟩ = some (.slice (some ⟨Xg0_0, 0, none⟩) l0_0 l0_0) ∧ w8.cell? ⟨w5.heap.size, 1, none⟩ = some (.slice (some ⟨Xg0_1, 0, none⟩) l0_1 l0_1) ∧ w8.cell? ⟨w.heap.size, 0, none⟩ = some (.slice a0_0 l0_0 cap0_0) ∧ w8.cell? ⟨w.heap.size, 1, none⟩ = some (.slice a0_1 l0_1 cap0_1) := ⟨(BXX0_8.out).cell (i := 0) (by decide), (BXX0_8.out).cell (i := 1) (by decide), (BXP0_8.out).cell (i := 0) (by decide), (BXP0_8.out).cell (i := 1) (by decide)⟩; clear hB hO0_0 hO0_1 hle0 hle1)
    | (go_at_call 16; refine (Lined_eq _ _ _ cs0_0 _ _ _ cs0_1 _ _ _ _ _ _ _ hf0_0 hs0_0 X0_0_8.out.holds hf0_1 hs0_1 X0_1_8.out.holds Z0_0_8 Z0_1_8).mono ?_; rintro e w9 ⟨rfl, hB⟩; have BW9 : Hid (Below w.heap.size w w9) := BW8.out.trans (hB.mono BW8.out.size); have SZ9 : Hid (w8.heap.size ≤ w9.heap.size) := hB.size; have BS9 : Hid (Below w4.heap.size w4 w9) := BS8.out.trans (hB.mono BS8.out.size); have X0_0_9 : Hid (Owns w9 true w4.heap.size (.l l0_0 3 cs0_0) (.slice (some ⟨Xg0_0, 0, none⟩) l0_0 l0_0) (rng w4.heap.size Xp0_1)) := X0_0_8.out.kept hB; have X0_1_9 : Hid (Owns w9 true w4.heap.size (.l l0_1 4 cs0_1) (.slice (some ⟨Xg0_1, 0, none⟩) l0_1 l0_1) (rng Xp0_1 w5.heap.size)) := X0_1_8.out.kept hB; have BXP0_9 : Hid (w9.rowIs (w.heap.size) 32 2 (rowF [.slice a0_0 l0_0 cap0_0, .slice a0_1 l0_1 cap0_1])) := BXP0_8.out.of_block (hB.block _ BXP0_8.out.lt); have BXX0_9 : Hid (w9.rowIs (w5.heap.size) 38 2 (rowF [.slice (some ⟨Xg0_0, 0, none⟩) l0_0 l0_0, .slice (some ⟨Xg0_1, 0, none⟩) l0_1 l0_1])) := BXX0_8.out.of_block (hB.block _ BXX0_8.out.lt); have qs9 : w9.cell? ⟨w5.heap.size, 0, none⟩ = some (.slice (some ⟨Xg0_0, 0, none⟩) l0_0 l0_0) ∧ w9.cell? ⟨w5.heap.size, 1, none⟩ = some (.slice (some ⟨Xg0_1, 0, none⟩) l0_1 l0_1) ∧ w9.cell? ⟨w.heap.size, 0, none⟩ = some (.slice a0_0 l0_0 cap0_0) ∧ w9.cell? ⟨w.heap.size, 1, none⟩ = some (.slice a0_1 l0_1 cap0_1) := ⟨(BXX0_9.out).cell (i := 0) (by decide), (BXX0_9.out).cell (i := 1) (by decide), (BXP0_9.out).cell (i := 0) (by decide), (BXP0_9.out).cell (i := 1) (by decide)⟩; clear hB))
  clear qs7 qd7 qs8 qs9
  go_wp2
  go_ret
  exact ⟨rfl, BW9.out⟩
theorem walk (a0_0 : Option Addr) (l0_0 cap0_0 : Nat) (cs0_0 : Nat → Dv) (a0_1 : Option Addr) (l0_1 cap0_1 : Nat) (cs0_1 : Nat → Dv) (a1 : Int) (w1 : (Lit.int .i64 a1).wf = true) (a2 : Int) (w2 : (Lit.int .i64 a2).wf = true) (w : World) (h0_0 : Holds w false (.l l0_0 3 cs0_0) (.slice a0_0 l0_0 cap0_0)) (f0_0 : Fits shLStepS (.l l0_0 3 cs0_0)) (n0_0 : Lens (.l l0_0 3 cs0_0)) (h0_1 : Holds w false (.l l0_1 4 cs0_1) (.slice a0_1 l0_1 cap0_1)) (f0_1 : Fits shGuardS (.l l0_1 4 cs0_1)) (n0_1 : Lens (.l l0_1 4 cs0_1)) :
    Calls Try.prog 5 #[.agg #[.slice a0_0 l0_0 cap0_0, .slice a0_1 l0_1 cap0_1], .int .i64 a1, .int .i64 a2] w fun e w' => e = .returned (.bool true) ∧ Below w.heap.size w w' := by
  have HF3 := fits_L3 f0_0
  have HF4 := fits_G4 f0_1
  refine walk_of a0_0 cap0_0 a0_1 cap0_1 l0_0 cs0_0 l0_1 cs0_1 a1 a2 (gaV (zf (intsOf cs0_0 (l0_0 * 3))) l0_0 (zf (intsOf cs0_1 (l0_1 * 4))) l0_1 a1 a2) (gaB (zf (intsOf cs0_0 (l0_0 * 3))) l0_0 (zf (intsOf cs0_1 (l0_1 * 4))) l0_1 a1 a2) w f0_0 n0_0 h0_0 f0_1 n0_1 h0_1 (fun hs hs1 => ?_) (fun hs hs1 => ?_)
  · intro W a cap b bcap hh hb
    have h0 : l0_0 ≤ 1048576 := Nat.le_trans (Nat.le_add_right _ _) hs
    have h1 : l0_1 ≤ 1048576 := Nat.le_trans (Nat.le_add_right _ _) hs1
    exact spec_guardat a l0_0 cap b l0_1 bcap (intsOf cs0_0 (l0_0 * 3)) (intsOf cs0_1 (l0_1 * 4)) a1 a2 W (by show _ = _; rw [intsOf_len]) h0 (holds_ints hh HF3) (by show _ = _; rw [intsOf_len]) h1 (holds_ints hb HF4)
  · intro W a cap b bcap hh hb
    have h0 : l0_0 ≤ 1048576 := Nat.le_trans (Nat.le_add_right _ _) hs
    have h1 : l0_1 ≤ 1048576 := Nat.le_trans (Nat.le_add_right _ _) hs1
    exact impl_guardat a l0_0 cap b l0_1 bcap (intsOf cs0_0 (l0_0 * 3)) (intsOf cs0_1 (l0_1 * 4)) a1 a2 W (by show _ = _; rw [intsOf_len]) h0 (holds_ints hh HF3) (by show _ = _; rw [intsOf_len]) h1 (holds_ints hb HF4)

theorem arr_of2 {c : Array Value} (h : c.size = 2) : ∃ q0 q1, c = #[q0, q1] := by
  rcases c with ⟨l⟩
  match l, h with
  | [q0, q1], _ => exact ⟨q0, q1, rfl⟩
set_option maxRecDepth 100000 in
set_option maxHeartbeats 4000000 in
theorem lifted (os : Os) (started : os.Started) (H : Type) (enc : TypeId × Value → H) :
    ReturnsInHanded {} Try.checked os 5 .any (Rows.fnExactGuardAtSpec.pre6 enc Try.prog Try.f5 Rows.fnExactGuardAtRow.domain false) (Rows.fnExactGuardAtSpec.post enc Try.prog Try.f5 false true false false) := by
  refine returnsInHanded_of_change_sized (C := Try.checked) own started (by kernel_rfl) Try.func5
    (ChangeSpec.witness6 (enc := enc) (C := Try.checked) false ⟨#[], #[.agg #[.slice none 0 0, .slice none 0 0], .int .i64 0, .int .i64 0], []⟩ 8 (by kernel_rfl) (by kernel_rfl) (by kernel_rfl) (by kernel_rfl)) ?_
  intro W base args ds gs before hval0 hW hcnd hsz0 _
  have hval : ∀ (j : Nat) t v, Try.f5.params[j]? = some t → args[j]? = some v → Value.okWide Try.prog W .any base t v := hval0
  have hW' := hW
  obtain ⟨p, q, hA0, hV, rfl, hfz, hnd⟩ := hW
  have hsz : (DataW.weightsEach Try.prog (Try.f5.params.toList ++ Rows.fnExactGuardAtSpec.plain.varTypes Try.prog) (ds ++ gs)).all (· ≤ reachBytes) = true := hsz0
  have hA : DataW.TrodAll enc Try.prog W 0 (fun _ => true) true Try.f5.params.toList args.toList ds p := hA0
  rw [Try.params5] at hA hval hsz
  obtain ⟨v0, vs0, d0, ds0, p0, q0, hargs, rfl, rfl, h0, r0⟩ := trodAll_cons hA
  obtain ⟨v1, vs1, d1, ds1, p1, q1, rfl, rfl, rfl, h1, r1⟩ := trodAll_cons r0
  obtain ⟨v2, vs2, d2, ds2, p2, q2, rfl, rfl, rfl, h2, r2⟩ := trodAll_cons r1
  obtain ⟨rfl, rfl, rfl⟩ := trodAll_nil r2
  obtain rfl : args = #[v0, v1, v2] := by cases args; simp_all
  obtain ⟨rfl, rfl⟩ := trodVars_none hV
  have k0 := h0
  have lt0 : ∀ x ∈ p0, x.block < W.heap.size := by obtain ⟨m, hm⟩ := k0; exact DataW.trod_lt m _ _ _ hm
  obtain ⟨arr0, rfl, hsz0, hrow0⟩ := open_row (n := 2) (e := fun i => match i with | 0 => shLStepS | _ => shGuardS) Try.underlying32 (show Try.prog.cellsOf 32 = 2 by kernel_rfl) rfl (fun i f h => by
    match i, h with
    | 0, h => obtain rfl := Option.some.inj h; exact ⟨rfl, (show Try.prog.cellsOf 29 = 1 by kernel_rfl), ⟨94, Try.underlying29, (show Try.prog.cellsOf 94 = 3 by kernel_rfl), by decide, Or.inr ⟨_, Try.underlying94, rfl, (fun i f h => by
    match i, h with
    | 0, h => obtain rfl := Option.some.inj h; exact ⟨rfl, (show Try.prog.cellsOf 3 = 1 by kernel_rfl), Try.underlying3⟩
    | 1, h => obtain rfl := Option.some.inj h; exact ⟨rfl, (show Try.prog.cellsOf 3 = 1 by kernel_rfl), Try.underlying3⟩
    | 2, h => obtain rfl := Option.some.inj h; exact ⟨rfl, (show Try.prog.cellsOf 3 = 1 by kernel_rfl), Try.underlying3⟩
    | i + 3, h => simp at h)⟩⟩⟩
    | 1, h => obtain rfl := Option.some.inj h; exact ⟨rfl, (show Try.prog.cellsOf 30 = 1 by kernel_rfl), ⟨96, Try.underlying30, (show Try.prog.cellsOf 96 = 4 by kernel_rfl), by decide, Or.inr ⟨_, Try.underlying96, rfl, (fun i f h => by
    match i, h with
    | 0, h => obtain rfl := Option.some.inj h; exact ⟨rfl, (show Try.prog.cellsOf 3 = 1 by kernel_rfl), Try.underlying3⟩
    | 1, h => obtain rfl := Option.some.inj h; exact ⟨rfl, (show Try.prog.cellsOf 3 = 1 by kernel_rfl), Try.underlying3⟩
    | 2, h => obtain rfl := Option.some.inj h; exact ⟨rfl, (show Try.prog.cellsOf 3 = 1 by kernel_rfl), Try.underlying3⟩
    | 3, h => obtain rfl := Option.some.inj h; exact ⟨rfl, (show Try.prog.cellsOf 3 = 1 by kernel_rfl), Try.underlying3⟩
    | i + 4, h => simp at h)⟩⟩⟩
    | i + 2, h => simp at h) (hval 0 32 v0 rfl rfl) h0
  obtain ⟨c0_0, c0_1, rfl⟩ := arr_of2 hsz0
  obtain ⟨d0_0, u0_0, e0_0, hh0_0, ff0_0, ll0_0⟩ := hrow0 0 (by decide)
  obtain rfl : c0_0 = u0_0 := Option.some.inj e0_0
  obtain ⟨l0_0, cs0_0, rfl, _⟩ := Fits.list ff0_0
  obtain ⟨a0_0, cap0_0, rfl, _⟩ := hh0_0.slice
  have w0_0 := hh0_0
  have f0_0 := ff0_0
  have n0_0 := ll0_0
  obtain ⟨d0_1, u0_1, e0_1, hh0_1, ff0_1, ll0_1⟩ := hrow0 1 (by decide)
  obtain rfl : c0_1 = u0_1 := Option.some.inj e0_1
  obtain ⟨l0_1, cs0_1, rfl, _⟩ := Fits.list ff0_1
  obtain ⟨a0_1, cap0_1, rfl, _⟩ := hh0_1.slice
  have w0_1 := hh0_1
  have f0_1 := ff0_1
  have n0_1 := ll0_1
  have k1 := h1
  have lt1 : ∀ x ∈ p1, x.block < W.heap.size := by obtain ⟨m, hm⟩ := k1; exact DataW.trod_lt m _ _ _ hm
  obtain ⟨a1, rfl, rfl, rfl, w1⟩ := open_int Try.underlying3 (hval 1 3 v1 rfl rfl) h1
  have k2 := h2
  have lt2 : ∀ x ∈ p2, x.block < W.heap.size := by obtain ⟨m, hm⟩ := k2; exact DataW.trod_lt m _ _ _ hm
  obtain ⟨a2, rfl, rfl, rfl, w2⟩ := open_int Try.underlying3 (hval 2 3 v2 rfl rfl) h2
  clear hA0 hval0
  refine (walk a0_0 l0_0 cap0_0 cs0_0 a0_1 l0_1 cap0_1 cs0_1 a1 w1 a2 w2 W w0_0 f0_0 n0_0 w0_1 f0_1 n0_1).mono fun e W' ⟨he, bel⟩ => ?_
  subst he
  exact ⟨_, rfl, _, _, _, [], _, [], hW', trodAll_mk1 (shut_bool Try.underlying4 _), (trodAll_cons_mk (Below.trod laidOut (by kernel_rfl) (of_decide_eq_true (by kernel_rfl)) k0 bel lt0) (trodAll_cons_mk (Below.trod laidOut (by kernel_rfl) (of_decide_eq_true (by kernel_rfl)) k1 bel lt1) (trodAll_cons_mk (Below.trod laidOut (by kernel_rfl) (of_decide_eq_true (by kernel_rfl)) k2 bel lt2) trodAll_mk0))), rfl, bel.frame _, fun h => by cases h⟩

theorem over : Rows.fnExactGuardAtRow.holds Try.pinned (OpenSpec.ofChange Rows.fnExactGuardAtSpec) :=
  OpenClaim.holds_of_wide 5 Try.f5 rfl rfl rfl rfl rfl rfl rfl ⟨rfl, rfl, rfl, rfl, rfl⟩ rfl rfl rfl rfl rfl (by kernel_rfl) Try.func5 (by kernel_rfl)
    (of_decide_eq_true (by kernel_rfl)) (by unfold Func.isWrapper; first | (rw [if_pos (by decide +kernel)]; kernel_rfl) | (rw [if_neg (by decide +kernel)]; exact ⟨rfl, rfl⟩))
    (fun os started H enc _ => lifted os started H enc)

theorem proved : Rows.FnExactGuardAtSaid :=
  over
#print axioms proved
end Go.Proofs.Ytbjfhcbgghpdaaa.fnExactGuardAt
