/-
  At every argument PlayCalls answers as the specification, field by field; it writes into no argument and keeps nothing of one; its answer owns its memory, behind another call too.
-/
import Derived.Test.YticgipmaflhplaaRows
import Derived.WalkKit
import Derived.ProofKit
import Derived.OpenShut
import Derived.ShutString
import Derived.ChangeOld
import Derived.Below
import Derived.Carry
import Derived.Deep.RegionHeld3
import Derived.SizedLaws
import Derived.Test.YticgipmaflhplaaMagMath
import Derived.Test.YticgipmaflhplaaDeep
import Derived.Test.YticgipmaflhplaaDeepOpen
import Derived.Test.YticgipmaflhplaaDeepRow
import Derived.Test.YticgipmaflhplaaDeepC
import Derived.Test.YticgipmaflhplaaWorldMath
import Derived.Test.YticgipmaflhplaaWorldSpec
import Derived.Test.YticgipmaflhplaaWorldImpl
import Derived.Test.YticgipmaflhplaaCacheMath
import Derived.Test.YticgipmaflhplaaPlayMath
import Derived.Test.YticgipmaflhplaaOwnInts
import Derived.Test.YticgipmaflhplaaOwnMath
import Derived.Test.YticgipmaflhplaaPlaySpec
import Derived.Test.YticgipmaflhplaaPlayImpl
namespace Go.Proofs.Yticgipmaflhplaa.fnExactPlayCalls
open Go.ChangeShapes Go.WideShapes Go.ChangeAt Go.RowKit
open Go.ChangeMaps (open_string shut_string)
open Go.Proofs.Yticgipmaflhplaa.math
open Go.Proofs.Yticgipmaflhplaa.deep
open Go.Proofs.Yticgipmaflhplaa.walks
open Go.Proofs.Yticgipmaflhplaa.ints
open Go.Proofs.Yticgipmaflhplaa.deep
set_option linter.unusedVariables false

theorem own : ownKnob Try.prog.godebug = none := by kernel_rfl
theorem laidOut : laidOutB Try.prog = true := by kernel_rfl

def SpecTells (l0_0 : Nat) (cs0_0 : Nat → Dv) (x0_1 : Int) (x1 : Int) (l2 : Nat) (cs2 : Nat → Dv) (xr0_0 : Int) (xr0_1 : Int) (lr0_2 : Nat) (csr0_2 : Nat → Dv) (xr0_3 : Int) (xr0_4 : Int) (xr0_5 : Int) (lr1 : Nat) (csr1 : Nat → Dv) (xr2 : Bool) : Prop := ∀ (W : World) (a0_0 : Option Addr) (cap0_0 : Nat) (a2 : Option Addr) (cap2 : Nat), Holds W true (.l l0_0 2 cs0_0) (.slice a0_0 l0_0 cap0_0) → Holds W true (.l l2 1 cs2) (.slice a2 l2 cap2) → Calls Try.prog 25 #[.agg #[.slice a0_0 l0_0 cap0_0, .int .i64 x0_1], .int .i64 x1, .slice a2 l2 cap2] W fun e W' => ∃ g0_2 d0_2 g1 d1, e = .returned (.tuple #[.agg #[.int .i64 xr0_0, .int .i64 xr0_1, .slice g0_2 lr0_2 d0_2, .int .i64 xr0_3, .int .i64 xr0_4, .int .i64 xr0_5], .slice g1 lr1 d1, .bool xr2]) ∧ Holds W' false (.l lr0_2 2 csr0_2) (.slice g0_2 lr0_2 d0_2) ∧ Holds W' false (.l lr1 1 csr1) (.slice g1 lr1 d1) ∧ Below W.heap.size W W'
def ImplTells (l0_0 : Nat) (cs0_0 : Nat → Dv) (x0_1 : Int) (x1 : Int) (l2 : Nat) (cs2 : Nat → Dv) (xr0_0 : Int) (xr0_1 : Int) (lr0_2 : Nat) (csr0_2 : Nat → Dv) (xr0_3 : Int) (xr0_4 : Int) (xr0_5 : Int) (lr1 : Nat) (csr1 : Nat → Dv) (xr2 : Bool) : Prop := ∀ (W : World) (a0_0 : Option Addr) (cap0_0 : Nat) (a2 : Option Addr) (cap2 : Nat), Holds W true (.l l0_0 2 cs0_0) (.slice a0_0 l0_0 cap0_0) → Holds W true (.l l2 1 cs2) (.slice a2 l2 cap2) → Calls Try.prog 27 #[.agg #[.slice a0_0 l0_0 cap0_0, .int .i64 x0_1], .int .i64 x1, .slice a2 l2 cap2] W fun e W' => ∃ (g0_2 : Option Addr) (d0_2 : Nat) (g1 : Option Addr) (d1 : Nat) (F0_2 : Nat → Prop) (F1 : Nat → Prop), e = .returned (.tuple #[.agg #[.int .i64 xr0_0, .int .i64 xr0_1, .slice g0_2 lr0_2 d0_2, .int .i64 xr0_3, .int .i64 xr0_4, .int .i64 xr0_5], .slice g1 lr1 d1, .bool xr2]) ∧ Owns W' false W.heap.size (.l lr0_2 2 csr0_2) (.slice g0_2 lr0_2 d0_2) F0_2 ∧ (∀ x, F0_2 x → W.heap.size ≤ x ∧ x < W'.heap.size) ∧ Owns W' false W.heap.size (.l lr1 1 csr1) (.slice g1 lr1 d1) F1 ∧ (∀ x, F1 x → W.heap.size ≤ x ∧ x < W'.heap.size) ∧ (∀ x, F0_2 x → ¬ F1 x) ∧ Below W.heap.size W W'
set_option maxHeartbeats 16000000 in
set_option maxRecDepth 100000 in
theorem walk_of (a0_0 : Option Addr) (cap0_0 : Nat) (a2 : Option Addr) (cap2 : Nat) (l0_0 : Nat) (cs0_0 : Nat → Dv) (x0_1 : Int) (x1 : Int) (l2 : Nat) (cs2 : Nat → Dv) (xr0_0 : Int) (xr0_1 : Int) (lr0_2 : Nat) (csr0_2 : Nat → Dv) (xr0_3 : Int) (xr0_4 : Int) (xr0_5 : Int) (lr1 : Nat) (csr1 : Nat → Dv) (xr2 : Bool) (w : World) (hf0_0 : Hid (Fits shClassS (.l l0_0 2 cs0_0))) (hn0_0 : Hid (Lens (.l l0_0 2 cs0_0))) (h0_0 : Hid (Holds w false (.l l0_0 2 cs0_0) (.slice a0_0 l0_0 cap0_0))) (hf2 : Hid (Fits shI (.l l2 1 cs2))) (hn2 : Hid (Lens (.l l2 1 cs2))) (h2 : Hid (Holds w false (.l l2 1 cs2) (.slice a2 l2 cap2))) (hfr0_2 : Hid (Fits shWayS (.l lr0_2 2 csr0_2))) (hsx0_2 : Hid (szD (.l lr0_2 2 csr0_2) ≤ 100000)) (hfr1 : Hid (Fits shI (.l lr1 1 csr1))) (hsx1 : Hid (szD (.l lr1 1 csr1) ≤ 100000)) (Hs : Hid (szD (.l l0_0 2 cs0_0) ≤ 1048576 → szD (.l l2 1 cs2) ≤ 1048576 → SpecTells l0_0 cs0_0 x0_1 x1 l2 cs2 xr0_0 xr0_1 lr0_2 csr0_2 xr0_3 xr0_4 xr0_5 lr1 csr1 xr2)) (Hi : Hid (szD (.l l0_0 2 cs0_0) ≤ 1048576 → szD (.l l2 1 cs2) ≤ 1048576 → ImplTells l0_0 cs0_0 x0_1 x1 l2 cs2 xr0_0 xr0_1 lr0_2 csr0_2 xr0_3 xr0_4 xr0_5 lr1 csr1 xr2)) :
    Calls Try.prog 7 #[.agg #[.slice a0_0 l0_0 cap0_0, .int .i64 x0_1], .int .i64 x1, .slice a2 l2 cap2] w fun e w' => e = .returned (.bool true) ∧ Below w.heap.size w w' := by
  have hsr0_2 : Hid (szD (.l lr0_2 2 csr0_2) ≤ 1048576) := Nat.le_trans hsx0_2.out (by decide)
  have hsr1 : Hid (szD (.l lr1 1 csr1) ≤ 1048576) := Nat.le_trans hsx1.out (by decide)
  have pe0_0 : (xr0_0 != xr0_0) = false := by simp
  have pe0_1 : (xr0_1 != xr0_1) = false := by simp
  have pe0_3 : (xr0_3 != xr0_3) = false := by simp
  have pe0_4 : (xr0_4 != xr0_4) = false := by simp
  have pe0_5 : (xr0_5 != xr0_5) = false := by simp
  have pe2 : (xr2 != xr2) = false := by cases xr2 <;> rfl
  have hm2 : l2 ≤ 9223372036854775807 := by have q := hn2.out.1; unfold maxLen at q; exact q
  by_cases hb2 : (l2 : Int) ≤ 1048576
  rotate_left
  · have hbig : (1048576 : Int) < (l2 : Int) := by omega
    clear hb2
    go_enter Try.func7, Try.ntmps7
    go_wp2
    go_ret
    first | exact ⟨rfl, Below.refl _ _⟩ | exact ⟨rfl, by go_grown⟩
  have hs2 : Hid (szD (.l l2 1 cs2) ≤ 1048576) := by show l2 + sumTo _ _ ≤ _; rw [sz_flat _ (fits_I hf2.out)]; omega
  go_enter Try.func7, Try.ntmps7
  obtain ⟨z0_0, HZ0_0⟩ : ∃ z, Hid (szD (.l l0_0 2 cs0_0) = z) := ⟨_, rfl⟩
  go_wp2_with fail
  obtain ⟨w1, EWw1⟩ : ∃ X, X = w.alloc (.cells #[.slice a0_0 l0_0 cap0_0, .int .i64 x0_1] 24) := ⟨_, rfl⟩
  rw [← EWw1]
  have hB : Below w.heap.size w w1 := by rw [EWw1]; exact (Below.refl _ _).alloc (Nat.le_refl _) _
  have ESw1 : w1.heap.size = w.heap.size + 1 := by rw [EWw1]; simp
  have BXP0_1 : Hid (w1.rowIs (w.heap.size) 24 2 (rowF [.slice a0_0 l0_0 cap0_0, .int .i64 x0_1])) := by
    have q := row_of w #[.slice a0_0 l0_0 cap0_0, .int .i64 x0_1] 24
    rw [EWw1]; exact q
  have LTP0 : Hid (w.heap.size < w1.heap.size) := BXP0_1.out.lt
  have ADP0 : Hid (w.heap.size = w.heap.size) := by show _ = _; rfl
  have BW1 : Hid (Below w.heap.size w w1) := hB
  have SZ1 : Hid (w.heap.size ≤ w1.heap.size) := hB.size
  clear hB EWw1
  clear ESw1
  refine (World_size _ _ _ cs0_0 x0_1 (1048576) false _ hf0_0 hn0_0 (h0_0.out.kept BW1.out) (by omega) (by omega)).mono ?_
  rw [HZ0_0.out]
  rintro e w2 ⟨rfl, hB⟩
  have BW2 : Hid (Below w.heap.size w w2) := BW1.out.trans (hB.mono BW1.out.size)
  have SZ2 : Hid (w1.heap.size ≤ w2.heap.size) := hB.size
  have BXP0_2 : Hid (w2.rowIs (w.heap.size) 24 2 (rowF [.slice a0_0 l0_0 cap0_0, .int .i64 x0_1])) := BXP0_1.out.of_block (hB.block _ BXP0_1.out.lt)
  clear hB
  by_cases ok0 : (z0_0 : Int) ≤ 1048576
  rotate_left
  · rw [if_neg ok0]
    go_wp2
    go_ret
    exact ⟨rfl, BW2.out⟩
  rw [if_pos ok0]
  have left0 : 0 ≤ 1048576 - ((z0_0 : Int)) := by omega
  have hs0_0 : Hid (szD (.l l0_0 2 cs0_0) ≤ 1048576) := by show _ ≤ _; rw [HZ0_0.out]; omega
  have HS : Hid (SpecTells l0_0 cs0_0 x0_1 x1 l2 cs2 xr0_0 xr0_1 lr0_2 csr0_2 xr0_3 xr0_4 xr0_5 lr1 csr1 xr2) := Hs.out hs0_0.out hs2.out
  have HI : Hid (ImplTells l0_0 cs0_0 x0_1 x1 l2 cs2 xr0_0 xr0_1 lr0_2 csr0_2 xr0_3 xr0_4 xr0_5 lr1 csr1 xr2) := Hi.out hs0_0.out hs2.out
  clear Hs Hi
  have blP0 : w.heap.size < w2.heap.size := BXP0_2.out.lt
  have bcP0_0 : w2.cell? ⟨w.heap.size, 0, none⟩ = some (.slice a0_0 l0_0 cap0_0) := BXP0_2.out.cell (i := 0) (by decide)
  have bcP0_1 : w2.cell? ⟨w.heap.size, 1, none⟩ = some (.int .i64 x0_1) := BXP0_2.out.cell (i := 1) (by decide)
  go_wp2_with fail
  clear blP0 bcP0_0 bcP0_1
  refine (World_to _ _ _ cs0_0 x0_1 false _ hf0_0 hs0_0 (h0_0.out.kept BW2.out)).mono ?_
  rintro e w3 ⟨Ag0_0, rfl, hO0_0, hle0, hB⟩
  have A0_0_3 : Hid (Owns w3 true w2.heap.size (.l l0_0 2 cs0_0) (.slice (some ⟨Ag0_0, 0, none⟩) l0_0 l0_0) (rng w2.heap.size w3.heap.size)) := hO0_0
  have BW3 : Hid (Below w.heap.size w w3) := BW2.out.trans (hB.mono BW2.out.size)
  have SZ3 : Hid (w2.heap.size ≤ w3.heap.size) := hB.size
  have BXP0_3 : Hid (w3.rowIs (w.heap.size) 24 2 (rowF [.slice a0_0 l0_0 cap0_0, .int .i64 x0_1])) := BXP0_2.out.of_block (hB.block _ BXP0_2.out.lt)
  clear hB hO0_0
  have Ale0_0 : Hid (w2.heap.size ≤ w3.heap.size) := hle0
  clear hle0
  have blP0 : w.heap.size < w3.heap.size := BXP0_3.out.lt
  have bcP0_0 : w3.cell? ⟨w.heap.size, 0, none⟩ = some (.slice a0_0 l0_0 cap0_0) := BXP0_3.out.cell (i := 0) (by decide)
  have bcP0_1 : w3.cell? ⟨w.heap.size, 1, none⟩ = some (.int .i64 x0_1) := BXP0_3.out.cell (i := 1) (by decide)
  go_wp2_with fail
  clear blP0 bcP0_0 bcP0_1
  refine (IntS_to _ _ _ cs2 false _ hf2 (Nat.le_trans (Nat.le_add_right _ _) hs2.out) (h2.out.kept BW3.out)).mono ?_
  rintro e w4 ⟨rfl, hO, hB⟩
  have A2_4 : Hid (Owns w4 true w3.heap.size (.l l2 1 cs2) (.slice (some ⟨w3.heap.size, 0, none⟩) l2 l2) (rng w3.heap.size w4.heap.size)) := hO
  have BW4 : Hid (Below w.heap.size w w4) := BW3.out.trans (hB.mono BW3.out.size)
  have SZ4 : Hid (w3.heap.size ≤ w4.heap.size) := hB.size
  have A0_0_4 : Hid (Owns w4 true w2.heap.size (.l l0_0 2 cs0_0) (.slice (some ⟨Ag0_0, 0, none⟩) l0_0 l0_0) (rng w2.heap.size w3.heap.size)) := A0_0_3.out.kept hB
  have BXP0_4 : Hid (w4.rowIs (w.heap.size) 24 2 (rowF [.slice a0_0 l0_0 cap0_0, .int .i64 x0_1])) := BXP0_3.out.of_block (hB.block _ BXP0_3.out.lt)
  clear hO hB
  have blP0 : w.heap.size < w4.heap.size := BXP0_4.out.lt
  have bcP0_0 : w4.cell? ⟨w.heap.size, 0, none⟩ = some (.slice a0_0 l0_0 cap0_0) := BXP0_4.out.cell (i := 0) (by decide)
  have bcP0_1 : w4.cell? ⟨w.heap.size, 1, none⟩ = some (.int .i64 x0_1) := BXP0_4.out.cell (i := 1) (by decide)
  go_wp2_with fail
  clear blP0 bcP0_0 bcP0_1
  refine (HS.out _ _ _ _ _ A0_0_4.out.holds A2_4.out.holds).mono ?_
  rintro e w5 ⟨sa0_2, sc0_2, sa1, sc1, rfl, hS0_2, hS1, hB⟩
  have S0_2 : Hid (Holds w5 false (.l lr0_2 2 csr0_2) (.slice sa0_2 lr0_2 sc0_2)) := hS0_2
  have S1 : Hid (Holds w5 false (.l lr1 1 csr1) (.slice sa1 lr1 sc1)) := hS1
  have BW5 : Hid (Below w.heap.size w w5) := BW4.out.trans (hB.mono BW4.out.size)
  have SZ5 : Hid (w4.heap.size ≤ w5.heap.size) := hB.size
  have BXP0_5 : Hid (w5.rowIs (w.heap.size) 24 2 (rowF [.slice a0_0 l0_0 cap0_0, .int .i64 x0_1])) := BXP0_4.out.of_block (hB.block _ BXP0_4.out.lt)
  clear hB hS0_2 hS1
  have blP0 : w.heap.size < w5.heap.size := BXP0_5.out.lt
  have bcP0_0 : w5.cell? ⟨w.heap.size, 0, none⟩ = some (.slice a0_0 l0_0 cap0_0) := BXP0_5.out.cell (i := 0) (by decide)
  have bcP0_1 : w5.cell? ⟨w.heap.size, 1, none⟩ = some (.int .i64 x0_1) := BXP0_5.out.cell (i := 1) (by decide)
  go_wp2_with fail
  clear blP0 bcP0_0 bcP0_1
  obtain ⟨w6, EWw6⟩ : ∃ X, X = w5.alloc (.cells #[.int .i64 xr0_0, .int .i64 xr0_1, .slice sa0_2 lr0_2 sc0_2, .int .i64 xr0_3, .int .i64 xr0_4, .int .i64 xr0_5] 42) := ⟨_, rfl⟩
  rw [← EWw6]
  have hB : Below w5.heap.size w5 w6 := by rw [EWw6]; exact (Below.refl _ _).alloc (Nat.le_refl _) _
  have ESw6 : w6.heap.size = w5.heap.size + 1 := by rw [EWw6]; simp
  have BXS0_6 : Hid (w6.rowIs (w5.heap.size) 42 6 (rowF [.int .i64 xr0_0, .int .i64 xr0_1, .slice sa0_2 lr0_2 sc0_2, .int .i64 xr0_3, .int .i64 xr0_4, .int .i64 xr0_5])) := by
    have q := row_of w5 #[.int .i64 xr0_0, .int .i64 xr0_1, .slice sa0_2 lr0_2 sc0_2, .int .i64 xr0_3, .int .i64 xr0_4, .int .i64 xr0_5] 42
    rw [EWw6]; exact q
  have LTS0 : Hid (w5.heap.size < w6.heap.size) := BXS0_6.out.lt
  have ADS0 : Hid (w5.heap.size = w5.heap.size) := by show _ = _; rfl
  have BW6 : Hid (Below w.heap.size w w6) := BW5.out.trans (hB.mono BW5.out.size)
  have SZ6 : Hid (w5.heap.size ≤ w6.heap.size) := hB.size
  have BS6 : Hid (Below w5.heap.size w5 w6) := hB
  have BXP0_6 : Hid (w6.rowIs (w.heap.size) 24 2 (rowF [.slice a0_0 l0_0 cap0_0, .int .i64 x0_1])) := BXP0_5.out.of_block (hB.block _ BXP0_5.out.lt)
  clear hB EWw6
  clear ESw6
  refine (World_to _ _ _ cs0_0 x0_1 false _ hf0_0 hs0_0 (h0_0.out.kept BW6.out)).mono ?_
  rintro e w7 ⟨Xg0_0, rfl, hO0_0, hle0, hB⟩
  have X0_0_7 : Hid (Owns w7 true w6.heap.size (.l l0_0 2 cs0_0) (.slice (some ⟨Xg0_0, 0, none⟩) l0_0 l0_0) (rng w6.heap.size w7.heap.size)) := hO0_0
  have BW7 : Hid (Below w.heap.size w w7) := BW6.out.trans (hB.mono BW6.out.size)
  have SZ7 : Hid (w6.heap.size ≤ w7.heap.size) := hB.size
  have BS7 : Hid (Below w5.heap.size w5 w7) := BS6.out.trans (hB.mono BS6.out.size)
  have BXP0_7 : Hid (w7.rowIs (w.heap.size) 24 2 (rowF [.slice a0_0 l0_0 cap0_0, .int .i64 x0_1])) := BXP0_6.out.of_block (hB.block _ BXP0_6.out.lt)
  have BXS0_7 : Hid (w7.rowIs (w5.heap.size) 42 6 (rowF [.int .i64 xr0_0, .int .i64 xr0_1, .slice sa0_2 lr0_2 sc0_2, .int .i64 xr0_3, .int .i64 xr0_4, .int .i64 xr0_5])) := BXS0_6.out.of_block (hB.block _ BXS0_6.out.lt)
  clear hB hO0_0
  have Xle0_0 : Hid (w6.heap.size ≤ w7.heap.size) := hle0
  clear hle0
  have blP0 : w.heap.size < w7.heap.size := BXP0_7.out.lt
  have bcP0_0 : w7.cell? ⟨w.heap.size, 0, none⟩ = some (.slice a0_0 l0_0 cap0_0) := BXP0_7.out.cell (i := 0) (by decide)
  have bcP0_1 : w7.cell? ⟨w.heap.size, 1, none⟩ = some (.int .i64 x0_1) := BXP0_7.out.cell (i := 1) (by decide)
  have blS0 : w5.heap.size < w7.heap.size := BXS0_7.out.lt
  have bcS0_0 : w7.cell? ⟨w5.heap.size, 0, none⟩ = some (.int .i64 xr0_0) := BXS0_7.out.cell (i := 0) (by decide)
  have bcS0_1 : w7.cell? ⟨w5.heap.size, 1, none⟩ = some (.int .i64 xr0_1) := BXS0_7.out.cell (i := 1) (by decide)
  have bcS0_2 : w7.cell? ⟨w5.heap.size, 2, none⟩ = some (.slice sa0_2 lr0_2 sc0_2) := BXS0_7.out.cell (i := 2) (by decide)
  have bcS0_3 : w7.cell? ⟨w5.heap.size, 3, none⟩ = some (.int .i64 xr0_3) := BXS0_7.out.cell (i := 3) (by decide)
  have bcS0_4 : w7.cell? ⟨w5.heap.size, 4, none⟩ = some (.int .i64 xr0_4) := BXS0_7.out.cell (i := 4) (by decide)
  have bcS0_5 : w7.cell? ⟨w5.heap.size, 5, none⟩ = some (.int .i64 xr0_5) := BXS0_7.out.cell (i := 5) (by decide)
  go_wp2_with fail
  clear blP0 bcP0_0 bcP0_1 blS0 bcS0_0 bcS0_1 bcS0_2 bcS0_3 bcS0_4 bcS0_5
  obtain ⟨w8, EWw8⟩ : ∃ X, X = w7.alloc (.cells #[.slice (some ⟨Xg0_0, 0, none⟩) l0_0 l0_0, .int .i64 x0_1] 29) := ⟨_, rfl⟩
  rw [← EWw8]
  have hB : Below w7.heap.size w7 w8 := by rw [EWw8]; exact (Below.refl _ _).alloc (Nat.le_refl _) _
  have ESw8 : w8.heap.size = w7.heap.size + 1 := by rw [EWw8]; simp
  have BXX0_8 : Hid (w8.rowIs (w7.heap.size) 29 2 (rowF [.slice (some ⟨Xg0_0, 0, none⟩) l0_0 l0_0, .int .i64 x0_1])) := by
    have q := row_of w7 #[.slice (some ⟨Xg0_0, 0, none⟩) l0_0 l0_0, .int .i64 x0_1] 29
    rw [EWw8]; exact q
  have LTX0 : Hid (w7.heap.size < w8.heap.size) := BXX0_8.out.lt
  have ADX0 : Hid (w7.heap.size = w7.heap.size) := by show _ = _; rfl
  have BW8 : Hid (Below w.heap.size w w8) := BW7.out.trans (hB.mono BW7.out.size)
  have SZ8 : Hid (w7.heap.size ≤ w8.heap.size) := hB.size
  have BS8 : Hid (Below w5.heap.size w5 w8) := BS7.out.trans (hB.mono BS7.out.size)
  have X0_0_8 : Hid (Owns w8 true w6.heap.size (.l l0_0 2 cs0_0) (.slice (some ⟨Xg0_0, 0, none⟩) l0_0 l0_0) (rng w6.heap.size w7.heap.size)) := X0_0_7.out.kept hB
  have BXP0_8 : Hid (w8.rowIs (w.heap.size) 24 2 (rowF [.slice a0_0 l0_0 cap0_0, .int .i64 x0_1])) := BXP0_7.out.of_block (hB.block _ BXP0_7.out.lt)
  have BXS0_8 : Hid (w8.rowIs (w5.heap.size) 42 6 (rowF [.int .i64 xr0_0, .int .i64 xr0_1, .slice sa0_2 lr0_2 sc0_2, .int .i64 xr0_3, .int .i64 xr0_4, .int .i64 xr0_5])) := BXS0_7.out.of_block (hB.block _ BXS0_7.out.lt)
  clear hB EWw8
  clear ESw8
  refine (IntS_to _ _ _ cs2 false _ hf2 (Nat.le_trans (Nat.le_add_right _ _) hs2.out) (h2.out.kept BW8.out)).mono ?_
  rintro e w9 ⟨rfl, hO, hB⟩
  have X2_9 : Hid (Owns w9 true w8.heap.size (.l l2 1 cs2) (.slice (some ⟨w8.heap.size, 0, none⟩) l2 l2) (rng w8.heap.size w9.heap.size)) := hO
  have BW9 : Hid (Below w.heap.size w w9) := BW8.out.trans (hB.mono BW8.out.size)
  have SZ9 : Hid (w8.heap.size ≤ w9.heap.size) := hB.size
  have BS9 : Hid (Below w5.heap.size w5 w9) := BS8.out.trans (hB.mono BS8.out.size)
  have X0_0_9 : Hid (Owns w9 true w6.heap.size (.l l0_0 2 cs0_0) (.slice (some ⟨Xg0_0, 0, none⟩) l0_0 l0_0) (rng w6.heap.size w7.heap.size)) := X0_0_8.out.kept hB
  have BXP0_9 : Hid (w9.rowIs (w.heap.size) 24 2 (rowF [.slice a0_0 l0_0 cap0_0, .int .i64 x0_1])) := BXP0_8.out.of_block (hB.block _ BXP0_8.out.lt)
  have BXS0_9 : Hid (w9.rowIs (w5.heap.size) 42 6 (rowF [.int .i64 xr0_0, .int .i64 xr0_1, .slice sa0_2 lr0_2 sc0_2, .int .i64 xr0_3, .int .i64 xr0_4, .int .i64 xr0_5])) := BXS0_8.out.of_block (hB.block _ BXS0_8.out.lt)
  have BXX0_9 : Hid (w9.rowIs (w7.heap.size) 29 2 (rowF [.slice (some ⟨Xg0_0, 0, none⟩) l0_0 l0_0, .int .i64 x0_1])) := BXX0_8.out.of_block (hB.block _ BXX0_8.out.lt)
  clear hO hB
  have blP0 : w.heap.size < w9.heap.size := BXP0_9.out.lt
  have bcP0_0 : w9.cell? ⟨w.heap.size, 0, none⟩ = some (.slice a0_0 l0_0 cap0_0) := BXP0_9.out.cell (i := 0) (by decide)
  have bcP0_1 : w9.cell? ⟨w.heap.size, 1, none⟩ = some (.int .i64 x0_1) := BXP0_9.out.cell (i := 1) (by decide)
  have blS0 : w5.heap.size < w9.heap.size := BXS0_9.out.lt
  have bcS0_0 : w9.cell? ⟨w5.heap.size, 0, none⟩ = some (.int .i64 xr0_0) := BXS0_9.out.cell (i := 0) (by decide)
  have bcS0_1 : w9.cell? ⟨w5.heap.size, 1, none⟩ = some (.int .i64 xr0_1) := BXS0_9.out.cell (i := 1) (by decide)
  have bcS0_2 : w9.cell? ⟨w5.heap.size, 2, none⟩ = some (.slice sa0_2 lr0_2 sc0_2) := BXS0_9.out.cell (i := 2) (by decide)
  have bcS0_3 : w9.cell? ⟨w5.heap.size, 3, none⟩ = some (.int .i64 xr0_3) := BXS0_9.out.cell (i := 3) (by decide)
  have bcS0_4 : w9.cell? ⟨w5.heap.size, 4, none⟩ = some (.int .i64 xr0_4) := BXS0_9.out.cell (i := 4) (by decide)
  have bcS0_5 : w9.cell? ⟨w5.heap.size, 5, none⟩ = some (.int .i64 xr0_5) := BXS0_9.out.cell (i := 5) (by decide)
  have blX0 : w7.heap.size < w9.heap.size := BXX0_9.out.lt
  have bcX0_0 : w9.cell? ⟨w7.heap.size, 0, none⟩ = some (.slice (some ⟨Xg0_0, 0, none⟩) l0_0 l0_0) := BXX0_9.out.cell (i := 0) (by decide)
  have bcX0_1 : w9.cell? ⟨w7.heap.size, 1, none⟩ = some (.int .i64 x0_1) := BXX0_9.out.cell (i := 1) (by decide)
  go_wp2_with fail
  clear blP0 bcP0_0 bcP0_1 blS0 bcS0_0 bcS0_1 bcS0_2 bcS0_3 bcS0_4 bcS0_5 blX0 bcX0_0 bcX0_1
  refine (HI.out _ _ _ _ _ X0_0_9.out.holds X2_9.out.holds).mono ?_
  rintro e w10 ⟨ga0_2, gc0_2, ga1, gc1, gP0_2, gP1, rfl, hO0_2, hF0_2, hO1, hF1, hD0_21, hB⟩
  have G0_2_10 : Hid (Owns w10 false w9.heap.size (.l lr0_2 2 csr0_2) (.slice ga0_2 lr0_2 gc0_2) gP0_2) := hO0_2
  have GF0_2 : Hid (∀ x, gP0_2 x → w9.heap.size ≤ x ∧ x < w10.heap.size) := hF0_2
  have G1_10 : Hid (Owns w10 false w9.heap.size (.l lr1 1 csr1) (.slice ga1 lr1 gc1) gP1) := hO1
  have GF1 : Hid (∀ x, gP1 x → w9.heap.size ≤ x ∧ x < w10.heap.size) := hF1
  have GD0_21 : Hid (∀ x, gP0_2 x → ¬ gP1 x) := hD0_21
  have BW10 : Hid (Below w.heap.size w w10) := BW9.out.trans (hB.mono BW9.out.size)
  have SZ10 : Hid (w9.heap.size ≤ w10.heap.size) := hB.size
  have BS10 : Hid (Below w5.heap.size w5 w10) := BS9.out.trans (hB.mono BS9.out.size)
  have X0_0_10 : Hid (Owns w10 true w6.heap.size (.l l0_0 2 cs0_0) (.slice (some ⟨Xg0_0, 0, none⟩) l0_0 l0_0) (rng w6.heap.size w7.heap.size)) := X0_0_9.out.kept hB
  have X2_10 : Hid (Owns w10 true w8.heap.size (.l l2 1 cs2) (.slice (some ⟨w8.heap.size, 0, none⟩) l2 l2) (rng w8.heap.size w9.heap.size)) := X2_9.out.kept hB
  have BXP0_10 : Hid (w10.rowIs (w.heap.size) 24 2 (rowF [.slice a0_0 l0_0 cap0_0, .int .i64 x0_1])) := BXP0_9.out.of_block (hB.block _ BXP0_9.out.lt)
  have BXS0_10 : Hid (w10.rowIs (w5.heap.size) 42 6 (rowF [.int .i64 xr0_0, .int .i64 xr0_1, .slice sa0_2 lr0_2 sc0_2, .int .i64 xr0_3, .int .i64 xr0_4, .int .i64 xr0_5])) := BXS0_9.out.of_block (hB.block _ BXS0_9.out.lt)
  have BXX0_10 : Hid (w10.rowIs (w7.heap.size) 29 2 (rowF [.slice (some ⟨Xg0_0, 0, none⟩) l0_0 l0_0, .int .i64 x0_1])) := BXX0_9.out.of_block (hB.block _ BXX0_9.out.lt)
  clear hB hO0_2 hF0_2 hO1 hF1 hD0_21
  have blP0 : w.heap.size < w10.heap.size := BXP0_10.out.lt
  have bcP0_0 : w10.cell? ⟨w.heap.size, 0, none⟩ = some (.slice a0_0 l0_0 cap0_0) := BXP0_10.out.cell (i := 0) (by decide)
  have bcP0_1 : w10.cell? ⟨w.heap.size, 1, none⟩ = some (.int .i64 x0_1) := BXP0_10.out.cell (i := 1) (by decide)
  have blS0 : w5.heap.size < w10.heap.size := BXS0_10.out.lt
  have bcS0_0 : w10.cell? ⟨w5.heap.size, 0, none⟩ = some (.int .i64 xr0_0) := BXS0_10.out.cell (i := 0) (by decide)
  have bcS0_1 : w10.cell? ⟨w5.heap.size, 1, none⟩ = some (.int .i64 xr0_1) := BXS0_10.out.cell (i := 1) (by decide)
  have bcS0_2 : w10.cell? ⟨w5.heap.size, 2, none⟩ = some (.slice sa0_2 lr0_2 sc0_2) := BXS0_10.out.cell (i := 2) (by decide)
  have bcS0_3 : w10.cell? ⟨w5.heap.size, 3, none⟩ = some (.int .i64 xr0_3) := BXS0_10.out.cell (i := 3) (by decide)
  have bcS0_4 : w10.cell? ⟨w5.heap.size, 4, none⟩ = some (.int .i64 xr0_4) := BXS0_10.out.cell (i := 4) (by decide)
  have bcS0_5 : w10.cell? ⟨w5.heap.size, 5, none⟩ = some (.int .i64 xr0_5) := BXS0_10.out.cell (i := 5) (by decide)
  have blX0 : w7.heap.size < w10.heap.size := BXX0_10.out.lt
  have bcX0_0 : w10.cell? ⟨w7.heap.size, 0, none⟩ = some (.slice (some ⟨Xg0_0, 0, none⟩) l0_0 l0_0) := BXX0_10.out.cell (i := 0) (by decide)
  have bcX0_1 : w10.cell? ⟨w7.heap.size, 1, none⟩ = some (.int .i64 x0_1) := BXX0_10.out.cell (i := 1) (by decide)
  go_wp2_with fail
  clear blP0 bcP0_0 bcP0_1 blS0 bcS0_0 bcS0_1 bcS0_2 bcS0_3 bcS0_4 bcS0_5 blX0 bcX0_0 bcX0_1
  obtain ⟨w11, EWw11⟩ : ∃ X, X = w10.alloc (.cells #[.int .i64 xr0_0, .int .i64 xr0_1, .slice ga0_2 lr0_2 gc0_2, .int .i64 xr0_3, .int .i64 xr0_4, .int .i64 xr0_5] 42) := ⟨_, rfl⟩
  rw [← EWw11]
  have hB : Below w10.heap.size w10 w11 := by rw [EWw11]; exact (Below.refl _ _).alloc (Nat.le_refl _) _
  have ESw11 : w11.heap.size = w10.heap.size + 1 := by rw [EWw11]; simp
  have BXG0_11 : Hid (w11.rowIs (w10.heap.size) 42 6 (rowF [.int .i64 xr0_0, .int .i64 xr0_1, .slice ga0_2 lr0_2 gc0_2, .int .i64 xr0_3, .int .i64 xr0_4, .int .i64 xr0_5])) := by
    have q := row_of w10 #[.int .i64 xr0_0, .int .i64 xr0_1, .slice ga0_2 lr0_2 gc0_2, .int .i64 xr0_3, .int .i64 xr0_4, .int .i64 xr0_5] 42
    rw [EWw11]; exact q
  have LTG0 : Hid (w10.heap.size < w11.heap.size) := BXG0_11.out.lt
  have ADG0 : Hid (w10.heap.size = w10.heap.size) := by show _ = _; rfl
  have BW11 : Hid (Below w.heap.size w w11) := BW10.out.trans (hB.mono BW10.out.size)
  have SZ11 : Hid (w10.heap.size ≤ w11.heap.size) := hB.size
  have BS11 : Hid (Below w5.heap.size w5 w11) := BS10.out.trans (hB.mono BS10.out.size)
  have X0_0_11 : Hid (Owns w11 true w6.heap.size (.l l0_0 2 cs0_0) (.slice (some ⟨Xg0_0, 0, none⟩) l0_0 l0_0) (rng w6.heap.size w7.heap.size)) := X0_0_10.out.kept hB
  have X2_11 : Hid (Owns w11 true w8.heap.size (.l l2 1 cs2) (.slice (some ⟨w8.heap.size, 0, none⟩) l2 l2) (rng w8.heap.size w9.heap.size)) := X2_10.out.kept hB
  have G0_2_11 : Hid (Owns w11 false w9.heap.size (.l lr0_2 2 csr0_2) (.slice ga0_2 lr0_2 gc0_2) gP0_2) := G0_2_10.out.kept hB
  have G1_11 : Hid (Owns w11 false w9.heap.size (.l lr1 1 csr1) (.slice ga1 lr1 gc1) gP1) := G1_10.out.kept hB
  have BXP0_11 : Hid (w11.rowIs (w.heap.size) 24 2 (rowF [.slice a0_0 l0_0 cap0_0, .int .i64 x0_1])) := BXP0_10.out.of_block (hB.block _ BXP0_10.out.lt)
  have BXS0_11 : Hid (w11.rowIs (w5.heap.size) 42 6 (rowF [.int .i64 xr0_0, .int .i64 xr0_1, .slice sa0_2 lr0_2 sc0_2, .int .i64 xr0_3, .int .i64 xr0_4, .int .i64 xr0_5])) := BXS0_10.out.of_block (hB.block _ BXS0_10.out.lt)
  have BXX0_11 : Hid (w11.rowIs (w7.heap.size) 29 2 (rowF [.slice (some ⟨Xg0_0, 0, none⟩) l0_0 l0_0, .int .i64 x0_1])) := BXX0_10.out.of_block (hB.block _ BXX0_10.out.lt)
  clear hB EWw11
  clear ESw11
  refine (Cache_eq xr0_0 xr0_1 _ _ _ csr0_2 xr0_3 xr0_4 xr0_5 _ _ _ _ _ hfr0_2 hsr0_2 G0_2_11.out.holds (S0_2.out.kept BS11.out)).mono ?_
  rintro e w12 ⟨rfl, hB⟩
  have BW12 : Hid (Below w.heap.size w w12) := BW11.out.trans (hB.mono BW11.out.size)
  have SZ12 : Hid (w11.heap.size ≤ w12.heap.size) := hB.size
  have BS12 : Hid (Below w5.heap.size w5 w12) := BS11.out.trans (hB.mono BS11.out.size)
  have X0_0_12 : Hid (Owns w12 true w6.heap.size (.l l0_0 2 cs0_0) (.slice (some ⟨Xg0_0, 0, none⟩) l0_0 l0_0) (rng w6.heap.size w7.heap.size)) := X0_0_11.out.kept hB
  have X2_12 : Hid (Owns w12 true w8.heap.size (.l l2 1 cs2) (.slice (some ⟨w8.heap.size, 0, none⟩) l2 l2) (rng w8.heap.size w9.heap.size)) := X2_11.out.kept hB
  have G0_2_12 : Hid (Owns w12 false w9.heap.size (.l lr0_2 2 csr0_2) (.slice ga0_2 lr0_2 gc0_2) gP0_2) := G0_2_11.out.kept hB
  have G1_12 : Hid (Owns w12 false w9.heap.size (.l lr1 1 csr1) (.slice ga1 lr1 gc1) gP1) := G1_11.out.kept hB
  have BXP0_12 : Hid (w12.rowIs (w.heap.size) 24 2 (rowF [.slice a0_0 l0_0 cap0_0, .int .i64 x0_1])) := BXP0_11.out.of_block (hB.block _ BXP0_11.out.lt)
  have BXS0_12 : Hid (w12.rowIs (w5.heap.size) 42 6 (rowF [.int .i64 xr0_0, .int .i64 xr0_1, .slice sa0_2 lr0_2 sc0_2, .int .i64 xr0_3, .int .i64 xr0_4, .int .i64 xr0_5])) := BXS0_11.out.of_block (hB.block _ BXS0_11.out.lt)
  have BXX0_12 : Hid (w12.rowIs (w7.heap.size) 29 2 (rowF [.slice (some ⟨Xg0_0, 0, none⟩) l0_0 l0_0, .int .i64 x0_1])) := BXX0_11.out.of_block (hB.block _ BXX0_11.out.lt)
  have BXG0_12 : Hid (w12.rowIs (w10.heap.size) 42 6 (rowF [.int .i64 xr0_0, .int .i64 xr0_1, .slice ga0_2 lr0_2 gc0_2, .int .i64 xr0_3, .int .i64 xr0_4, .int .i64 xr0_5])) := BXG0_11.out.of_block (hB.block _ BXG0_11.out.lt)
  clear hB
  have blP0 : w.heap.size < w12.heap.size := BXP0_12.out.lt
  have bcP0_0 : w12.cell? ⟨w.heap.size, 0, none⟩ = some (.slice a0_0 l0_0 cap0_0) := BXP0_12.out.cell (i := 0) (by decide)
  have bcP0_1 : w12.cell? ⟨w.heap.size, 1, none⟩ = some (.int .i64 x0_1) := BXP0_12.out.cell (i := 1) (by decide)
  have blS0 : w5.heap.size < w12.heap.size := BXS0_12.out.lt
  have bcS0_0 : w12.cell? ⟨w5.heap.size, 0, none⟩ = some (.int .i64 xr0_0) := BXS0_12.out.cell (i := 0) (by decide)
  have bcS0_1 : w12.cell? ⟨w5.heap.size, 1, none⟩ = some (.int .i64 xr0_1) := BXS0_12.out.cell (i := 1) (by decide)
  have bcS0_2 : w12.cell? ⟨w5.heap.size, 2, none⟩ = some (.slice sa0_2 lr0_2 sc0_2) := BXS0_12.out.cell (i := 2) (by decide)
  have bcS0_3 : w12.cell? ⟨w5.heap.size, 3, none⟩ = some (.int .i64 xr0_3) := BXS0_12.out.cell (i := 3) (by decide)
  have bcS0_4 : w12.cell? ⟨w5.heap.size, 4, none⟩ = some (.int .i64 xr0_4) := BXS0_12.out.cell (i := 4) (by decide)
  have bcS0_5 : w12.cell? ⟨w5.heap.size, 5, none⟩ = some (.int .i64 xr0_5) := BXS0_12.out.cell (i := 5) (by decide)
  have blX0 : w7.heap.size < w12.heap.size := BXX0_12.out.lt
  have bcX0_0 : w12.cell? ⟨w7.heap.size, 0, none⟩ = some (.slice (some ⟨Xg0_0, 0, none⟩) l0_0 l0_0) := BXX0_12.out.cell (i := 0) (by decide)
  have bcX0_1 : w12.cell? ⟨w7.heap.size, 1, none⟩ = some (.int .i64 x0_1) := BXX0_12.out.cell (i := 1) (by decide)
  have blG0 : w10.heap.size < w12.heap.size := BXG0_12.out.lt
  have bcG0_0 : w12.cell? ⟨w10.heap.size, 0, none⟩ = some (.int .i64 xr0_0) := BXG0_12.out.cell (i := 0) (by decide)
  have bcG0_1 : w12.cell? ⟨w10.heap.size, 1, none⟩ = some (.int .i64 xr0_1) := BXG0_12.out.cell (i := 1) (by decide)
  have bcG0_2 : w12.cell? ⟨w10.heap.size, 2, none⟩ = some (.slice ga0_2 lr0_2 gc0_2) := BXG0_12.out.cell (i := 2) (by decide)
  have bcG0_3 : w12.cell? ⟨w10.heap.size, 3, none⟩ = some (.int .i64 xr0_3) := BXG0_12.out.cell (i := 3) (by decide)
  have bcG0_4 : w12.cell? ⟨w10.heap.size, 4, none⟩ = some (.int .i64 xr0_4) := BXG0_12.out.cell (i := 4) (by decide)
  have bcG0_5 : w12.cell? ⟨w10.heap.size, 5, none⟩ = some (.int .i64 xr0_5) := BXG0_12.out.cell (i := 5) (by decide)
  go_wp2_with fail
  clear blP0 bcP0_0 bcP0_1 blS0 bcS0_0 bcS0_1 bcS0_2 bcS0_3 bcS0_4 bcS0_5 blX0 bcX0_0 bcX0_1 blG0 bcG0_0 bcG0_1 bcG0_2 bcG0_3 bcG0_4 bcG0_5
  refine (IntS_eq _ _ _ _ _ csr1 _ _ _ hfr1 (Nat.le_trans (Nat.le_add_right _ _) hsr1.out) G1_12.out.holds (S1.out.kept BS12.out)).mono ?_
  rintro e w13 ⟨rfl, hB⟩
  have BW13 : Hid (Below w.heap.size w w13) := BW12.out.trans (hB.mono BW12.out.size)
  have SZ13 : Hid (w12.heap.size ≤ w13.heap.size) := hB.size
  have BS13 : Hid (Below w5.heap.size w5 w13) := BS12.out.trans (hB.mono BS12.out.size)
  have X0_0_13 : Hid (Owns w13 true w6.heap.size (.l l0_0 2 cs0_0) (.slice (some ⟨Xg0_0, 0, none⟩) l0_0 l0_0) (rng w6.heap.size w7.heap.size)) := X0_0_12.out.kept hB
  have X2_13 : Hid (Owns w13 true w8.heap.size (.l l2 1 cs2) (.slice (some ⟨w8.heap.size, 0, none⟩) l2 l2) (rng w8.heap.size w9.heap.size)) := X2_12.out.kept hB
  have G0_2_13 : Hid (Owns w13 false w9.heap.size (.l lr0_2 2 csr0_2) (.slice ga0_2 lr0_2 gc0_2) gP0_2) := G0_2_12.out.kept hB
  have G1_13 : Hid (Owns w13 false w9.heap.size (.l lr1 1 csr1) (.slice ga1 lr1 gc1) gP1) := G1_12.out.kept hB
  have BXP0_13 : Hid (w13.rowIs (w.heap.size) 24 2 (rowF [.slice a0_0 l0_0 cap0_0, .int .i64 x0_1])) := BXP0_12.out.of_block (hB.block _ BXP0_12.out.lt)
  have BXS0_13 : Hid (w13.rowIs (w5.heap.size) 42 6 (rowF [.int .i64 xr0_0, .int .i64 xr0_1, .slice sa0_2 lr0_2 sc0_2, .int .i64 xr0_3, .int .i64 xr0_4, .int .i64 xr0_5])) := BXS0_12.out.of_block (hB.block _ BXS0_12.out.lt)
  have BXX0_13 : Hid (w13.rowIs (w7.heap.size) 29 2 (rowF [.slice (some ⟨Xg0_0, 0, none⟩) l0_0 l0_0, .int .i64 x0_1])) := BXX0_12.out.of_block (hB.block _ BXX0_12.out.lt)
  have BXG0_13 : Hid (w13.rowIs (w10.heap.size) 42 6 (rowF [.int .i64 xr0_0, .int .i64 xr0_1, .slice ga0_2 lr0_2 gc0_2, .int .i64 xr0_3, .int .i64 xr0_4, .int .i64 xr0_5])) := BXG0_12.out.of_block (hB.block _ BXG0_12.out.lt)
  clear hB
  have blP0 : w.heap.size < w13.heap.size := BXP0_13.out.lt
  have bcP0_0 : w13.cell? ⟨w.heap.size, 0, none⟩ = some (.slice a0_0 l0_0 cap0_0) := BXP0_13.out.cell (i := 0) (by decide)
  have bcP0_1 : w13.cell? ⟨w.heap.size, 1, none⟩ = some (.int .i64 x0_1) := BXP0_13.out.cell (i := 1) (by decide)
  have blS0 : w5.heap.size < w13.heap.size := BXS0_13.out.lt
  have bcS0_0 : w13.cell? ⟨w5.heap.size, 0, none⟩ = some (.int .i64 xr0_0) := BXS0_13.out.cell (i := 0) (by decide)
  have bcS0_1 : w13.cell? ⟨w5.heap.size, 1, none⟩ = some (.int .i64 xr0_1) := BXS0_13.out.cell (i := 1) (by decide)
  have bcS0_2 : w13.cell? ⟨w5.heap.size, 2, none⟩ = some (.slice sa0_2 lr0_2 sc0_2) := BXS0_13.out.cell (i := 2) (by decide)
  have bcS0_3 : w13.cell? ⟨w5.heap.size, 3, none⟩ = some (.int .i64 xr0_3) := BXS0_13.out.cell (i := 3) (by decide)
  have bcS0_4 : w13.cell? ⟨w5.heap.size, 4, none⟩ = some (.int .i64 xr0_4) := BXS0_13.out.cell (i := 4) (by decide)
  have bcS0_5 : w13.cell? ⟨w5.heap.size, 5, none⟩ = some (.int .i64 xr0_5) := BXS0_13.out.cell (i := 5) (by decide)
  have blX0 : w7.heap.size < w13.heap.size := BXX0_13.out.lt
  have bcX0_0 : w13.cell? ⟨w7.heap.size, 0, none⟩ = some (.slice (some ⟨Xg0_0, 0, none⟩) l0_0 l0_0) := BXX0_13.out.cell (i := 0) (by decide)
  have bcX0_1 : w13.cell? ⟨w7.heap.size, 1, none⟩ = some (.int .i64 x0_1) := BXX0_13.out.cell (i := 1) (by decide)
  have blG0 : w10.heap.size < w13.heap.size := BXG0_13.out.lt
  have bcG0_0 : w13.cell? ⟨w10.heap.size, 0, none⟩ = some (.int .i64 xr0_0) := BXG0_13.out.cell (i := 0) (by decide)
  have bcG0_1 : w13.cell? ⟨w10.heap.size, 1, none⟩ = some (.int .i64 xr0_1) := BXG0_13.out.cell (i := 1) (by decide)
  have bcG0_2 : w13.cell? ⟨w10.heap.size, 2, none⟩ = some (.slice ga0_2 lr0_2 gc0_2) := BXG0_13.out.cell (i := 2) (by decide)
  have bcG0_3 : w13.cell? ⟨w10.heap.size, 3, none⟩ = some (.int .i64 xr0_3) := BXG0_13.out.cell (i := 3) (by decide)
  have bcG0_4 : w13.cell? ⟨w10.heap.size, 4, none⟩ = some (.int .i64 xr0_4) := BXG0_13.out.cell (i := 4) (by decide)
  have bcG0_5 : w13.cell? ⟨w10.heap.size, 5, none⟩ = some (.int .i64 xr0_5) := BXG0_13.out.cell (i := 5) (by decide)
  go_wp2_with fail
  clear blP0 bcP0_0 bcP0_1 blS0 bcS0_0 bcS0_1 bcS0_2 bcS0_3 bcS0_4 bcS0_5 blX0 bcX0_0 bcX0_1 blG0 bcG0_0 bcG0_1 bcG0_2 bcG0_3 bcG0_4 bcG0_5
  have BD13 : Hid (Below w.heap.size w w13.drew) := BW13.out.drew
  have qs13 : w13.cell? ⟨w7.heap.size, 0, none⟩ = some (.slice (some ⟨Xg0_0, 0, none⟩) l0_0 l0_0) ∧ w13.cell? ⟨w7.heap.size, 1, none⟩ = some (.int .i64 x0_1) ∧ w13.cell? ⟨w.heap.size, 0, none⟩ = some (.slice a0_0 l0_0 cap0_0) ∧ w13.cell? ⟨w.heap.size, 1, none⟩ = some (.int .i64 x0_1) := ⟨(BXX0_13.out).cell (i := 0) (by decide), (BXX0_13.out).cell (i := 1) (by decide), (BXP0_13.out).cell (i := 0) (by decide), (BXP0_13.out).cell (i := 1) (by decide)⟩
  have qd13 : w13.drew.cell? ⟨w7.heap.size, 0, none⟩ = some (.slice (some ⟨Xg0_0, 0, none⟩) l0_0 l0_0) ∧ w13.drew.cell? ⟨w7.heap.size, 1, none⟩ = some (.int .i64 x0_1) ∧ w13.drew.cell? ⟨w.heap.size, 0, none⟩ = some (.slice a0_0 l0_0 cap0_0) ∧ w13.drew.cell? ⟨w.heap.size, 1, none⟩ = some (.int .i64 x0_1) := qs13
  go_region_held3 (fun w' => w'.cell? ⟨w7.heap.size, 0, none⟩ = some (.slice (some ⟨Xg0_0, 0, none⟩) l0_0 l0_0) ∧ w'.cell? ⟨w7.heap.size, 1, none⟩ = some (.int .i64 x0_1) ∧ w'.cell? ⟨w.heap.size, 0, none⟩ = some (.slice a0_0 l0_0 cap0_0) ∧ w'.cell? ⟨w.heap.size, 1, none⟩ = some (.int .i64 x0_1)) (first | assumption | exact qs13 | exact qd13 | exact qs14 | exact qs15 | go_keep) (first
    | (go_at_call 11; refine (World_to _ _ _ cs0_0 x0_1 false _ hf0_0 hs0_0 (h0_0.out.kept BD13.out)).mono ?_; rintro e w14 ⟨Zg0_0, rfl, hO0_0, hle0, hB⟩; have BW14 : Hid (Below w.heap.size w w14) := BD13.out.trans (hB.mono BD13.out.size); have SZ14 : Hid (w13.heap.size ≤ w14.heap.size) := hB.size; have BS14 : Hid (Below w5.heap.size w5 w14) := BS13.out.drew.trans (hB.mono BS13.out.drew.size); have X0_0_14 : Hid (Owns w14 true w6.heap.size (.l l0_0 2 cs0_0) (.slice (some ⟨Xg0_0, 0, none⟩) l0_0 l0_0) (rng w6.heap.size w7.heap.size)) := (X0_0_13.out.kept (Below.refl _ _).drew).kept hB; have X2_14 : Hid (Owns w14 true w8.heap.size (.l l2 1 cs2) (.slice (some ⟨w8.heap.size, 0, none⟩) l2 l2) (rng w8.heap.size w9.heap.size)) := (X2_13.out.kept (Below.refl _ _).drew).kept hB; have G0_2_14 : Hid (Owns w14 false w9.heap.size (.l lr0_2 2 csr0_2) (.slice ga0_2 lr0_2 gc0_2) gP0_2) := (G0_2_13.out.kept (Below.refl _ _).drew).kept hB; have G1_14 : Hid (Owns w14 false w9.heap.size (.l lr1 1 csr1) (.slice ga1 lr1 gc1) gP1) := (G1_13.out.kept (Below.refl _ _).drew).kept hB; have BXP0_14 : Hid (w14.rowIs (w.heap.size) 24 2 (rowF [.slice a0_0 l0_0 cap0_0, .int .i64 x0_1])) := BXP0_13.out.of_block (hB.block _ BXP0_13.out.lt); have BXS0_14 : Hid (w14.rowIs (w5.heap.size) 42 6 (rowF [.int .i64 xr0_0, .int .i64 xr0_1, .slice sa0_2 lr0_2 sc0_2, .int .i64 xr0_3, .int .i64 xr0_4, .int .i64 xr0_5])) := BXS0_13.out.of_block (hB.block _ BXS0_13.out.lt); have BXX0_14 : Hid (w14.rowIs (w7.heap.size) 29 2 (rowF [.slice (some ⟨Xg0_0, 0, none⟩) l0_0 l0_0, .int .i64 x0_1])) := BXX0_13.out.of_block (hB.block _ BXX0_13.out.lt); have BXG0_14 : Hid (w14.rowIs (w10.heap.size) 42 6 (rowF [.int .i64 xr0_0, .int .i64 xr0_1, .slice ga0_2 lr0_2 gc0_2, .int .i64 xr0_3, .int .i64 xr0_4, .int .i64 xr0_5])) := BXG0_13.out.of_block (hB.block _ BXG0_13.out.lt); have Z0_0_14 : Hid (Holds w14 true (.l l0_0 2 cs0_0) (.slice (some ⟨Zg0_0, 0, none⟩) l0_0 l0_0)) := hO0_0.holds; have qs14 : w14.cell? ⟨w7.heap.size, 0, none⟩ = some (.slice (some ⟨Xg0_0, 0, none⟩) l0_0 l0_0) ∧ w14.cell? ⟨w7.heap.size, 1, none⟩ = some (.int .i64 x0_1) ∧ w14.cell? ⟨w.heap.size, 0, none⟩ = some (.slice a0_0 l0_0 cap0_0) ∧ w14.cell? ⟨w.heap.size, 1, none⟩ = some (.int .i64 x0_1) := ⟨(BXX0_14.out).cell (i := 0) (by decide), (BXX0_14.out).cell (i := 1) (by decide), (BXP0_14.out).cell (i := 0) (by decide), (BXP0_14.out).cell (i := 1) (by decide)⟩; clear hB hO0_0 hle0)
    | (go_at_call 13; refine (World_eq _ _ _ cs0_0 x0_1 _ _ _ _ _ hf0_0 hs0_0 X0_0_14.out.holds Z0_0_14).mono ?_; rintro e w15 ⟨rfl, hB⟩; have BW15 : Hid (Below w.heap.size w w15) := BW14.out.trans (hB.mono BW14.out.size); have SZ15 : Hid (w14.heap.size ≤ w15.heap.size) := hB.size; have BS15 : Hid (Below w5.heap.size w5 w15) := BS14.out.trans (hB.mono BS14.out.size); have X0_0_15 : Hid (Owns w15 true w6.heap.size (.l l0_0 2 cs0_0) (.slice (some ⟨Xg0_0, 0, none⟩) l0_0 l0_0) (rng w6.heap.size w7.heap.size)) := X0_0_14.out.kept hB; have X2_15 : Hid (Owns w15 true w8.heap.size (.l l2 1 cs2) (.slice (some ⟨w8.heap.size, 0, none⟩) l2 l2) (rng w8.heap.size w9.heap.size)) := X2_14.out.kept hB; have G0_2_15 : Hid (Owns w15 false w9.heap.size (.l lr0_2 2 csr0_2) (.slice ga0_2 lr0_2 gc0_2) gP0_2) := G0_2_14.out.kept hB; have G1_15 : Hid (Owns w15 false w9.heap.size (.l lr1 1 csr1) (.slice ga1 lr1 gc1) gP1) := G1_14.out.kept hB; have BXP0_15 : Hid (w15.rowIs (w.heap.size) 24 2 (rowF [.slice a0_0 l0_0 cap0_0, .int .i64 x0_1])) := BXP0_14.out.of_block (hB.block _ BXP0_14.out.lt); have BXS0_15 : Hid (w15.rowIs (w5.heap.size) 42 6 (rowF [.int .i64 xr0_0, .int .i64 xr0_1, .slice sa0_2 lr0_2 sc0_2, .int .i64 xr0_3, .int .i64 xr0_4, .int .i64 xr0_5])) := BXS0_14.out.of_block (hB.block _ BXS0_14.out.lt); have BXX0_15 : Hid (w15.rowIs (w7.heap.size) 29 2 (rowF [.slice (some ⟨Xg0_0, 0, none⟩) l0_0 l0_0, .int .i64 x0_1])) := BXX0_14.out.of_block (hB.block _ BXX0_14.out.lt); have BXG0_15 : Hid (w15.rowIs (w10.heap.size) 42 6 (rowF [.int .i64 xr0_0, .int .i64 xr0_1, .slice ga0_2 lr0_2 gc0_2, .int .i64 xr0_3, .int .i64 xr0_4, .int .i64 xr0_5])) := BXG0_14.out.of_block (hB.block _ BXG0_14.out.lt); have qs15 : w15.cell? ⟨w7.heap.size, 0, none⟩ = some (.slice (some ⟨Xg0_0, 0, none⟩) l0_0 l0_0) ∧ w15.cell? ⟨w7.heap.size, 1, none⟩ = some (.int .i64 x0_1) ∧ w15.cell? ⟨w.heap.size, 0, none⟩ = some (.slice a0_0 l0_0 cap0_0) ∧ w15.cell? ⟨w.heap.size, 1, none⟩ = some (.int .i64 x0_1) := ⟨(BXX0_15.out).cell (i := 0) (by decide), (BXX0_15.out).cell (i := 1) (by decide), (BXP0_15.out).cell (i := 0) (by decide), (BXP0_15.out).cell (i := 1) (by decide)⟩; clear hB))
  clear qs13 qd13 qs14 qs15
  have blP0 : w.heap.size < w15.heap.size := BXP0_15.out.lt
  have bcP0_0 : w15.cell? ⟨w.heap.size, 0, none⟩ = some (.slice a0_0 l0_0 cap0_0) := BXP0_15.out.cell (i := 0) (by decide)
  have bcP0_1 : w15.cell? ⟨w.heap.size, 1, none⟩ = some (.int .i64 x0_1) := BXP0_15.out.cell (i := 1) (by decide)
  have blS0 : w5.heap.size < w15.heap.size := BXS0_15.out.lt
  have bcS0_0 : w15.cell? ⟨w5.heap.size, 0, none⟩ = some (.int .i64 xr0_0) := BXS0_15.out.cell (i := 0) (by decide)
  have bcS0_1 : w15.cell? ⟨w5.heap.size, 1, none⟩ = some (.int .i64 xr0_1) := BXS0_15.out.cell (i := 1) (by decide)
  have bcS0_2 : w15.cell? ⟨w5.heap.size, 2, none⟩ = some (.slice sa0_2 lr0_2 sc0_2) := BXS0_15.out.cell (i := 2) (by decide)
  have bcS0_3 : w15.cell? ⟨w5.heap.size, 3, none⟩ = some (.int .i64 xr0_3) := BXS0_15.out.cell (i := 3) (by decide)
  have bcS0_4 : w15.cell? ⟨w5.heap.size, 4, none⟩ = some (.int .i64 xr0_4) := BXS0_15.out.cell (i := 4) (by decide)
  have bcS0_5 : w15.cell? ⟨w5.heap.size, 5, none⟩ = some (.int .i64 xr0_5) := BXS0_15.out.cell (i := 5) (by decide)
  have blX0 : w7.heap.size < w15.heap.size := BXX0_15.out.lt
  have bcX0_0 : w15.cell? ⟨w7.heap.size, 0, none⟩ = some (.slice (some ⟨Xg0_0, 0, none⟩) l0_0 l0_0) := BXX0_15.out.cell (i := 0) (by decide)
  have bcX0_1 : w15.cell? ⟨w7.heap.size, 1, none⟩ = some (.int .i64 x0_1) := BXX0_15.out.cell (i := 1) (by decide)
  have blG0 : w10.heap.size < w15.heap.size := BXG0_15.out.lt
  have bcG0_0 : w15.cell? ⟨w10.heap.size, 0, none⟩ = some (.int .i64 xr0_0) := BXG0_15.out.cell (i := 0) (by decide)
  have bcG0_1 : w15.cell? ⟨w10.heap.size, 1, none⟩ = some (.int .i64 xr0_1) := BXG0_15.out.cell (i := 1) (by decide)
  have bcG0_2 : w15.cell? ⟨w10.heap.size, 2, none⟩ = some (.slice ga0_2 lr0_2 gc0_2) := BXG0_15.out.cell (i := 2) (by decide)
  have bcG0_3 : w15.cell? ⟨w10.heap.size, 3, none⟩ = some (.int .i64 xr0_3) := BXG0_15.out.cell (i := 3) (by decide)
  have bcG0_4 : w15.cell? ⟨w10.heap.size, 4, none⟩ = some (.int .i64 xr0_4) := BXG0_15.out.cell (i := 4) (by decide)
  have bcG0_5 : w15.cell? ⟨w10.heap.size, 5, none⟩ = some (.int .i64 xr0_5) := BXG0_15.out.cell (i := 5) (by decide)
  go_wp2_with fail
  clear blP0 bcP0_0 bcP0_1 blS0 bcS0_0 bcS0_1 bcS0_2 bcS0_3 bcS0_4 bcS0_5 blX0 bcX0_0 bcX0_1 blG0 bcG0_0 bcG0_1 bcG0_2 bcG0_3 bcG0_4 bcG0_5
  refine (IntS_to _ _ _ cs2 false _ hf2 (Nat.le_trans (Nat.le_add_right _ _) hs2.out) (h2.out.kept BW15.out)).mono ?_
  rintro e w16 ⟨rfl, hO, hB⟩
  have Z2_16 : Hid (Owns w16 true w15.heap.size (.l l2 1 cs2) (.slice (some ⟨w15.heap.size, 0, none⟩) l2 l2) (rng w15.heap.size w16.heap.size)) := hO
  have BW16 : Hid (Below w.heap.size w w16) := BW15.out.trans (hB.mono BW15.out.size)
  have SZ16 : Hid (w15.heap.size ≤ w16.heap.size) := hB.size
  have BS16 : Hid (Below w5.heap.size w5 w16) := BS15.out.trans (hB.mono BS15.out.size)
  have X0_0_16 : Hid (Owns w16 true w6.heap.size (.l l0_0 2 cs0_0) (.slice (some ⟨Xg0_0, 0, none⟩) l0_0 l0_0) (rng w6.heap.size w7.heap.size)) := X0_0_15.out.kept hB
  have X2_16 : Hid (Owns w16 true w8.heap.size (.l l2 1 cs2) (.slice (some ⟨w8.heap.size, 0, none⟩) l2 l2) (rng w8.heap.size w9.heap.size)) := X2_15.out.kept hB
  have G0_2_16 : Hid (Owns w16 false w9.heap.size (.l lr0_2 2 csr0_2) (.slice ga0_2 lr0_2 gc0_2) gP0_2) := G0_2_15.out.kept hB
  have G1_16 : Hid (Owns w16 false w9.heap.size (.l lr1 1 csr1) (.slice ga1 lr1 gc1) gP1) := G1_15.out.kept hB
  have BXP0_16 : Hid (w16.rowIs (w.heap.size) 24 2 (rowF [.slice a0_0 l0_0 cap0_0, .int .i64 x0_1])) := BXP0_15.out.of_block (hB.block _ BXP0_15.out.lt)
  have BXS0_16 : Hid (w16.rowIs (w5.heap.size) 42 6 (rowF [.int .i64 xr0_0, .int .i64 xr0_1, .slice sa0_2 lr0_2 sc0_2, .int .i64 xr0_3, .int .i64 xr0_4, .int .i64 xr0_5])) := BXS0_15.out.of_block (hB.block _ BXS0_15.out.lt)
  have BXX0_16 : Hid (w16.rowIs (w7.heap.size) 29 2 (rowF [.slice (some ⟨Xg0_0, 0, none⟩) l0_0 l0_0, .int .i64 x0_1])) := BXX0_15.out.of_block (hB.block _ BXX0_15.out.lt)
  have BXG0_16 : Hid (w16.rowIs (w10.heap.size) 42 6 (rowF [.int .i64 xr0_0, .int .i64 xr0_1, .slice ga0_2 lr0_2 gc0_2, .int .i64 xr0_3, .int .i64 xr0_4, .int .i64 xr0_5])) := BXG0_15.out.of_block (hB.block _ BXG0_15.out.lt)
  clear hO hB
  have blP0 : w.heap.size < w16.heap.size := BXP0_16.out.lt
  have bcP0_0 : w16.cell? ⟨w.heap.size, 0, none⟩ = some (.slice a0_0 l0_0 cap0_0) := BXP0_16.out.cell (i := 0) (by decide)
  have bcP0_1 : w16.cell? ⟨w.heap.size, 1, none⟩ = some (.int .i64 x0_1) := BXP0_16.out.cell (i := 1) (by decide)
  have blS0 : w5.heap.size < w16.heap.size := BXS0_16.out.lt
  have bcS0_0 : w16.cell? ⟨w5.heap.size, 0, none⟩ = some (.int .i64 xr0_0) := BXS0_16.out.cell (i := 0) (by decide)
  have bcS0_1 : w16.cell? ⟨w5.heap.size, 1, none⟩ = some (.int .i64 xr0_1) := BXS0_16.out.cell (i := 1) (by decide)
  have bcS0_2 : w16.cell? ⟨w5.heap.size, 2, none⟩ = some (.slice sa0_2 lr0_2 sc0_2) := BXS0_16.out.cell (i := 2) (by decide)
  have bcS0_3 : w16.cell? ⟨w5.heap.size, 3, none⟩ = some (.int .i64 xr0_3) := BXS0_16.out.cell (i := 3) (by decide)
  have bcS0_4 : w16.cell? ⟨w5.heap.size, 4, none⟩ = some (.int .i64 xr0_4) := BXS0_16.out.cell (i := 4) (by decide)
  have bcS0_5 : w16.cell? ⟨w5.heap.size, 5, none⟩ = some (.int .i64 xr0_5) := BXS0_16.out.cell (i := 5) (by decide)
  have blX0 : w7.heap.size < w16.heap.size := BXX0_16.out.lt
  have bcX0_0 : w16.cell? ⟨w7.heap.size, 0, none⟩ = some (.slice (some ⟨Xg0_0, 0, none⟩) l0_0 l0_0) := BXX0_16.out.cell (i := 0) (by decide)
  have bcX0_1 : w16.cell? ⟨w7.heap.size, 1, none⟩ = some (.int .i64 x0_1) := BXX0_16.out.cell (i := 1) (by decide)
  have blG0 : w10.heap.size < w16.heap.size := BXG0_16.out.lt
  have bcG0_0 : w16.cell? ⟨w10.heap.size, 0, none⟩ = some (.int .i64 xr0_0) := BXG0_16.out.cell (i := 0) (by decide)
  have bcG0_1 : w16.cell? ⟨w10.heap.size, 1, none⟩ = some (.int .i64 xr0_1) := BXG0_16.out.cell (i := 1) (by decide)
  have bcG0_2 : w16.cell? ⟨w10.heap.size, 2, none⟩ = some (.slice ga0_2 lr0_2 gc0_2) := BXG0_16.out.cell (i := 2) (by decide)
  have bcG0_3 : w16.cell? ⟨w10.heap.size, 3, none⟩ = some (.int .i64 xr0_3) := BXG0_16.out.cell (i := 3) (by decide)
  have bcG0_4 : w16.cell? ⟨w10.heap.size, 4, none⟩ = some (.int .i64 xr0_4) := BXG0_16.out.cell (i := 4) (by decide)
  have bcG0_5 : w16.cell? ⟨w10.heap.size, 5, none⟩ = some (.int .i64 xr0_5) := BXG0_16.out.cell (i := 5) (by decide)
  go_wp2_with fail
  clear blP0 bcP0_0 bcP0_1 blS0 bcS0_0 bcS0_1 bcS0_2 bcS0_3 bcS0_4 bcS0_5 blX0 bcX0_0 bcX0_1 blG0 bcG0_0 bcG0_1 bcG0_2 bcG0_3 bcG0_4 bcG0_5
  refine (IntS_eq _ _ _ _ _ cs2 _ _ _ hf2 (Nat.le_trans (Nat.le_add_right _ _) hs2.out) X2_16.out.holds Z2_16.out.holds).mono ?_
  rintro e w17 ⟨rfl, hB⟩
  have BW17 : Hid (Below w.heap.size w w17) := BW16.out.trans (hB.mono BW16.out.size)
  have SZ17 : Hid (w16.heap.size ≤ w17.heap.size) := hB.size
  have BS17 : Hid (Below w5.heap.size w5 w17) := BS16.out.trans (hB.mono BS16.out.size)
  have X0_0_17 : Hid (Owns w17 true w6.heap.size (.l l0_0 2 cs0_0) (.slice (some ⟨Xg0_0, 0, none⟩) l0_0 l0_0) (rng w6.heap.size w7.heap.size)) := X0_0_16.out.kept hB
  have X2_17 : Hid (Owns w17 true w8.heap.size (.l l2 1 cs2) (.slice (some ⟨w8.heap.size, 0, none⟩) l2 l2) (rng w8.heap.size w9.heap.size)) := X2_16.out.kept hB
  have G0_2_17 : Hid (Owns w17 false w9.heap.size (.l lr0_2 2 csr0_2) (.slice ga0_2 lr0_2 gc0_2) gP0_2) := G0_2_16.out.kept hB
  have G1_17 : Hid (Owns w17 false w9.heap.size (.l lr1 1 csr1) (.slice ga1 lr1 gc1) gP1) := G1_16.out.kept hB
  have Z2_17 : Hid (Owns w17 true w15.heap.size (.l l2 1 cs2) (.slice (some ⟨w15.heap.size, 0, none⟩) l2 l2) (rng w15.heap.size w16.heap.size)) := Z2_16.out.kept hB
  have BXP0_17 : Hid (w17.rowIs (w.heap.size) 24 2 (rowF [.slice a0_0 l0_0 cap0_0, .int .i64 x0_1])) := BXP0_16.out.of_block (hB.block _ BXP0_16.out.lt)
  have BXS0_17 : Hid (w17.rowIs (w5.heap.size) 42 6 (rowF [.int .i64 xr0_0, .int .i64 xr0_1, .slice sa0_2 lr0_2 sc0_2, .int .i64 xr0_3, .int .i64 xr0_4, .int .i64 xr0_5])) := BXS0_16.out.of_block (hB.block _ BXS0_16.out.lt)
  have BXX0_17 : Hid (w17.rowIs (w7.heap.size) 29 2 (rowF [.slice (some ⟨Xg0_0, 0, none⟩) l0_0 l0_0, .int .i64 x0_1])) := BXX0_16.out.of_block (hB.block _ BXX0_16.out.lt)
  have BXG0_17 : Hid (w17.rowIs (w10.heap.size) 42 6 (rowF [.int .i64 xr0_0, .int .i64 xr0_1, .slice ga0_2 lr0_2 gc0_2, .int .i64 xr0_3, .int .i64 xr0_4, .int .i64 xr0_5])) := BXG0_16.out.of_block (hB.block _ BXG0_16.out.lt)
  clear hB
  have hcn0_0 := cnt_le thin_ClassS hf0_0.out
  obtain ⟨N0_0, HN0_0⟩ : ∃ N, Hid (cntD (.l l0_0 2 cs0_0) = N) := ⟨_, rfl⟩
  have hN0_0 : N0_0 ≤ 8388609 := by have q := hs0_0.out; rw [HN0_0.out] at hcn0_0; omega
  clear hcn0_0
  have hcn2 := cnt_le (s := shI) ⟨by decide, fun _ => trivial⟩ hf2.out
  obtain ⟨N2, HN2⟩ : ∃ N, Hid (cntD (.l l2 1 cs2) = N) := ⟨_, rfl⟩
  have hN2 : N2 ≤ 8388609 := by have q := hs2.out; rw [HN2.out] at hcn2; omega
  clear hcn2
  have blP0 : w.heap.size < w17.heap.size := BXP0_17.out.lt
  have bcP0_0 : w17.cell? ⟨w.heap.size, 0, none⟩ = some (.slice a0_0 l0_0 cap0_0) := BXP0_17.out.cell (i := 0) (by decide)
  have bcP0_1 : w17.cell? ⟨w.heap.size, 1, none⟩ = some (.int .i64 x0_1) := BXP0_17.out.cell (i := 1) (by decide)
  have blS0 : w5.heap.size < w17.heap.size := BXS0_17.out.lt
  have bcS0_0 : w17.cell? ⟨w5.heap.size, 0, none⟩ = some (.int .i64 xr0_0) := BXS0_17.out.cell (i := 0) (by decide)
  have bcS0_1 : w17.cell? ⟨w5.heap.size, 1, none⟩ = some (.int .i64 xr0_1) := BXS0_17.out.cell (i := 1) (by decide)
  have bcS0_2 : w17.cell? ⟨w5.heap.size, 2, none⟩ = some (.slice sa0_2 lr0_2 sc0_2) := BXS0_17.out.cell (i := 2) (by decide)
  have bcS0_3 : w17.cell? ⟨w5.heap.size, 3, none⟩ = some (.int .i64 xr0_3) := BXS0_17.out.cell (i := 3) (by decide)
  have bcS0_4 : w17.cell? ⟨w5.heap.size, 4, none⟩ = some (.int .i64 xr0_4) := BXS0_17.out.cell (i := 4) (by decide)
  have bcS0_5 : w17.cell? ⟨w5.heap.size, 5, none⟩ = some (.int .i64 xr0_5) := BXS0_17.out.cell (i := 5) (by decide)
  have blX0 : w7.heap.size < w17.heap.size := BXX0_17.out.lt
  have bcX0_0 : w17.cell? ⟨w7.heap.size, 0, none⟩ = some (.slice (some ⟨Xg0_0, 0, none⟩) l0_0 l0_0) := BXX0_17.out.cell (i := 0) (by decide)
  have bcX0_1 : w17.cell? ⟨w7.heap.size, 1, none⟩ = some (.int .i64 x0_1) := BXX0_17.out.cell (i := 1) (by decide)
  have blG0 : w10.heap.size < w17.heap.size := BXG0_17.out.lt
  have bcG0_0 : w17.cell? ⟨w10.heap.size, 0, none⟩ = some (.int .i64 xr0_0) := BXG0_17.out.cell (i := 0) (by decide)
  have bcG0_1 : w17.cell? ⟨w10.heap.size, 1, none⟩ = some (.int .i64 xr0_1) := BXG0_17.out.cell (i := 1) (by decide)
  have bcG0_2 : w17.cell? ⟨w10.heap.size, 2, none⟩ = some (.slice ga0_2 lr0_2 gc0_2) := BXG0_17.out.cell (i := 2) (by decide)
  have bcG0_3 : w17.cell? ⟨w10.heap.size, 3, none⟩ = some (.int .i64 xr0_3) := BXG0_17.out.cell (i := 3) (by decide)
  have bcG0_4 : w17.cell? ⟨w10.heap.size, 4, none⟩ = some (.int .i64 xr0_4) := BXG0_17.out.cell (i := 4) (by decide)
  have bcG0_5 : w17.cell? ⟨w10.heap.size, 5, none⟩ = some (.int .i64 xr0_5) := BXG0_17.out.cell (i := 5) (by decide)
  go_wp2_with fail
  clear blP0 bcP0_0 bcP0_1 blS0 bcS0_0 bcS0_1 bcS0_2 bcS0_3 bcS0_4 bcS0_5 blX0 bcX0_0 bcX0_1 blG0 bcG0_0 bcG0_1 bcG0_2 bcG0_3 bcG0_4 bcG0_5
  refine (World_mark (1) (by omega) (by omega) _ _ _ cs0_0 x0_1 true _ _ _ hf0_0 hs0_0 X0_0_17 (fun x hx => by have r1 := hx.2; have t0 := Xle0_0.out; have q8 := SZ8.out; have q9 := SZ9.out; have q10 := SZ10.out; have q11 := SZ11.out; have q12 := SZ12.out; have q13 := SZ13.out; have q14 := SZ14.out; have q15 := SZ15.out; have q16 := SZ16.out; have q17 := SZ17.out; omega) ).mono ?_
  rw [HN0_0.out]
  rintro e w18 ⟨rfl, _, hF⟩
  have hF : OnlyF w17 w18 (rng w6.heap.size w7.heap.size) := hF.more (fun x hx => hx)
  have hB : Below w6.heap.size w17 w18 := hF.below (by have q7 := SZ7.out; have q8 := SZ8.out; have q9 := SZ9.out; have q10 := SZ10.out; have q11 := SZ11.out; have q12 := SZ12.out; have q13 := SZ13.out; have q14 := SZ14.out; have q15 := SZ15.out; have q16 := SZ16.out; have q17 := SZ17.out; omega) (fun x hx => hx.1)
  have BW18 : Hid (Below w.heap.size w w18) := BW17.out.trans (hB.mono BW6.out.size)
  have SZ18 : Hid (w17.heap.size ≤ w18.heap.size) := hB.size
  have BS18 : Hid (Below w5.heap.size w5 w18) := BS17.out.trans (hB.mono BS6.out.size)
  have X2_18 : Hid (Owns w18 true w8.heap.size (.l l2 1 cs2) (.slice (some ⟨w8.heap.size, 0, none⟩) l2 l2) (rng w8.heap.size w9.heap.size)) := hF.owns (fun x hx hy => by have r1 := hx.1; have r2 := hy.2; have q8 := SZ8.out;  omega) X2_17.out
  have G0_2_18 : Hid (Owns w18 false w9.heap.size (.l lr0_2 2 csr0_2) (.slice ga0_2 lr0_2 gc0_2) gP0_2) := hF.owns (fun x hx hy => by have r1 := (GF0_2.out x hx).1; have r2 := hy.2; have q8 := SZ8.out; have q9 := SZ9.out; omega) G0_2_17.out
  have G1_18 : Hid (Owns w18 false w9.heap.size (.l lr1 1 csr1) (.slice ga1 lr1 gc1) gP1) := hF.owns (fun x hx hy => by have r1 := (GF1.out x hx).1; have r2 := hy.2; have q8 := SZ8.out; have q9 := SZ9.out; omega) G1_17.out
  have BXP0_18 : Hid (w18.rowIs (w.heap.size) 24 2 (rowF [.slice a0_0 l0_0 cap0_0, .int .i64 x0_1])) := BXP0_17.out.of_block (hF.block _ BXP0_17.out.lt (fun hy => by have r1 := hy.1; have r2 := LTP0.out; have q2 := SZ2.out; have q3 := SZ3.out; have q4 := SZ4.out; have q5 := SZ5.out; have q6 := SZ6.out; omega))
  have BXS0_18 : Hid (w18.rowIs (w5.heap.size) 42 6 (rowF [.int .i64 xr0_0, .int .i64 xr0_1, .slice sa0_2 lr0_2 sc0_2, .int .i64 xr0_3, .int .i64 xr0_4, .int .i64 xr0_5])) := BXS0_17.out.of_block (hF.block _ BXS0_17.out.lt (fun hy => by have r1 := hy.1; have r2 := LTS0.out;  omega))
  have BXX0_18 : Hid (w18.rowIs (w7.heap.size) 29 2 (rowF [.slice (some ⟨Xg0_0, 0, none⟩) l0_0 l0_0, .int .i64 x0_1])) := BXX0_17.out.of_block (hF.block _ BXX0_17.out.lt (fun hy => by have r1 := hy.2; have r3 := ADX0.out;  omega))
  have BXG0_18 : Hid (w18.rowIs (w10.heap.size) 42 6 (rowF [.int .i64 xr0_0, .int .i64 xr0_1, .slice ga0_2 lr0_2 gc0_2, .int .i64 xr0_3, .int .i64 xr0_4, .int .i64 xr0_5])) := BXG0_17.out.of_block (hF.block _ BXG0_17.out.lt (fun hy => by have r1 := hy.2; have r3 := ADG0.out; have q8 := SZ8.out; have q9 := SZ9.out; have q10 := SZ10.out; omega))
  clear hF hB
  have blP0 : w.heap.size < w18.heap.size := BXP0_18.out.lt
  have bcP0_0 : w18.cell? ⟨w.heap.size, 0, none⟩ = some (.slice a0_0 l0_0 cap0_0) := BXP0_18.out.cell (i := 0) (by decide)
  have bcP0_1 : w18.cell? ⟨w.heap.size, 1, none⟩ = some (.int .i64 x0_1) := BXP0_18.out.cell (i := 1) (by decide)
  have blS0 : w5.heap.size < w18.heap.size := BXS0_18.out.lt
  have bcS0_0 : w18.cell? ⟨w5.heap.size, 0, none⟩ = some (.int .i64 xr0_0) := BXS0_18.out.cell (i := 0) (by decide)
  have bcS0_1 : w18.cell? ⟨w5.heap.size, 1, none⟩ = some (.int .i64 xr0_1) := BXS0_18.out.cell (i := 1) (by decide)
  have bcS0_2 : w18.cell? ⟨w5.heap.size, 2, none⟩ = some (.slice sa0_2 lr0_2 sc0_2) := BXS0_18.out.cell (i := 2) (by decide)
  have bcS0_3 : w18.cell? ⟨w5.heap.size, 3, none⟩ = some (.int .i64 xr0_3) := BXS0_18.out.cell (i := 3) (by decide)
  have bcS0_4 : w18.cell? ⟨w5.heap.size, 4, none⟩ = some (.int .i64 xr0_4) := BXS0_18.out.cell (i := 4) (by decide)
  have bcS0_5 : w18.cell? ⟨w5.heap.size, 5, none⟩ = some (.int .i64 xr0_5) := BXS0_18.out.cell (i := 5) (by decide)
  have blX0 : w7.heap.size < w18.heap.size := BXX0_18.out.lt
  have bcX0_0 : w18.cell? ⟨w7.heap.size, 0, none⟩ = some (.slice (some ⟨Xg0_0, 0, none⟩) l0_0 l0_0) := BXX0_18.out.cell (i := 0) (by decide)
  have bcX0_1 : w18.cell? ⟨w7.heap.size, 1, none⟩ = some (.int .i64 x0_1) := BXX0_18.out.cell (i := 1) (by decide)
  have blG0 : w10.heap.size < w18.heap.size := BXG0_18.out.lt
  have bcG0_0 : w18.cell? ⟨w10.heap.size, 0, none⟩ = some (.int .i64 xr0_0) := BXG0_18.out.cell (i := 0) (by decide)
  have bcG0_1 : w18.cell? ⟨w10.heap.size, 1, none⟩ = some (.int .i64 xr0_1) := BXG0_18.out.cell (i := 1) (by decide)
  have bcG0_2 : w18.cell? ⟨w10.heap.size, 2, none⟩ = some (.slice ga0_2 lr0_2 gc0_2) := BXG0_18.out.cell (i := 2) (by decide)
  have bcG0_3 : w18.cell? ⟨w10.heap.size, 3, none⟩ = some (.int .i64 xr0_3) := BXG0_18.out.cell (i := 3) (by decide)
  have bcG0_4 : w18.cell? ⟨w10.heap.size, 4, none⟩ = some (.int .i64 xr0_4) := BXG0_18.out.cell (i := 4) (by decide)
  have bcG0_5 : w18.cell? ⟨w10.heap.size, 5, none⟩ = some (.int .i64 xr0_5) := BXG0_18.out.cell (i := 5) (by decide)
  go_wp2_with fail
  clear blP0 bcP0_0 bcP0_1 blS0 bcS0_0 bcS0_1 bcS0_2 bcS0_3 bcS0_4 bcS0_5 blX0 bcX0_0 bcX0_1 blG0 bcG0_0 bcG0_1 bcG0_2 bcG0_3 bcG0_4 bcG0_5
  refine (IntS_mark (1 + (N0_0 : Int)) (by omega) (by omega) _ _ _ cs2 true _ _ _ hf2 (Nat.le_trans (Nat.le_add_right _ _) hs2.out) X2_18).mono ?_
  rw [HN2.out]
  rintro e w19 ⟨rfl, _, hF⟩
  have hB : Below w8.heap.size w18 w19 := hF.below (by have q9 := SZ9.out; have q10 := SZ10.out; have q11 := SZ11.out; have q12 := SZ12.out; have q13 := SZ13.out; have q14 := SZ14.out; have q15 := SZ15.out; have q16 := SZ16.out; have q17 := SZ17.out; have q18 := SZ18.out; omega) (fun x hx => hx.1)
  have BW19 : Hid (Below w.heap.size w w19) := BW18.out.trans (hB.mono BW8.out.size)
  have SZ19 : Hid (w18.heap.size ≤ w19.heap.size) := hB.size
  have BS19 : Hid (Below w5.heap.size w5 w19) := BS18.out.trans (hB.mono BS8.out.size)
  have G0_2_19 : Hid (Owns w19 false w9.heap.size (.l lr0_2 2 csr0_2) (.slice ga0_2 lr0_2 gc0_2) gP0_2) := hF.owns (fun x hx hy => by have r1 := (GF0_2.out x hx).1; have r2 := hy.2;  omega) G0_2_18.out
  have G1_19 : Hid (Owns w19 false w9.heap.size (.l lr1 1 csr1) (.slice ga1 lr1 gc1) gP1) := hF.owns (fun x hx hy => by have r1 := (GF1.out x hx).1; have r2 := hy.2;  omega) G1_18.out
  have BXP0_19 : Hid (w19.rowIs (w.heap.size) 24 2 (rowF [.slice a0_0 l0_0 cap0_0, .int .i64 x0_1])) := BXP0_18.out.of_block (hF.block _ BXP0_18.out.lt (fun hy => by have r1 := hy.1; have r2 := LTP0.out; have q2 := SZ2.out; have q3 := SZ3.out; have q4 := SZ4.out; have q5 := SZ5.out; have q6 := SZ6.out; have q7 := SZ7.out; have q8 := SZ8.out; omega))
  have BXS0_19 : Hid (w19.rowIs (w5.heap.size) 42 6 (rowF [.int .i64 xr0_0, .int .i64 xr0_1, .slice sa0_2 lr0_2 sc0_2, .int .i64 xr0_3, .int .i64 xr0_4, .int .i64 xr0_5])) := BXS0_18.out.of_block (hF.block _ BXS0_18.out.lt (fun hy => by have r1 := hy.1; have r2 := LTS0.out; have q7 := SZ7.out; have q8 := SZ8.out; omega))
  have BXX0_19 : Hid (w19.rowIs (w7.heap.size) 29 2 (rowF [.slice (some ⟨Xg0_0, 0, none⟩) l0_0 l0_0, .int .i64 x0_1])) := BXX0_18.out.of_block (hF.block _ BXX0_18.out.lt (fun hy => by have r1 := hy.1; have r2 := LTX0.out;  omega))
  have BXG0_19 : Hid (w19.rowIs (w10.heap.size) 42 6 (rowF [.int .i64 xr0_0, .int .i64 xr0_1, .slice ga0_2 lr0_2 gc0_2, .int .i64 xr0_3, .int .i64 xr0_4, .int .i64 xr0_5])) := BXG0_18.out.of_block (hF.block _ BXG0_18.out.lt (fun hy => by have r1 := hy.2; have r3 := ADG0.out; have q10 := SZ10.out; omega))
  clear hF hB
  have hk : (0 : Int) ≤ 1 + (N0_0 : Int) + (N2 : Int) := by omega
  have blP0 : w.heap.size < w19.heap.size := BXP0_19.out.lt
  have bcP0_0 : w19.cell? ⟨w.heap.size, 0, none⟩ = some (.slice a0_0 l0_0 cap0_0) := BXP0_19.out.cell (i := 0) (by decide)
  have bcP0_1 : w19.cell? ⟨w.heap.size, 1, none⟩ = some (.int .i64 x0_1) := BXP0_19.out.cell (i := 1) (by decide)
  have blS0 : w5.heap.size < w19.heap.size := BXS0_19.out.lt
  have bcS0_0 : w19.cell? ⟨w5.heap.size, 0, none⟩ = some (.int .i64 xr0_0) := BXS0_19.out.cell (i := 0) (by decide)
  have bcS0_1 : w19.cell? ⟨w5.heap.size, 1, none⟩ = some (.int .i64 xr0_1) := BXS0_19.out.cell (i := 1) (by decide)
  have bcS0_2 : w19.cell? ⟨w5.heap.size, 2, none⟩ = some (.slice sa0_2 lr0_2 sc0_2) := BXS0_19.out.cell (i := 2) (by decide)
  have bcS0_3 : w19.cell? ⟨w5.heap.size, 3, none⟩ = some (.int .i64 xr0_3) := BXS0_19.out.cell (i := 3) (by decide)
  have bcS0_4 : w19.cell? ⟨w5.heap.size, 4, none⟩ = some (.int .i64 xr0_4) := BXS0_19.out.cell (i := 4) (by decide)
  have bcS0_5 : w19.cell? ⟨w5.heap.size, 5, none⟩ = some (.int .i64 xr0_5) := BXS0_19.out.cell (i := 5) (by decide)
  have blX0 : w7.heap.size < w19.heap.size := BXX0_19.out.lt
  have bcX0_0 : w19.cell? ⟨w7.heap.size, 0, none⟩ = some (.slice (some ⟨Xg0_0, 0, none⟩) l0_0 l0_0) := BXX0_19.out.cell (i := 0) (by decide)
  have bcX0_1 : w19.cell? ⟨w7.heap.size, 1, none⟩ = some (.int .i64 x0_1) := BXX0_19.out.cell (i := 1) (by decide)
  have blG0 : w10.heap.size < w19.heap.size := BXG0_19.out.lt
  have bcG0_0 : w19.cell? ⟨w10.heap.size, 0, none⟩ = some (.int .i64 xr0_0) := BXG0_19.out.cell (i := 0) (by decide)
  have bcG0_1 : w19.cell? ⟨w10.heap.size, 1, none⟩ = some (.int .i64 xr0_1) := BXG0_19.out.cell (i := 1) (by decide)
  have bcG0_2 : w19.cell? ⟨w10.heap.size, 2, none⟩ = some (.slice ga0_2 lr0_2 gc0_2) := BXG0_19.out.cell (i := 2) (by decide)
  have bcG0_3 : w19.cell? ⟨w10.heap.size, 3, none⟩ = some (.int .i64 xr0_3) := BXG0_19.out.cell (i := 3) (by decide)
  have bcG0_4 : w19.cell? ⟨w10.heap.size, 4, none⟩ = some (.int .i64 xr0_4) := BXG0_19.out.cell (i := 4) (by decide)
  have bcG0_5 : w19.cell? ⟨w10.heap.size, 5, none⟩ = some (.int .i64 xr0_5) := BXG0_19.out.cell (i := 5) (by decide)
  go_wp2_with fail
  clear blP0 bcP0_0 bcP0_1 blS0 bcS0_0 bcS0_1 bcS0_2 bcS0_3 bcS0_4 bcS0_5 blX0 bcX0_0 bcX0_1 blG0 bcG0_0 bcG0_1 bcG0_2 bcG0_3 bcG0_4 bcG0_5
  refine (Cache_eq xr0_0 xr0_1 _ _ _ csr0_2 xr0_3 xr0_4 xr0_5 _ _ _ _ _ hfr0_2 hsr0_2 G0_2_19.out.holds (S0_2.out.kept BS19.out)).mono ?_
  rintro e w20 ⟨rfl, hB⟩
  have BW20 : Hid (Below w.heap.size w w20) := BW19.out.trans (hB.mono BW19.out.size)
  have SZ20 : Hid (w19.heap.size ≤ w20.heap.size) := hB.size
  have BS20 : Hid (Below w5.heap.size w5 w20) := BS19.out.trans (hB.mono BS19.out.size)
  have G0_2_20 : Hid (Owns w20 false w9.heap.size (.l lr0_2 2 csr0_2) (.slice ga0_2 lr0_2 gc0_2) gP0_2) := G0_2_19.out.kept hB
  have G1_20 : Hid (Owns w20 false w9.heap.size (.l lr1 1 csr1) (.slice ga1 lr1 gc1) gP1) := G1_19.out.kept hB
  have BXP0_20 : Hid (w20.rowIs (w.heap.size) 24 2 (rowF [.slice a0_0 l0_0 cap0_0, .int .i64 x0_1])) := BXP0_19.out.of_block (hB.block _ BXP0_19.out.lt)
  have BXS0_20 : Hid (w20.rowIs (w5.heap.size) 42 6 (rowF [.int .i64 xr0_0, .int .i64 xr0_1, .slice sa0_2 lr0_2 sc0_2, .int .i64 xr0_3, .int .i64 xr0_4, .int .i64 xr0_5])) := BXS0_19.out.of_block (hB.block _ BXS0_19.out.lt)
  have BXX0_20 : Hid (w20.rowIs (w7.heap.size) 29 2 (rowF [.slice (some ⟨Xg0_0, 0, none⟩) l0_0 l0_0, .int .i64 x0_1])) := BXX0_19.out.of_block (hB.block _ BXX0_19.out.lt)
  have BXG0_20 : Hid (w20.rowIs (w10.heap.size) 42 6 (rowF [.int .i64 xr0_0, .int .i64 xr0_1, .slice ga0_2 lr0_2 gc0_2, .int .i64 xr0_3, .int .i64 xr0_4, .int .i64 xr0_5])) := BXG0_19.out.of_block (hB.block _ BXG0_19.out.lt)
  clear hB
  have blP0 : w.heap.size < w20.heap.size := BXP0_20.out.lt
  have bcP0_0 : w20.cell? ⟨w.heap.size, 0, none⟩ = some (.slice a0_0 l0_0 cap0_0) := BXP0_20.out.cell (i := 0) (by decide)
  have bcP0_1 : w20.cell? ⟨w.heap.size, 1, none⟩ = some (.int .i64 x0_1) := BXP0_20.out.cell (i := 1) (by decide)
  have blS0 : w5.heap.size < w20.heap.size := BXS0_20.out.lt
  have bcS0_0 : w20.cell? ⟨w5.heap.size, 0, none⟩ = some (.int .i64 xr0_0) := BXS0_20.out.cell (i := 0) (by decide)
  have bcS0_1 : w20.cell? ⟨w5.heap.size, 1, none⟩ = some (.int .i64 xr0_1) := BXS0_20.out.cell (i := 1) (by decide)
  have bcS0_2 : w20.cell? ⟨w5.heap.size, 2, none⟩ = some (.slice sa0_2 lr0_2 sc0_2) := BXS0_20.out.cell (i := 2) (by decide)
  have bcS0_3 : w20.cell? ⟨w5.heap.size, 3, none⟩ = some (.int .i64 xr0_3) := BXS0_20.out.cell (i := 3) (by decide)
  have bcS0_4 : w20.cell? ⟨w5.heap.size, 4, none⟩ = some (.int .i64 xr0_4) := BXS0_20.out.cell (i := 4) (by decide)
  have bcS0_5 : w20.cell? ⟨w5.heap.size, 5, none⟩ = some (.int .i64 xr0_5) := BXS0_20.out.cell (i := 5) (by decide)
  have blX0 : w7.heap.size < w20.heap.size := BXX0_20.out.lt
  have bcX0_0 : w20.cell? ⟨w7.heap.size, 0, none⟩ = some (.slice (some ⟨Xg0_0, 0, none⟩) l0_0 l0_0) := BXX0_20.out.cell (i := 0) (by decide)
  have bcX0_1 : w20.cell? ⟨w7.heap.size, 1, none⟩ = some (.int .i64 x0_1) := BXX0_20.out.cell (i := 1) (by decide)
  have blG0 : w10.heap.size < w20.heap.size := BXG0_20.out.lt
  have bcG0_0 : w20.cell? ⟨w10.heap.size, 0, none⟩ = some (.int .i64 xr0_0) := BXG0_20.out.cell (i := 0) (by decide)
  have bcG0_1 : w20.cell? ⟨w10.heap.size, 1, none⟩ = some (.int .i64 xr0_1) := BXG0_20.out.cell (i := 1) (by decide)
  have bcG0_2 : w20.cell? ⟨w10.heap.size, 2, none⟩ = some (.slice ga0_2 lr0_2 gc0_2) := BXG0_20.out.cell (i := 2) (by decide)
  have bcG0_3 : w20.cell? ⟨w10.heap.size, 3, none⟩ = some (.int .i64 xr0_3) := BXG0_20.out.cell (i := 3) (by decide)
  have bcG0_4 : w20.cell? ⟨w10.heap.size, 4, none⟩ = some (.int .i64 xr0_4) := BXG0_20.out.cell (i := 4) (by decide)
  have bcG0_5 : w20.cell? ⟨w10.heap.size, 5, none⟩ = some (.int .i64 xr0_5) := BXG0_20.out.cell (i := 5) (by decide)
  go_wp2_with fail
  clear blP0 bcP0_0 bcP0_1 blS0 bcS0_0 bcS0_1 bcS0_2 bcS0_3 bcS0_4 bcS0_5 blX0 bcX0_0 bcX0_1 blG0 bcG0_0 bcG0_1 bcG0_2 bcG0_3 bcG0_4 bcG0_5
  refine (IntS_eq _ _ _ _ _ csr1 _ _ _ hfr1 (Nat.le_trans (Nat.le_add_right _ _) hsr1.out) G1_20.out.holds (S1.out.kept BS20.out)).mono ?_
  rintro e w21 ⟨rfl, hB⟩
  have BW21 : Hid (Below w.heap.size w w21) := BW20.out.trans (hB.mono BW20.out.size)
  have SZ21 : Hid (w20.heap.size ≤ w21.heap.size) := hB.size
  have BS21 : Hid (Below w5.heap.size w5 w21) := BS20.out.trans (hB.mono BS20.out.size)
  have G0_2_21 : Hid (Owns w21 false w9.heap.size (.l lr0_2 2 csr0_2) (.slice ga0_2 lr0_2 gc0_2) gP0_2) := G0_2_20.out.kept hB
  have G1_21 : Hid (Owns w21 false w9.heap.size (.l lr1 1 csr1) (.slice ga1 lr1 gc1) gP1) := G1_20.out.kept hB
  have BXP0_21 : Hid (w21.rowIs (w.heap.size) 24 2 (rowF [.slice a0_0 l0_0 cap0_0, .int .i64 x0_1])) := BXP0_20.out.of_block (hB.block _ BXP0_20.out.lt)
  have BXS0_21 : Hid (w21.rowIs (w5.heap.size) 42 6 (rowF [.int .i64 xr0_0, .int .i64 xr0_1, .slice sa0_2 lr0_2 sc0_2, .int .i64 xr0_3, .int .i64 xr0_4, .int .i64 xr0_5])) := BXS0_20.out.of_block (hB.block _ BXS0_20.out.lt)
  have BXX0_21 : Hid (w21.rowIs (w7.heap.size) 29 2 (rowF [.slice (some ⟨Xg0_0, 0, none⟩) l0_0 l0_0, .int .i64 x0_1])) := BXX0_20.out.of_block (hB.block _ BXX0_20.out.lt)
  have BXG0_21 : Hid (w21.rowIs (w10.heap.size) 42 6 (rowF [.int .i64 xr0_0, .int .i64 xr0_1, .slice ga0_2 lr0_2 gc0_2, .int .i64 xr0_3, .int .i64 xr0_4, .int .i64 xr0_5])) := BXG0_20.out.of_block (hB.block _ BXG0_20.out.lt)
  clear hB
  have hcnr0_2 := cnt_le thin_WayS hfr0_2.out
  obtain ⟨M0_2, HM0_2⟩ : ∃ N, Hid (cntD (.l lr0_2 2 csr0_2) = N) := ⟨_, rfl⟩
  have hM0_2 : M0_2 ≤ 800001 := by have q := hsx0_2.out; rw [HM0_2.out] at hcnr0_2; omega
  clear hcnr0_2
  have hcnr1 := cnt_le (s := shI) ⟨by decide, fun _ => trivial⟩ hfr1.out
  obtain ⟨M1, HM1⟩ : ∃ N, Hid (cntD (.l lr1 1 csr1) = N) := ⟨_, rfl⟩
  have hM1 : M1 ≤ 800001 := by have q := hsx1.out; rw [HM1.out] at hcnr1; omega
  clear hcnr1
  have blP0 : w.heap.size < w21.heap.size := BXP0_21.out.lt
  have bcP0_0 : w21.cell? ⟨w.heap.size, 0, none⟩ = some (.slice a0_0 l0_0 cap0_0) := BXP0_21.out.cell (i := 0) (by decide)
  have bcP0_1 : w21.cell? ⟨w.heap.size, 1, none⟩ = some (.int .i64 x0_1) := BXP0_21.out.cell (i := 1) (by decide)
  have blS0 : w5.heap.size < w21.heap.size := BXS0_21.out.lt
  have bcS0_0 : w21.cell? ⟨w5.heap.size, 0, none⟩ = some (.int .i64 xr0_0) := BXS0_21.out.cell (i := 0) (by decide)
  have bcS0_1 : w21.cell? ⟨w5.heap.size, 1, none⟩ = some (.int .i64 xr0_1) := BXS0_21.out.cell (i := 1) (by decide)
  have bcS0_2 : w21.cell? ⟨w5.heap.size, 2, none⟩ = some (.slice sa0_2 lr0_2 sc0_2) := BXS0_21.out.cell (i := 2) (by decide)
  have bcS0_3 : w21.cell? ⟨w5.heap.size, 3, none⟩ = some (.int .i64 xr0_3) := BXS0_21.out.cell (i := 3) (by decide)
  have bcS0_4 : w21.cell? ⟨w5.heap.size, 4, none⟩ = some (.int .i64 xr0_4) := BXS0_21.out.cell (i := 4) (by decide)
  have bcS0_5 : w21.cell? ⟨w5.heap.size, 5, none⟩ = some (.int .i64 xr0_5) := BXS0_21.out.cell (i := 5) (by decide)
  have blX0 : w7.heap.size < w21.heap.size := BXX0_21.out.lt
  have bcX0_0 : w21.cell? ⟨w7.heap.size, 0, none⟩ = some (.slice (some ⟨Xg0_0, 0, none⟩) l0_0 l0_0) := BXX0_21.out.cell (i := 0) (by decide)
  have bcX0_1 : w21.cell? ⟨w7.heap.size, 1, none⟩ = some (.int .i64 x0_1) := BXX0_21.out.cell (i := 1) (by decide)
  have blG0 : w10.heap.size < w21.heap.size := BXG0_21.out.lt
  have bcG0_0 : w21.cell? ⟨w10.heap.size, 0, none⟩ = some (.int .i64 xr0_0) := BXG0_21.out.cell (i := 0) (by decide)
  have bcG0_1 : w21.cell? ⟨w10.heap.size, 1, none⟩ = some (.int .i64 xr0_1) := BXG0_21.out.cell (i := 1) (by decide)
  have bcG0_2 : w21.cell? ⟨w10.heap.size, 2, none⟩ = some (.slice ga0_2 lr0_2 gc0_2) := BXG0_21.out.cell (i := 2) (by decide)
  have bcG0_3 : w21.cell? ⟨w10.heap.size, 3, none⟩ = some (.int .i64 xr0_3) := BXG0_21.out.cell (i := 3) (by decide)
  have bcG0_4 : w21.cell? ⟨w10.heap.size, 4, none⟩ = some (.int .i64 xr0_4) := BXG0_21.out.cell (i := 4) (by decide)
  have bcG0_5 : w21.cell? ⟨w10.heap.size, 5, none⟩ = some (.int .i64 xr0_5) := BXG0_21.out.cell (i := 5) (by decide)
  go_wp2_with fail
  clear blP0 bcP0_0 bcP0_1 blS0 bcS0_0 bcS0_1 bcS0_2 bcS0_3 bcS0_4 bcS0_5 blX0 bcX0_0 bcX0_1 blG0 bcG0_0 bcG0_1 bcG0_2 bcG0_3 bcG0_4 bcG0_5
  refine (Cache_mark (1) (by omega) (by omega) xr0_0 xr0_1 _ _ _ csr0_2 xr0_3 xr0_4 xr0_5 false _ _ _ hfr0_2 hsr0_2 G0_2_21 (fun x hx => by have r1 := (GF0_2.out x hx).2; have q11 := SZ11.out; have q12 := SZ12.out; have q13 := SZ13.out; have q14 := SZ14.out; have q15 := SZ15.out; have q16 := SZ16.out; have q17 := SZ17.out; have q18 := SZ18.out; have q19 := SZ19.out; have q20 := SZ20.out; have q21 := SZ21.out; omega)).mono ?_
  rw [HM0_2.out]
  rintro e w22 ⟨rfl, hO0_2, hF⟩
  have hB : Below w9.heap.size w21 w22 := hF.below (by have q10 := SZ10.out; have q11 := SZ11.out; have q12 := SZ12.out; have q13 := SZ13.out; have q14 := SZ14.out; have q15 := SZ15.out; have q16 := SZ16.out; have q17 := SZ17.out; have q18 := SZ18.out; have q19 := SZ19.out; have q20 := SZ20.out; have q21 := SZ21.out; omega) (fun x hx => by exact (GF0_2.out x hx).1)
  have BW22 : Hid (Below w.heap.size w w22) := BW21.out.trans (hB.mono BW9.out.size)
  have SZ22 : Hid (w21.heap.size ≤ w22.heap.size) := hB.size
  have BS22 : Hid (Below w5.heap.size w5 w22) := BS21.out.trans (hB.mono BS9.out.size)
  have G0_2_22 : Hid (Owns w22 false w9.heap.size (mkD (1) (.l lr0_2 2 csr0_2)) (.slice ga0_2 lr0_2 gc0_2) gP0_2) := hO0_2
  have G1_22 : Hid (Owns w22 false w9.heap.size (.l lr1 1 csr1) (.slice ga1 lr1 gc1) gP1) := hF.owns (fun x hx hy => by exact GD0_21.out x hy hx) G1_21.out
  have BXP0_22 : Hid (w22.rowIs (w.heap.size) 24 2 (rowF [.slice a0_0 l0_0 cap0_0, .int .i64 x0_1])) := BXP0_21.out.of_block (hF.block _ BXP0_21.out.lt (fun hy => by have r0 := GF0_2.out _ hy; have r1 := r0.1; have r2 := LTP0.out; have q2 := SZ2.out; have q3 := SZ3.out; have q4 := SZ4.out; have q5 := SZ5.out; have q6 := SZ6.out; have q7 := SZ7.out; have q8 := SZ8.out; have q9 := SZ9.out; omega))
  have BXS0_22 : Hid (w22.rowIs (w5.heap.size) 42 6 (rowF [.int .i64 xr0_0, .int .i64 xr0_1, .slice sa0_2 lr0_2 sc0_2, .int .i64 xr0_3, .int .i64 xr0_4, .int .i64 xr0_5])) := BXS0_21.out.of_block (hF.block _ BXS0_21.out.lt (fun hy => by have r0 := GF0_2.out _ hy; have r1 := r0.1; have r2 := LTS0.out; have q7 := SZ7.out; have q8 := SZ8.out; have q9 := SZ9.out; omega))
  have BXX0_22 : Hid (w22.rowIs (w7.heap.size) 29 2 (rowF [.slice (some ⟨Xg0_0, 0, none⟩) l0_0 l0_0, .int .i64 x0_1])) := BXX0_21.out.of_block (hF.block _ BXX0_21.out.lt (fun hy => by have r0 := GF0_2.out _ hy; have r1 := r0.1; have r2 := LTX0.out; have q9 := SZ9.out; omega))
  have BXG0_22 : Hid (w22.rowIs (w10.heap.size) 42 6 (rowF [.int .i64 xr0_0, .int .i64 xr0_1, .slice ga0_2 lr0_2 gc0_2, .int .i64 xr0_3, .int .i64 xr0_4, .int .i64 xr0_5])) := BXG0_21.out.of_block (hF.block _ BXG0_21.out.lt (fun hy => by have r0 := GF0_2.out _ hy; have r1 := r0.2; have r3 := ADG0.out;  omega))
  clear hF hB hO0_2
  have blP0 : w.heap.size < w22.heap.size := BXP0_22.out.lt
  have bcP0_0 : w22.cell? ⟨w.heap.size, 0, none⟩ = some (.slice a0_0 l0_0 cap0_0) := BXP0_22.out.cell (i := 0) (by decide)
  have bcP0_1 : w22.cell? ⟨w.heap.size, 1, none⟩ = some (.int .i64 x0_1) := BXP0_22.out.cell (i := 1) (by decide)
  have blS0 : w5.heap.size < w22.heap.size := BXS0_22.out.lt
  have bcS0_0 : w22.cell? ⟨w5.heap.size, 0, none⟩ = some (.int .i64 xr0_0) := BXS0_22.out.cell (i := 0) (by decide)
  have bcS0_1 : w22.cell? ⟨w5.heap.size, 1, none⟩ = some (.int .i64 xr0_1) := BXS0_22.out.cell (i := 1) (by decide)
  have bcS0_2 : w22.cell? ⟨w5.heap.size, 2, none⟩ = some (.slice sa0_2 lr0_2 sc0_2) := BXS0_22.out.cell (i := 2) (by decide)
  have bcS0_3 : w22.cell? ⟨w5.heap.size, 3, none⟩ = some (.int .i64 xr0_3) := BXS0_22.out.cell (i := 3) (by decide)
  have bcS0_4 : w22.cell? ⟨w5.heap.size, 4, none⟩ = some (.int .i64 xr0_4) := BXS0_22.out.cell (i := 4) (by decide)
  have bcS0_5 : w22.cell? ⟨w5.heap.size, 5, none⟩ = some (.int .i64 xr0_5) := BXS0_22.out.cell (i := 5) (by decide)
  have blX0 : w7.heap.size < w22.heap.size := BXX0_22.out.lt
  have bcX0_0 : w22.cell? ⟨w7.heap.size, 0, none⟩ = some (.slice (some ⟨Xg0_0, 0, none⟩) l0_0 l0_0) := BXX0_22.out.cell (i := 0) (by decide)
  have bcX0_1 : w22.cell? ⟨w7.heap.size, 1, none⟩ = some (.int .i64 x0_1) := BXX0_22.out.cell (i := 1) (by decide)
  have blG0 : w10.heap.size < w22.heap.size := BXG0_22.out.lt
  have bcG0_0 : w22.cell? ⟨w10.heap.size, 0, none⟩ = some (.int .i64 xr0_0) := BXG0_22.out.cell (i := 0) (by decide)
  have bcG0_1 : w22.cell? ⟨w10.heap.size, 1, none⟩ = some (.int .i64 xr0_1) := BXG0_22.out.cell (i := 1) (by decide)
  have bcG0_2 : w22.cell? ⟨w10.heap.size, 2, none⟩ = some (.slice ga0_2 lr0_2 gc0_2) := BXG0_22.out.cell (i := 2) (by decide)
  have bcG0_3 : w22.cell? ⟨w10.heap.size, 3, none⟩ = some (.int .i64 xr0_3) := BXG0_22.out.cell (i := 3) (by decide)
  have bcG0_4 : w22.cell? ⟨w10.heap.size, 4, none⟩ = some (.int .i64 xr0_4) := BXG0_22.out.cell (i := 4) (by decide)
  have bcG0_5 : w22.cell? ⟨w10.heap.size, 5, none⟩ = some (.int .i64 xr0_5) := BXG0_22.out.cell (i := 5) (by decide)
  go_wp2_with fail
  clear blP0 bcP0_0 bcP0_1 blS0 bcS0_0 bcS0_1 bcS0_2 bcS0_3 bcS0_4 bcS0_5 blX0 bcX0_0 bcX0_1 blG0 bcG0_0 bcG0_1 bcG0_2 bcG0_3 bcG0_4 bcG0_5
  refine (IntS_mark (1 + (M0_2 : Int)) (by omega) (by omega) _ _ _ csr1 false _ _ _ hfr1 (Nat.le_trans (Nat.le_add_right _ _) hsr1.out) G1_22).mono ?_
  rw [HM1.out]
  rintro e w23 ⟨rfl, hO1, hF⟩
  have hB : Below w9.heap.size w22 w23 := hF.below (by have q10 := SZ10.out; have q11 := SZ11.out; have q12 := SZ12.out; have q13 := SZ13.out; have q14 := SZ14.out; have q15 := SZ15.out; have q16 := SZ16.out; have q17 := SZ17.out; have q18 := SZ18.out; have q19 := SZ19.out; have q20 := SZ20.out; have q21 := SZ21.out; have q22 := SZ22.out; omega) (fun x hx => (GF1.out x hx).1)
  have BW23 : Hid (Below w.heap.size w w23) := BW22.out.trans (hB.mono BW9.out.size)
  have SZ23 : Hid (w22.heap.size ≤ w23.heap.size) := hB.size
  have BS23 : Hid (Below w5.heap.size w5 w23) := BS22.out.trans (hB.mono BS9.out.size)
  have G1_23 : Hid (Owns w23 false w9.heap.size (mkD (1 + (M0_2 : Int)) (.l lr1 1 csr1)) (.slice ga1 lr1 gc1) gP1) := hO1
  have G0_2_23 : Hid (Owns w23 false w9.heap.size (mkD (1) (.l lr0_2 2 csr0_2)) (.slice ga0_2 lr0_2 gc0_2) gP0_2) := hF.owns (fun x hx hy => GD0_21.out x hx hy) G0_2_22.out
  have BXP0_23 : Hid (w23.rowIs (w.heap.size) 24 2 (rowF [.slice a0_0 l0_0 cap0_0, .int .i64 x0_1])) := BXP0_22.out.of_block (hF.block _ BXP0_22.out.lt (fun hy => by have r0 := GF1.out _ hy; have r1 := r0.1; have r2 := LTP0.out; have q2 := SZ2.out; have q3 := SZ3.out; have q4 := SZ4.out; have q5 := SZ5.out; have q6 := SZ6.out; have q7 := SZ7.out; have q8 := SZ8.out; have q9 := SZ9.out; omega))
  have BXS0_23 : Hid (w23.rowIs (w5.heap.size) 42 6 (rowF [.int .i64 xr0_0, .int .i64 xr0_1, .slice sa0_2 lr0_2 sc0_2, .int .i64 xr0_3, .int .i64 xr0_4, .int .i64 xr0_5])) := BXS0_22.out.of_block (hF.block _ BXS0_22.out.lt (fun hy => by have r0 := GF1.out _ hy; have r1 := r0.1; have r2 := LTS0.out; have q7 := SZ7.out; have q8 := SZ8.out; have q9 := SZ9.out; omega))
  have BXX0_23 : Hid (w23.rowIs (w7.heap.size) 29 2 (rowF [.slice (some ⟨Xg0_0, 0, none⟩) l0_0 l0_0, .int .i64 x0_1])) := BXX0_22.out.of_block (hF.block _ BXX0_22.out.lt (fun hy => by have r0 := GF1.out _ hy; have r1 := r0.1; have r2 := LTX0.out; have q9 := SZ9.out; omega))
  have BXG0_23 : Hid (w23.rowIs (w10.heap.size) 42 6 (rowF [.int .i64 xr0_0, .int .i64 xr0_1, .slice ga0_2 lr0_2 gc0_2, .int .i64 xr0_3, .int .i64 xr0_4, .int .i64 xr0_5])) := BXG0_22.out.of_block (hF.block _ BXG0_22.out.lt (fun hy => by have r0 := GF1.out _ hy; have r1 := r0.2; have r3 := ADG0.out;  omega))
  clear hF hB hO1
  have hm : (0 : Int) ≤ 1 + (M0_2 : Int) + (M1 : Int) := by omega
  have blP0 : w.heap.size < w23.heap.size := BXP0_23.out.lt
  have bcP0_0 : w23.cell? ⟨w.heap.size, 0, none⟩ = some (.slice a0_0 l0_0 cap0_0) := BXP0_23.out.cell (i := 0) (by decide)
  have bcP0_1 : w23.cell? ⟨w.heap.size, 1, none⟩ = some (.int .i64 x0_1) := BXP0_23.out.cell (i := 1) (by decide)
  have blS0 : w5.heap.size < w23.heap.size := BXS0_23.out.lt
  have bcS0_0 : w23.cell? ⟨w5.heap.size, 0, none⟩ = some (.int .i64 xr0_0) := BXS0_23.out.cell (i := 0) (by decide)
  have bcS0_1 : w23.cell? ⟨w5.heap.size, 1, none⟩ = some (.int .i64 xr0_1) := BXS0_23.out.cell (i := 1) (by decide)
  have bcS0_2 : w23.cell? ⟨w5.heap.size, 2, none⟩ = some (.slice sa0_2 lr0_2 sc0_2) := BXS0_23.out.cell (i := 2) (by decide)
  have bcS0_3 : w23.cell? ⟨w5.heap.size, 3, none⟩ = some (.int .i64 xr0_3) := BXS0_23.out.cell (i := 3) (by decide)
  have bcS0_4 : w23.cell? ⟨w5.heap.size, 4, none⟩ = some (.int .i64 xr0_4) := BXS0_23.out.cell (i := 4) (by decide)
  have bcS0_5 : w23.cell? ⟨w5.heap.size, 5, none⟩ = some (.int .i64 xr0_5) := BXS0_23.out.cell (i := 5) (by decide)
  have blX0 : w7.heap.size < w23.heap.size := BXX0_23.out.lt
  have bcX0_0 : w23.cell? ⟨w7.heap.size, 0, none⟩ = some (.slice (some ⟨Xg0_0, 0, none⟩) l0_0 l0_0) := BXX0_23.out.cell (i := 0) (by decide)
  have bcX0_1 : w23.cell? ⟨w7.heap.size, 1, none⟩ = some (.int .i64 x0_1) := BXX0_23.out.cell (i := 1) (by decide)
  have blG0 : w10.heap.size < w23.heap.size := BXG0_23.out.lt
  have bcG0_0 : w23.cell? ⟨w10.heap.size, 0, none⟩ = some (.int .i64 xr0_0) := BXG0_23.out.cell (i := 0) (by decide)
  have bcG0_1 : w23.cell? ⟨w10.heap.size, 1, none⟩ = some (.int .i64 xr0_1) := BXG0_23.out.cell (i := 1) (by decide)
  have bcG0_2 : w23.cell? ⟨w10.heap.size, 2, none⟩ = some (.slice ga0_2 lr0_2 gc0_2) := BXG0_23.out.cell (i := 2) (by decide)
  have bcG0_3 : w23.cell? ⟨w10.heap.size, 3, none⟩ = some (.int .i64 xr0_3) := BXG0_23.out.cell (i := 3) (by decide)
  have bcG0_4 : w23.cell? ⟨w10.heap.size, 4, none⟩ = some (.int .i64 xr0_4) := BXG0_23.out.cell (i := 4) (by decide)
  have bcG0_5 : w23.cell? ⟨w10.heap.size, 5, none⟩ = some (.int .i64 xr0_5) := BXG0_23.out.cell (i := 5) (by decide)
  go_wp2_with fail
  clear blP0 bcP0_0 bcP0_1 blS0 bcS0_0 bcS0_1 bcS0_2 bcS0_3 bcS0_4 bcS0_5 blX0 bcX0_0 bcX0_1 blG0 bcG0_0 bcG0_1 bcG0_2 bcG0_3 bcG0_4 bcG0_5
  refine (Cache_held (1) (by omega) xr0_0 xr0_1 _ _ _ csr0_2 xr0_3 xr0_4 xr0_5 false _ hfr0_2 hsr0_2 (by rw [HM0_2.out]; omega) G0_2_23.out.holds).mono ?_
  rw [HM0_2.out]
  rintro e w24 ⟨rfl, hB⟩
  have BW24 : Hid (Below w.heap.size w w24) := BW23.out.trans (hB.mono BW23.out.size)
  have SZ24 : Hid (w23.heap.size ≤ w24.heap.size) := hB.size
  have BS24 : Hid (Below w5.heap.size w5 w24) := BS23.out.trans (hB.mono BS23.out.size)
  have G0_2_24 : Hid (Owns w24 false w9.heap.size (mkD (1) (.l lr0_2 2 csr0_2)) (.slice ga0_2 lr0_2 gc0_2) gP0_2) := G0_2_23.out.kept hB
  have G1_24 : Hid (Owns w24 false w9.heap.size (mkD (1 + (M0_2 : Int)) (.l lr1 1 csr1)) (.slice ga1 lr1 gc1) gP1) := G1_23.out.kept hB
  have BXP0_24 : Hid (w24.rowIs (w.heap.size) 24 2 (rowF [.slice a0_0 l0_0 cap0_0, .int .i64 x0_1])) := BXP0_23.out.of_block (hB.block _ BXP0_23.out.lt)
  have BXS0_24 : Hid (w24.rowIs (w5.heap.size) 42 6 (rowF [.int .i64 xr0_0, .int .i64 xr0_1, .slice sa0_2 lr0_2 sc0_2, .int .i64 xr0_3, .int .i64 xr0_4, .int .i64 xr0_5])) := BXS0_23.out.of_block (hB.block _ BXS0_23.out.lt)
  have BXX0_24 : Hid (w24.rowIs (w7.heap.size) 29 2 (rowF [.slice (some ⟨Xg0_0, 0, none⟩) l0_0 l0_0, .int .i64 x0_1])) := BXX0_23.out.of_block (hB.block _ BXX0_23.out.lt)
  have BXG0_24 : Hid (w24.rowIs (w10.heap.size) 42 6 (rowF [.int .i64 xr0_0, .int .i64 xr0_1, .slice ga0_2 lr0_2 gc0_2, .int .i64 xr0_3, .int .i64 xr0_4, .int .i64 xr0_5])) := BXG0_23.out.of_block (hB.block _ BXG0_23.out.lt)
  clear hB
  have hq24_0 : (0 : Int) ≤ 1 + (M0_2 : Int) := by omega
  have blP0 : w.heap.size < w24.heap.size := BXP0_24.out.lt
  have bcP0_0 : w24.cell? ⟨w.heap.size, 0, none⟩ = some (.slice a0_0 l0_0 cap0_0) := BXP0_24.out.cell (i := 0) (by decide)
  have bcP0_1 : w24.cell? ⟨w.heap.size, 1, none⟩ = some (.int .i64 x0_1) := BXP0_24.out.cell (i := 1) (by decide)
  have blS0 : w5.heap.size < w24.heap.size := BXS0_24.out.lt
  have bcS0_0 : w24.cell? ⟨w5.heap.size, 0, none⟩ = some (.int .i64 xr0_0) := BXS0_24.out.cell (i := 0) (by decide)
  have bcS0_1 : w24.cell? ⟨w5.heap.size, 1, none⟩ = some (.int .i64 xr0_1) := BXS0_24.out.cell (i := 1) (by decide)
  have bcS0_2 : w24.cell? ⟨w5.heap.size, 2, none⟩ = some (.slice sa0_2 lr0_2 sc0_2) := BXS0_24.out.cell (i := 2) (by decide)
  have bcS0_3 : w24.cell? ⟨w5.heap.size, 3, none⟩ = some (.int .i64 xr0_3) := BXS0_24.out.cell (i := 3) (by decide)
  have bcS0_4 : w24.cell? ⟨w5.heap.size, 4, none⟩ = some (.int .i64 xr0_4) := BXS0_24.out.cell (i := 4) (by decide)
  have bcS0_5 : w24.cell? ⟨w5.heap.size, 5, none⟩ = some (.int .i64 xr0_5) := BXS0_24.out.cell (i := 5) (by decide)
  have blX0 : w7.heap.size < w24.heap.size := BXX0_24.out.lt
  have bcX0_0 : w24.cell? ⟨w7.heap.size, 0, none⟩ = some (.slice (some ⟨Xg0_0, 0, none⟩) l0_0 l0_0) := BXX0_24.out.cell (i := 0) (by decide)
  have bcX0_1 : w24.cell? ⟨w7.heap.size, 1, none⟩ = some (.int .i64 x0_1) := BXX0_24.out.cell (i := 1) (by decide)
  have blG0 : w10.heap.size < w24.heap.size := BXG0_24.out.lt
  have bcG0_0 : w24.cell? ⟨w10.heap.size, 0, none⟩ = some (.int .i64 xr0_0) := BXG0_24.out.cell (i := 0) (by decide)
  have bcG0_1 : w24.cell? ⟨w10.heap.size, 1, none⟩ = some (.int .i64 xr0_1) := BXG0_24.out.cell (i := 1) (by decide)
  have bcG0_2 : w24.cell? ⟨w10.heap.size, 2, none⟩ = some (.slice ga0_2 lr0_2 gc0_2) := BXG0_24.out.cell (i := 2) (by decide)
  have bcG0_3 : w24.cell? ⟨w10.heap.size, 3, none⟩ = some (.int .i64 xr0_3) := BXG0_24.out.cell (i := 3) (by decide)
  have bcG0_4 : w24.cell? ⟨w10.heap.size, 4, none⟩ = some (.int .i64 xr0_4) := BXG0_24.out.cell (i := 4) (by decide)
  have bcG0_5 : w24.cell? ⟨w10.heap.size, 5, none⟩ = some (.int .i64 xr0_5) := BXG0_24.out.cell (i := 5) (by decide)
  go_wp2_with fail
  clear blP0 bcP0_0 bcP0_1 blS0 bcS0_0 bcS0_1 bcS0_2 bcS0_3 bcS0_4 bcS0_5 blX0 bcX0_0 bcX0_1 blG0 bcG0_0 bcG0_1 bcG0_2 bcG0_3 bcG0_4 bcG0_5
  refine (IntS_held (1 + (M0_2 : Int)) (by omega) (by omega) _ _ _ csr1 false _ hfr1 (Nat.le_trans (Nat.le_add_right _ _) hsr1.out) G1_24.out.holds).mono ?_
  rintro e w' ⟨rfl, hw⟩
  rw [hw, HM1.out]
  clear hw w'
  have hq24_1 : (0 : Int) ≤ 1 + (M0_2 : Int) + (M1 : Int) := by omega
  have blP0 : w.heap.size < w24.heap.size := BXP0_24.out.lt
  have bcP0_0 : w24.cell? ⟨w.heap.size, 0, none⟩ = some (.slice a0_0 l0_0 cap0_0) := BXP0_24.out.cell (i := 0) (by decide)
  have bcP0_1 : w24.cell? ⟨w.heap.size, 1, none⟩ = some (.int .i64 x0_1) := BXP0_24.out.cell (i := 1) (by decide)
  have blS0 : w5.heap.size < w24.heap.size := BXS0_24.out.lt
  have bcS0_0 : w24.cell? ⟨w5.heap.size, 0, none⟩ = some (.int .i64 xr0_0) := BXS0_24.out.cell (i := 0) (by decide)
  have bcS0_1 : w24.cell? ⟨w5.heap.size, 1, none⟩ = some (.int .i64 xr0_1) := BXS0_24.out.cell (i := 1) (by decide)
  have bcS0_2 : w24.cell? ⟨w5.heap.size, 2, none⟩ = some (.slice sa0_2 lr0_2 sc0_2) := BXS0_24.out.cell (i := 2) (by decide)
  have bcS0_3 : w24.cell? ⟨w5.heap.size, 3, none⟩ = some (.int .i64 xr0_3) := BXS0_24.out.cell (i := 3) (by decide)
  have bcS0_4 : w24.cell? ⟨w5.heap.size, 4, none⟩ = some (.int .i64 xr0_4) := BXS0_24.out.cell (i := 4) (by decide)
  have bcS0_5 : w24.cell? ⟨w5.heap.size, 5, none⟩ = some (.int .i64 xr0_5) := BXS0_24.out.cell (i := 5) (by decide)
  have blX0 : w7.heap.size < w24.heap.size := BXX0_24.out.lt
  have bcX0_0 : w24.cell? ⟨w7.heap.size, 0, none⟩ = some (.slice (some ⟨Xg0_0, 0, none⟩) l0_0 l0_0) := BXX0_24.out.cell (i := 0) (by decide)
  have bcX0_1 : w24.cell? ⟨w7.heap.size, 1, none⟩ = some (.int .i64 x0_1) := BXX0_24.out.cell (i := 1) (by decide)
  have blG0 : w10.heap.size < w24.heap.size := BXG0_24.out.lt
  have bcG0_0 : w24.cell? ⟨w10.heap.size, 0, none⟩ = some (.int .i64 xr0_0) := BXG0_24.out.cell (i := 0) (by decide)
  have bcG0_1 : w24.cell? ⟨w10.heap.size, 1, none⟩ = some (.int .i64 xr0_1) := BXG0_24.out.cell (i := 1) (by decide)
  have bcG0_2 : w24.cell? ⟨w10.heap.size, 2, none⟩ = some (.slice ga0_2 lr0_2 gc0_2) := BXG0_24.out.cell (i := 2) (by decide)
  have bcG0_3 : w24.cell? ⟨w10.heap.size, 3, none⟩ = some (.int .i64 xr0_3) := BXG0_24.out.cell (i := 3) (by decide)
  have bcG0_4 : w24.cell? ⟨w10.heap.size, 4, none⟩ = some (.int .i64 xr0_4) := BXG0_24.out.cell (i := 4) (by decide)
  have bcG0_5 : w24.cell? ⟨w10.heap.size, 5, none⟩ = some (.int .i64 xr0_5) := BXG0_24.out.cell (i := 5) (by decide)
  go_wp2_with fail
  clear blP0 bcP0_0 bcP0_1 blS0 bcS0_0 bcS0_1 bcS0_2 bcS0_3 bcS0_4 bcS0_5 blX0 bcX0_0 bcX0_1 blG0 bcG0_0 bcG0_1 bcG0_2 bcG0_3 bcG0_4 bcG0_5
  refine (World_to _ _ _ cs0_0 x0_1 false _ hf0_0 hs0_0 (h0_0.out.kept BW24.out)).mono ?_
  rintro e w25 ⟨Cg0_0, rfl, hO0_0, hle0, hB⟩
  have C0_0_25 : Hid (Owns w25 true w24.heap.size (.l l0_0 2 cs0_0) (.slice (some ⟨Cg0_0, 0, none⟩) l0_0 l0_0) (rng w24.heap.size w25.heap.size)) := hO0_0
  have BW25 : Hid (Below w.heap.size w w25) := BW24.out.trans (hB.mono BW24.out.size)
  have SZ25 : Hid (w24.heap.size ≤ w25.heap.size) := hB.size
  have BS25 : Hid (Below w5.heap.size w5 w25) := BS24.out.trans (hB.mono BS24.out.size)
  have G0_2_25 : Hid (Owns w25 false w9.heap.size (mkD (1) (.l lr0_2 2 csr0_2)) (.slice ga0_2 lr0_2 gc0_2) gP0_2) := G0_2_24.out.kept hB
  have G1_25 : Hid (Owns w25 false w9.heap.size (mkD (1 + (M0_2 : Int)) (.l lr1 1 csr1)) (.slice ga1 lr1 gc1) gP1) := G1_24.out.kept hB
  have BXP0_25 : Hid (w25.rowIs (w.heap.size) 24 2 (rowF [.slice a0_0 l0_0 cap0_0, .int .i64 x0_1])) := BXP0_24.out.of_block (hB.block _ BXP0_24.out.lt)
  have BXS0_25 : Hid (w25.rowIs (w5.heap.size) 42 6 (rowF [.int .i64 xr0_0, .int .i64 xr0_1, .slice sa0_2 lr0_2 sc0_2, .int .i64 xr0_3, .int .i64 xr0_4, .int .i64 xr0_5])) := BXS0_24.out.of_block (hB.block _ BXS0_24.out.lt)
  have BXX0_25 : Hid (w25.rowIs (w7.heap.size) 29 2 (rowF [.slice (some ⟨Xg0_0, 0, none⟩) l0_0 l0_0, .int .i64 x0_1])) := BXX0_24.out.of_block (hB.block _ BXX0_24.out.lt)
  have BXG0_25 : Hid (w25.rowIs (w10.heap.size) 42 6 (rowF [.int .i64 xr0_0, .int .i64 xr0_1, .slice ga0_2 lr0_2 gc0_2, .int .i64 xr0_3, .int .i64 xr0_4, .int .i64 xr0_5])) := BXG0_24.out.of_block (hB.block _ BXG0_24.out.lt)
  clear hB hO0_0
  have Cle0_0 : Hid (w24.heap.size ≤ w25.heap.size) := hle0
  clear hle0
  have blP0 : w.heap.size < w25.heap.size := BXP0_25.out.lt
  have bcP0_0 : w25.cell? ⟨w.heap.size, 0, none⟩ = some (.slice a0_0 l0_0 cap0_0) := BXP0_25.out.cell (i := 0) (by decide)
  have bcP0_1 : w25.cell? ⟨w.heap.size, 1, none⟩ = some (.int .i64 x0_1) := BXP0_25.out.cell (i := 1) (by decide)
  have blS0 : w5.heap.size < w25.heap.size := BXS0_25.out.lt
  have bcS0_0 : w25.cell? ⟨w5.heap.size, 0, none⟩ = some (.int .i64 xr0_0) := BXS0_25.out.cell (i := 0) (by decide)
  have bcS0_1 : w25.cell? ⟨w5.heap.size, 1, none⟩ = some (.int .i64 xr0_1) := BXS0_25.out.cell (i := 1) (by decide)
  have bcS0_2 : w25.cell? ⟨w5.heap.size, 2, none⟩ = some (.slice sa0_2 lr0_2 sc0_2) := BXS0_25.out.cell (i := 2) (by decide)
  have bcS0_3 : w25.cell? ⟨w5.heap.size, 3, none⟩ = some (.int .i64 xr0_3) := BXS0_25.out.cell (i := 3) (by decide)
  have bcS0_4 : w25.cell? ⟨w5.heap.size, 4, none⟩ = some (.int .i64 xr0_4) := BXS0_25.out.cell (i := 4) (by decide)
  have bcS0_5 : w25.cell? ⟨w5.heap.size, 5, none⟩ = some (.int .i64 xr0_5) := BXS0_25.out.cell (i := 5) (by decide)
  have blX0 : w7.heap.size < w25.heap.size := BXX0_25.out.lt
  have bcX0_0 : w25.cell? ⟨w7.heap.size, 0, none⟩ = some (.slice (some ⟨Xg0_0, 0, none⟩) l0_0 l0_0) := BXX0_25.out.cell (i := 0) (by decide)
  have bcX0_1 : w25.cell? ⟨w7.heap.size, 1, none⟩ = some (.int .i64 x0_1) := BXX0_25.out.cell (i := 1) (by decide)
  have blG0 : w10.heap.size < w25.heap.size := BXG0_25.out.lt
  have bcG0_0 : w25.cell? ⟨w10.heap.size, 0, none⟩ = some (.int .i64 xr0_0) := BXG0_25.out.cell (i := 0) (by decide)
  have bcG0_1 : w25.cell? ⟨w10.heap.size, 1, none⟩ = some (.int .i64 xr0_1) := BXG0_25.out.cell (i := 1) (by decide)
  have bcG0_2 : w25.cell? ⟨w10.heap.size, 2, none⟩ = some (.slice ga0_2 lr0_2 gc0_2) := BXG0_25.out.cell (i := 2) (by decide)
  have bcG0_3 : w25.cell? ⟨w10.heap.size, 3, none⟩ = some (.int .i64 xr0_3) := BXG0_25.out.cell (i := 3) (by decide)
  have bcG0_4 : w25.cell? ⟨w10.heap.size, 4, none⟩ = some (.int .i64 xr0_4) := BXG0_25.out.cell (i := 4) (by decide)
  have bcG0_5 : w25.cell? ⟨w10.heap.size, 5, none⟩ = some (.int .i64 xr0_5) := BXG0_25.out.cell (i := 5) (by decide)
  go_wp2_with fail
  clear blP0 bcP0_0 bcP0_1 blS0 bcS0_0 bcS0_1 bcS0_2 bcS0_3 bcS0_4 bcS0_5 blX0 bcX0_0 bcX0_1 blG0 bcG0_0 bcG0_1 bcG0_2 bcG0_3 bcG0_4 bcG0_5
  refine (IntS_to _ _ _ cs2 false _ hf2 (Nat.le_trans (Nat.le_add_right _ _) hs2.out) (h2.out.kept BW25.out)).mono ?_
  rintro e w26 ⟨rfl, hO, hB⟩
  have C2_26 : Hid (Owns w26 true w25.heap.size (.l l2 1 cs2) (.slice (some ⟨w25.heap.size, 0, none⟩) l2 l2) (rng w25.heap.size w26.heap.size)) := hO
  have BW26 : Hid (Below w.heap.size w w26) := BW25.out.trans (hB.mono BW25.out.size)
  have SZ26 : Hid (w25.heap.size ≤ w26.heap.size) := hB.size
  have BS26 : Hid (Below w5.heap.size w5 w26) := BS25.out.trans (hB.mono BS25.out.size)
  have G0_2_26 : Hid (Owns w26 false w9.heap.size (mkD (1) (.l lr0_2 2 csr0_2)) (.slice ga0_2 lr0_2 gc0_2) gP0_2) := G0_2_25.out.kept hB
  have G1_26 : Hid (Owns w26 false w9.heap.size (mkD (1 + (M0_2 : Int)) (.l lr1 1 csr1)) (.slice ga1 lr1 gc1) gP1) := G1_25.out.kept hB
  have C0_0_26 : Hid (Owns w26 true w24.heap.size (.l l0_0 2 cs0_0) (.slice (some ⟨Cg0_0, 0, none⟩) l0_0 l0_0) (rng w24.heap.size w25.heap.size)) := C0_0_25.out.kept hB
  have BXP0_26 : Hid (w26.rowIs (w.heap.size) 24 2 (rowF [.slice a0_0 l0_0 cap0_0, .int .i64 x0_1])) := BXP0_25.out.of_block (hB.block _ BXP0_25.out.lt)
  have BXS0_26 : Hid (w26.rowIs (w5.heap.size) 42 6 (rowF [.int .i64 xr0_0, .int .i64 xr0_1, .slice sa0_2 lr0_2 sc0_2, .int .i64 xr0_3, .int .i64 xr0_4, .int .i64 xr0_5])) := BXS0_25.out.of_block (hB.block _ BXS0_25.out.lt)
  have BXX0_26 : Hid (w26.rowIs (w7.heap.size) 29 2 (rowF [.slice (some ⟨Xg0_0, 0, none⟩) l0_0 l0_0, .int .i64 x0_1])) := BXX0_25.out.of_block (hB.block _ BXX0_25.out.lt)
  have BXG0_26 : Hid (w26.rowIs (w10.heap.size) 42 6 (rowF [.int .i64 xr0_0, .int .i64 xr0_1, .slice ga0_2 lr0_2 gc0_2, .int .i64 xr0_3, .int .i64 xr0_4, .int .i64 xr0_5])) := BXG0_25.out.of_block (hB.block _ BXG0_25.out.lt)
  clear hO hB
  have blP0 : w.heap.size < w26.heap.size := BXP0_26.out.lt
  have bcP0_0 : w26.cell? ⟨w.heap.size, 0, none⟩ = some (.slice a0_0 l0_0 cap0_0) := BXP0_26.out.cell (i := 0) (by decide)
  have bcP0_1 : w26.cell? ⟨w.heap.size, 1, none⟩ = some (.int .i64 x0_1) := BXP0_26.out.cell (i := 1) (by decide)
  have blS0 : w5.heap.size < w26.heap.size := BXS0_26.out.lt
  have bcS0_0 : w26.cell? ⟨w5.heap.size, 0, none⟩ = some (.int .i64 xr0_0) := BXS0_26.out.cell (i := 0) (by decide)
  have bcS0_1 : w26.cell? ⟨w5.heap.size, 1, none⟩ = some (.int .i64 xr0_1) := BXS0_26.out.cell (i := 1) (by decide)
  have bcS0_2 : w26.cell? ⟨w5.heap.size, 2, none⟩ = some (.slice sa0_2 lr0_2 sc0_2) := BXS0_26.out.cell (i := 2) (by decide)
  have bcS0_3 : w26.cell? ⟨w5.heap.size, 3, none⟩ = some (.int .i64 xr0_3) := BXS0_26.out.cell (i := 3) (by decide)
  have bcS0_4 : w26.cell? ⟨w5.heap.size, 4, none⟩ = some (.int .i64 xr0_4) := BXS0_26.out.cell (i := 4) (by decide)
  have bcS0_5 : w26.cell? ⟨w5.heap.size, 5, none⟩ = some (.int .i64 xr0_5) := BXS0_26.out.cell (i := 5) (by decide)
  have blX0 : w7.heap.size < w26.heap.size := BXX0_26.out.lt
  have bcX0_0 : w26.cell? ⟨w7.heap.size, 0, none⟩ = some (.slice (some ⟨Xg0_0, 0, none⟩) l0_0 l0_0) := BXX0_26.out.cell (i := 0) (by decide)
  have bcX0_1 : w26.cell? ⟨w7.heap.size, 1, none⟩ = some (.int .i64 x0_1) := BXX0_26.out.cell (i := 1) (by decide)
  have blG0 : w10.heap.size < w26.heap.size := BXG0_26.out.lt
  have bcG0_0 : w26.cell? ⟨w10.heap.size, 0, none⟩ = some (.int .i64 xr0_0) := BXG0_26.out.cell (i := 0) (by decide)
  have bcG0_1 : w26.cell? ⟨w10.heap.size, 1, none⟩ = some (.int .i64 xr0_1) := BXG0_26.out.cell (i := 1) (by decide)
  have bcG0_2 : w26.cell? ⟨w10.heap.size, 2, none⟩ = some (.slice ga0_2 lr0_2 gc0_2) := BXG0_26.out.cell (i := 2) (by decide)
  have bcG0_3 : w26.cell? ⟨w10.heap.size, 3, none⟩ = some (.int .i64 xr0_3) := BXG0_26.out.cell (i := 3) (by decide)
  have bcG0_4 : w26.cell? ⟨w10.heap.size, 4, none⟩ = some (.int .i64 xr0_4) := BXG0_26.out.cell (i := 4) (by decide)
  have bcG0_5 : w26.cell? ⟨w10.heap.size, 5, none⟩ = some (.int .i64 xr0_5) := BXG0_26.out.cell (i := 5) (by decide)
  go_wp2_with fail
  clear blP0 bcP0_0 bcP0_1 blS0 bcS0_0 bcS0_1 bcS0_2 bcS0_3 bcS0_4 bcS0_5 blX0 bcX0_0 bcX0_1 blG0 bcG0_0 bcG0_1 bcG0_2 bcG0_3 bcG0_4 bcG0_5
  refine (HI.out _ _ _ _ _ C0_0_26.out.holds C2_26.out.holds).mono ?_
  rintro e w27 ⟨ha0_2, hc0_2, ha1, hc1, hP0_2, hP1, rfl, hO0_2, hF0_2, hO1, hF1, hD0_21, hB⟩
  have H0_2_27 : Hid (Owns w27 false w26.heap.size (.l lr0_2 2 csr0_2) (.slice ha0_2 lr0_2 hc0_2) hP0_2) := hO0_2
  have HF0_2 : Hid (∀ x, hP0_2 x → w26.heap.size ≤ x ∧ x < w27.heap.size) := hF0_2
  have H1_27 : Hid (Owns w27 false w26.heap.size (.l lr1 1 csr1) (.slice ha1 lr1 hc1) hP1) := hO1
  have HF1 : Hid (∀ x, hP1 x → w26.heap.size ≤ x ∧ x < w27.heap.size) := hF1
  have HD0_21 : Hid (∀ x, hP0_2 x → ¬ hP1 x) := hD0_21
  have BW27 : Hid (Below w.heap.size w w27) := BW26.out.trans (hB.mono BW26.out.size)
  have SZ27 : Hid (w26.heap.size ≤ w27.heap.size) := hB.size
  have BS27 : Hid (Below w5.heap.size w5 w27) := BS26.out.trans (hB.mono BS26.out.size)
  have G0_2_27 : Hid (Owns w27 false w9.heap.size (mkD (1) (.l lr0_2 2 csr0_2)) (.slice ga0_2 lr0_2 gc0_2) gP0_2) := G0_2_26.out.kept hB
  have G1_27 : Hid (Owns w27 false w9.heap.size (mkD (1 + (M0_2 : Int)) (.l lr1 1 csr1)) (.slice ga1 lr1 gc1) gP1) := G1_26.out.kept hB
  have C0_0_27 : Hid (Owns w27 true w24.heap.size (.l l0_0 2 cs0_0) (.slice (some ⟨Cg0_0, 0, none⟩) l0_0 l0_0) (rng w24.heap.size w25.heap.size)) := C0_0_26.out.kept hB
  have C2_27 : Hid (Owns w27 true w25.heap.size (.l l2 1 cs2) (.slice (some ⟨w25.heap.size, 0, none⟩) l2 l2) (rng w25.heap.size w26.heap.size)) := C2_26.out.kept hB
  have BXP0_27 : Hid (w27.rowIs (w.heap.size) 24 2 (rowF [.slice a0_0 l0_0 cap0_0, .int .i64 x0_1])) := BXP0_26.out.of_block (hB.block _ BXP0_26.out.lt)
  have BXS0_27 : Hid (w27.rowIs (w5.heap.size) 42 6 (rowF [.int .i64 xr0_0, .int .i64 xr0_1, .slice sa0_2 lr0_2 sc0_2, .int .i64 xr0_3, .int .i64 xr0_4, .int .i64 xr0_5])) := BXS0_26.out.of_block (hB.block _ BXS0_26.out.lt)
  have BXX0_27 : Hid (w27.rowIs (w7.heap.size) 29 2 (rowF [.slice (some ⟨Xg0_0, 0, none⟩) l0_0 l0_0, .int .i64 x0_1])) := BXX0_26.out.of_block (hB.block _ BXX0_26.out.lt)
  have BXG0_27 : Hid (w27.rowIs (w10.heap.size) 42 6 (rowF [.int .i64 xr0_0, .int .i64 xr0_1, .slice ga0_2 lr0_2 gc0_2, .int .i64 xr0_3, .int .i64 xr0_4, .int .i64 xr0_5])) := BXG0_26.out.of_block (hB.block _ BXG0_26.out.lt)
  clear hB hO0_2 hF0_2 hO1 hF1 hD0_21
  have blP0 : w.heap.size < w27.heap.size := BXP0_27.out.lt
  have bcP0_0 : w27.cell? ⟨w.heap.size, 0, none⟩ = some (.slice a0_0 l0_0 cap0_0) := BXP0_27.out.cell (i := 0) (by decide)
  have bcP0_1 : w27.cell? ⟨w.heap.size, 1, none⟩ = some (.int .i64 x0_1) := BXP0_27.out.cell (i := 1) (by decide)
  have blS0 : w5.heap.size < w27.heap.size := BXS0_27.out.lt
  have bcS0_0 : w27.cell? ⟨w5.heap.size, 0, none⟩ = some (.int .i64 xr0_0) := BXS0_27.out.cell (i := 0) (by decide)
  have bcS0_1 : w27.cell? ⟨w5.heap.size, 1, none⟩ = some (.int .i64 xr0_1) := BXS0_27.out.cell (i := 1) (by decide)
  have bcS0_2 : w27.cell? ⟨w5.heap.size, 2, none⟩ = some (.slice sa0_2 lr0_2 sc0_2) := BXS0_27.out.cell (i := 2) (by decide)
  have bcS0_3 : w27.cell? ⟨w5.heap.size, 3, none⟩ = some (.int .i64 xr0_3) := BXS0_27.out.cell (i := 3) (by decide)
  have bcS0_4 : w27.cell? ⟨w5.heap.size, 4, none⟩ = some (.int .i64 xr0_4) := BXS0_27.out.cell (i := 4) (by decide)
  have bcS0_5 : w27.cell? ⟨w5.heap.size, 5, none⟩ = some (.int .i64 xr0_5) := BXS0_27.out.cell (i := 5) (by decide)
  have blX0 : w7.heap.size < w27.heap.size := BXX0_27.out.lt
  have bcX0_0 : w27.cell? ⟨w7.heap.size, 0, none⟩ = some (.slice (some ⟨Xg0_0, 0, none⟩) l0_0 l0_0) := BXX0_27.out.cell (i := 0) (by decide)
  have bcX0_1 : w27.cell? ⟨w7.heap.size, 1, none⟩ = some (.int .i64 x0_1) := BXX0_27.out.cell (i := 1) (by decide)
  have blG0 : w10.heap.size < w27.heap.size := BXG0_27.out.lt
  have bcG0_0 : w27.cell? ⟨w10.heap.size, 0, none⟩ = some (.int .i64 xr0_0) := BXG0_27.out.cell (i := 0) (by decide)
  have bcG0_1 : w27.cell? ⟨w10.heap.size, 1, none⟩ = some (.int .i64 xr0_1) := BXG0_27.out.cell (i := 1) (by decide)
  have bcG0_2 : w27.cell? ⟨w10.heap.size, 2, none⟩ = some (.slice ga0_2 lr0_2 gc0_2) := BXG0_27.out.cell (i := 2) (by decide)
  have bcG0_3 : w27.cell? ⟨w10.heap.size, 3, none⟩ = some (.int .i64 xr0_3) := BXG0_27.out.cell (i := 3) (by decide)
  have bcG0_4 : w27.cell? ⟨w10.heap.size, 4, none⟩ = some (.int .i64 xr0_4) := BXG0_27.out.cell (i := 4) (by decide)
  have bcG0_5 : w27.cell? ⟨w10.heap.size, 5, none⟩ = some (.int .i64 xr0_5) := BXG0_27.out.cell (i := 5) (by decide)
  go_wp2_with fail
  clear blP0 bcP0_0 bcP0_1 blS0 bcS0_0 bcS0_1 bcS0_2 bcS0_3 bcS0_4 bcS0_5 blX0 bcX0_0 bcX0_1 blG0 bcG0_0 bcG0_1 bcG0_2 bcG0_3 bcG0_4 bcG0_5
  obtain ⟨w28, EWw28⟩ : ∃ X, X = w27.alloc (.cells #[.int .i64 xr0_0, .int .i64 xr0_1, .slice ha0_2 lr0_2 hc0_2, .int .i64 xr0_3, .int .i64 xr0_4, .int .i64 xr0_5] 42) := ⟨_, rfl⟩
  rw [← EWw28]
  have hB : Below w27.heap.size w27 w28 := by rw [EWw28]; exact (Below.refl _ _).alloc (Nat.le_refl _) _
  have ESw28 : w28.heap.size = w27.heap.size + 1 := by rw [EWw28]; simp
  have BXH0_28 : Hid (w28.rowIs (w27.heap.size) 42 6 (rowF [.int .i64 xr0_0, .int .i64 xr0_1, .slice ha0_2 lr0_2 hc0_2, .int .i64 xr0_3, .int .i64 xr0_4, .int .i64 xr0_5])) := by
    have q := row_of w27 #[.int .i64 xr0_0, .int .i64 xr0_1, .slice ha0_2 lr0_2 hc0_2, .int .i64 xr0_3, .int .i64 xr0_4, .int .i64 xr0_5] 42
    rw [EWw28]; exact q
  have LTH0 : Hid (w27.heap.size < w28.heap.size) := BXH0_28.out.lt
  have ADH0 : Hid (w27.heap.size = w27.heap.size) := by show _ = _; rfl
  have BW28 : Hid (Below w.heap.size w w28) := BW27.out.trans (hB.mono BW27.out.size)
  have SZ28 : Hid (w27.heap.size ≤ w28.heap.size) := hB.size
  have BS28 : Hid (Below w5.heap.size w5 w28) := BS27.out.trans (hB.mono BS27.out.size)
  have G0_2_28 : Hid (Owns w28 false w9.heap.size (mkD (1) (.l lr0_2 2 csr0_2)) (.slice ga0_2 lr0_2 gc0_2) gP0_2) := G0_2_27.out.kept hB
  have G1_28 : Hid (Owns w28 false w9.heap.size (mkD (1 + (M0_2 : Int)) (.l lr1 1 csr1)) (.slice ga1 lr1 gc1) gP1) := G1_27.out.kept hB
  have H0_2_28 : Hid (Owns w28 false w26.heap.size (.l lr0_2 2 csr0_2) (.slice ha0_2 lr0_2 hc0_2) hP0_2) := H0_2_27.out.kept hB
  have H1_28 : Hid (Owns w28 false w26.heap.size (.l lr1 1 csr1) (.slice ha1 lr1 hc1) hP1) := H1_27.out.kept hB
  have BXP0_28 : Hid (w28.rowIs (w.heap.size) 24 2 (rowF [.slice a0_0 l0_0 cap0_0, .int .i64 x0_1])) := BXP0_27.out.of_block (hB.block _ BXP0_27.out.lt)
  have BXS0_28 : Hid (w28.rowIs (w5.heap.size) 42 6 (rowF [.int .i64 xr0_0, .int .i64 xr0_1, .slice sa0_2 lr0_2 sc0_2, .int .i64 xr0_3, .int .i64 xr0_4, .int .i64 xr0_5])) := BXS0_27.out.of_block (hB.block _ BXS0_27.out.lt)
  have BXX0_28 : Hid (w28.rowIs (w7.heap.size) 29 2 (rowF [.slice (some ⟨Xg0_0, 0, none⟩) l0_0 l0_0, .int .i64 x0_1])) := BXX0_27.out.of_block (hB.block _ BXX0_27.out.lt)
  have BXG0_28 : Hid (w28.rowIs (w10.heap.size) 42 6 (rowF [.int .i64 xr0_0, .int .i64 xr0_1, .slice ga0_2 lr0_2 gc0_2, .int .i64 xr0_3, .int .i64 xr0_4, .int .i64 xr0_5])) := BXG0_27.out.of_block (hB.block _ BXG0_27.out.lt)
  clear hB EWw28
  clear ESw28
  refine (Cache_eq xr0_0 xr0_1 _ _ _ csr0_2 xr0_3 xr0_4 xr0_5 _ _ _ _ _ hfr0_2 hsr0_2 H0_2_28.out.holds (S0_2.out.kept BS28.out)).mono ?_
  rintro e w29 ⟨rfl, hB⟩
  have BW29 : Hid (Below w.heap.size w w29) := BW28.out.trans (hB.mono BW28.out.size)
  have SZ29 : Hid (w28.heap.size ≤ w29.heap.size) := hB.size
  have BS29 : Hid (Below w5.heap.size w5 w29) := BS28.out.trans (hB.mono BS28.out.size)
  have G0_2_29 : Hid (Owns w29 false w9.heap.size (mkD (1) (.l lr0_2 2 csr0_2)) (.slice ga0_2 lr0_2 gc0_2) gP0_2) := G0_2_28.out.kept hB
  have G1_29 : Hid (Owns w29 false w9.heap.size (mkD (1 + (M0_2 : Int)) (.l lr1 1 csr1)) (.slice ga1 lr1 gc1) gP1) := G1_28.out.kept hB
  have H0_2_29 : Hid (Owns w29 false w26.heap.size (.l lr0_2 2 csr0_2) (.slice ha0_2 lr0_2 hc0_2) hP0_2) := H0_2_28.out.kept hB
  have H1_29 : Hid (Owns w29 false w26.heap.size (.l lr1 1 csr1) (.slice ha1 lr1 hc1) hP1) := H1_28.out.kept hB
  have BXP0_29 : Hid (w29.rowIs (w.heap.size) 24 2 (rowF [.slice a0_0 l0_0 cap0_0, .int .i64 x0_1])) := BXP0_28.out.of_block (hB.block _ BXP0_28.out.lt)
  have BXS0_29 : Hid (w29.rowIs (w5.heap.size) 42 6 (rowF [.int .i64 xr0_0, .int .i64 xr0_1, .slice sa0_2 lr0_2 sc0_2, .int .i64 xr0_3, .int .i64 xr0_4, .int .i64 xr0_5])) := BXS0_28.out.of_block (hB.block _ BXS0_28.out.lt)
  have BXX0_29 : Hid (w29.rowIs (w7.heap.size) 29 2 (rowF [.slice (some ⟨Xg0_0, 0, none⟩) l0_0 l0_0, .int .i64 x0_1])) := BXX0_28.out.of_block (hB.block _ BXX0_28.out.lt)
  have BXG0_29 : Hid (w29.rowIs (w10.heap.size) 42 6 (rowF [.int .i64 xr0_0, .int .i64 xr0_1, .slice ga0_2 lr0_2 gc0_2, .int .i64 xr0_3, .int .i64 xr0_4, .int .i64 xr0_5])) := BXG0_28.out.of_block (hB.block _ BXG0_28.out.lt)
  have BXH0_29 : Hid (w29.rowIs (w27.heap.size) 42 6 (rowF [.int .i64 xr0_0, .int .i64 xr0_1, .slice ha0_2 lr0_2 hc0_2, .int .i64 xr0_3, .int .i64 xr0_4, .int .i64 xr0_5])) := BXH0_28.out.of_block (hB.block _ BXH0_28.out.lt)
  clear hB
  have blP0 : w.heap.size < w29.heap.size := BXP0_29.out.lt
  have bcP0_0 : w29.cell? ⟨w.heap.size, 0, none⟩ = some (.slice a0_0 l0_0 cap0_0) := BXP0_29.out.cell (i := 0) (by decide)
  have bcP0_1 : w29.cell? ⟨w.heap.size, 1, none⟩ = some (.int .i64 x0_1) := BXP0_29.out.cell (i := 1) (by decide)
  have blS0 : w5.heap.size < w29.heap.size := BXS0_29.out.lt
  have bcS0_0 : w29.cell? ⟨w5.heap.size, 0, none⟩ = some (.int .i64 xr0_0) := BXS0_29.out.cell (i := 0) (by decide)
  have bcS0_1 : w29.cell? ⟨w5.heap.size, 1, none⟩ = some (.int .i64 xr0_1) := BXS0_29.out.cell (i := 1) (by decide)
  have bcS0_2 : w29.cell? ⟨w5.heap.size, 2, none⟩ = some (.slice sa0_2 lr0_2 sc0_2) := BXS0_29.out.cell (i := 2) (by decide)
  have bcS0_3 : w29.cell? ⟨w5.heap.size, 3, none⟩ = some (.int .i64 xr0_3) := BXS0_29.out.cell (i := 3) (by decide)
  have bcS0_4 : w29.cell? ⟨w5.heap.size, 4, none⟩ = some (.int .i64 xr0_4) := BXS0_29.out.cell (i := 4) (by decide)
  have bcS0_5 : w29.cell? ⟨w5.heap.size, 5, none⟩ = some (.int .i64 xr0_5) := BXS0_29.out.cell (i := 5) (by decide)
  have blX0 : w7.heap.size < w29.heap.size := BXX0_29.out.lt
  have bcX0_0 : w29.cell? ⟨w7.heap.size, 0, none⟩ = some (.slice (some ⟨Xg0_0, 0, none⟩) l0_0 l0_0) := BXX0_29.out.cell (i := 0) (by decide)
  have bcX0_1 : w29.cell? ⟨w7.heap.size, 1, none⟩ = some (.int .i64 x0_1) := BXX0_29.out.cell (i := 1) (by decide)
  have blG0 : w10.heap.size < w29.heap.size := BXG0_29.out.lt
  have bcG0_0 : w29.cell? ⟨w10.heap.size, 0, none⟩ = some (.int .i64 xr0_0) := BXG0_29.out.cell (i := 0) (by decide)
  have bcG0_1 : w29.cell? ⟨w10.heap.size, 1, none⟩ = some (.int .i64 xr0_1) := BXG0_29.out.cell (i := 1) (by decide)
  have bcG0_2 : w29.cell? ⟨w10.heap.size, 2, none⟩ = some (.slice ga0_2 lr0_2 gc0_2) := BXG0_29.out.cell (i := 2) (by decide)
  have bcG0_3 : w29.cell? ⟨w10.heap.size, 3, none⟩ = some (.int .i64 xr0_3) := BXG0_29.out.cell (i := 3) (by decide)
  have bcG0_4 : w29.cell? ⟨w10.heap.size, 4, none⟩ = some (.int .i64 xr0_4) := BXG0_29.out.cell (i := 4) (by decide)
  have bcG0_5 : w29.cell? ⟨w10.heap.size, 5, none⟩ = some (.int .i64 xr0_5) := BXG0_29.out.cell (i := 5) (by decide)
  have blH0 : w27.heap.size < w29.heap.size := BXH0_29.out.lt
  have bcH0_0 : w29.cell? ⟨w27.heap.size, 0, none⟩ = some (.int .i64 xr0_0) := BXH0_29.out.cell (i := 0) (by decide)
  have bcH0_1 : w29.cell? ⟨w27.heap.size, 1, none⟩ = some (.int .i64 xr0_1) := BXH0_29.out.cell (i := 1) (by decide)
  have bcH0_2 : w29.cell? ⟨w27.heap.size, 2, none⟩ = some (.slice ha0_2 lr0_2 hc0_2) := BXH0_29.out.cell (i := 2) (by decide)
  have bcH0_3 : w29.cell? ⟨w27.heap.size, 3, none⟩ = some (.int .i64 xr0_3) := BXH0_29.out.cell (i := 3) (by decide)
  have bcH0_4 : w29.cell? ⟨w27.heap.size, 4, none⟩ = some (.int .i64 xr0_4) := BXH0_29.out.cell (i := 4) (by decide)
  have bcH0_5 : w29.cell? ⟨w27.heap.size, 5, none⟩ = some (.int .i64 xr0_5) := BXH0_29.out.cell (i := 5) (by decide)
  go_wp2_with fail
  clear blP0 bcP0_0 bcP0_1 blS0 bcS0_0 bcS0_1 bcS0_2 bcS0_3 bcS0_4 bcS0_5 blX0 bcX0_0 bcX0_1 blG0 bcG0_0 bcG0_1 bcG0_2 bcG0_3 bcG0_4 bcG0_5 blH0 bcH0_0 bcH0_1 bcH0_2 bcH0_3 bcH0_4 bcH0_5
  refine (IntS_eq _ _ _ _ _ csr1 _ _ _ hfr1 (Nat.le_trans (Nat.le_add_right _ _) hsr1.out) H1_29.out.holds (S1.out.kept BS29.out)).mono ?_
  rintro e w30 ⟨rfl, hB⟩
  have BW30 : Hid (Below w.heap.size w w30) := BW29.out.trans (hB.mono BW29.out.size)
  have SZ30 : Hid (w29.heap.size ≤ w30.heap.size) := hB.size
  have BS30 : Hid (Below w5.heap.size w5 w30) := BS29.out.trans (hB.mono BS29.out.size)
  have G0_2_30 : Hid (Owns w30 false w9.heap.size (mkD (1) (.l lr0_2 2 csr0_2)) (.slice ga0_2 lr0_2 gc0_2) gP0_2) := G0_2_29.out.kept hB
  have G1_30 : Hid (Owns w30 false w9.heap.size (mkD (1 + (M0_2 : Int)) (.l lr1 1 csr1)) (.slice ga1 lr1 gc1) gP1) := G1_29.out.kept hB
  have H0_2_30 : Hid (Owns w30 false w26.heap.size (.l lr0_2 2 csr0_2) (.slice ha0_2 lr0_2 hc0_2) hP0_2) := H0_2_29.out.kept hB
  have H1_30 : Hid (Owns w30 false w26.heap.size (.l lr1 1 csr1) (.slice ha1 lr1 hc1) hP1) := H1_29.out.kept hB
  have BXP0_30 : Hid (w30.rowIs (w.heap.size) 24 2 (rowF [.slice a0_0 l0_0 cap0_0, .int .i64 x0_1])) := BXP0_29.out.of_block (hB.block _ BXP0_29.out.lt)
  have BXS0_30 : Hid (w30.rowIs (w5.heap.size) 42 6 (rowF [.int .i64 xr0_0, .int .i64 xr0_1, .slice sa0_2 lr0_2 sc0_2, .int .i64 xr0_3, .int .i64 xr0_4, .int .i64 xr0_5])) := BXS0_29.out.of_block (hB.block _ BXS0_29.out.lt)
  have BXX0_30 : Hid (w30.rowIs (w7.heap.size) 29 2 (rowF [.slice (some ⟨Xg0_0, 0, none⟩) l0_0 l0_0, .int .i64 x0_1])) := BXX0_29.out.of_block (hB.block _ BXX0_29.out.lt)
  have BXG0_30 : Hid (w30.rowIs (w10.heap.size) 42 6 (rowF [.int .i64 xr0_0, .int .i64 xr0_1, .slice ga0_2 lr0_2 gc0_2, .int .i64 xr0_3, .int .i64 xr0_4, .int .i64 xr0_5])) := BXG0_29.out.of_block (hB.block _ BXG0_29.out.lt)
  have BXH0_30 : Hid (w30.rowIs (w27.heap.size) 42 6 (rowF [.int .i64 xr0_0, .int .i64 xr0_1, .slice ha0_2 lr0_2 hc0_2, .int .i64 xr0_3, .int .i64 xr0_4, .int .i64 xr0_5])) := BXH0_29.out.of_block (hB.block _ BXH0_29.out.lt)
  clear hB
  have blP0 : w.heap.size < w30.heap.size := BXP0_30.out.lt
  have bcP0_0 : w30.cell? ⟨w.heap.size, 0, none⟩ = some (.slice a0_0 l0_0 cap0_0) := BXP0_30.out.cell (i := 0) (by decide)
  have bcP0_1 : w30.cell? ⟨w.heap.size, 1, none⟩ = some (.int .i64 x0_1) := BXP0_30.out.cell (i := 1) (by decide)
  have blS0 : w5.heap.size < w30.heap.size := BXS0_30.out.lt
  have bcS0_0 : w30.cell? ⟨w5.heap.size, 0, none⟩ = some (.int .i64 xr0_0) := BXS0_30.out.cell (i := 0) (by decide)
  have bcS0_1 : w30.cell? ⟨w5.heap.size, 1, none⟩ = some (.int .i64 xr0_1) := BXS0_30.out.cell (i := 1) (by decide)
  have bcS0_2 : w30.cell? ⟨w5.heap.size, 2, none⟩ = some (.slice sa0_2 lr0_2 sc0_2) := BXS0_30.out.cell (i := 2) (by decide)
  have bcS0_3 : w30.cell? ⟨w5.heap.size, 3, none⟩ = some (.int .i64 xr0_3) := BXS0_30.out.cell (i := 3) (by decide)
  have bcS0_4 : w30.cell? ⟨w5.heap.size, 4, none⟩ = some (.int .i64 xr0_4) := BXS0_30.out.cell (i := 4) (by decide)
  have bcS0_5 : w30.cell? ⟨w5.heap.size, 5, none⟩ = some (.int .i64 xr0_5) := BXS0_30.out.cell (i := 5) (by decide)
  have blX0 : w7.heap.size < w30.heap.size := BXX0_30.out.lt
  have bcX0_0 : w30.cell? ⟨w7.heap.size, 0, none⟩ = some (.slice (some ⟨Xg0_0, 0, none⟩) l0_0 l0_0) := BXX0_30.out.cell (i := 0) (by decide)
  have bcX0_1 : w30.cell? ⟨w7.heap.size, 1, none⟩ = some (.int .i64 x0_1) := BXX0_30.out.cell (i := 1) (by decide)
  have blG0 : w10.heap.size < w30.heap.size := BXG0_30.out.lt
  have bcG0_0 : w30.cell? ⟨w10.heap.size, 0, none⟩ = some (.int .i64 xr0_0) := BXG0_30.out.cell (i := 0) (by decide)
  have bcG0_1 : w30.cell? ⟨w10.heap.size, 1, none⟩ = some (.int .i64 xr0_1) := BXG0_30.out.cell (i := 1) (by decide)
  have bcG0_2 : w30.cell? ⟨w10.heap.size, 2, none⟩ = some (.slice ga0_2 lr0_2 gc0_2) := BXG0_30.out.cell (i := 2) (by decide)
  have bcG0_3 : w30.cell? ⟨w10.heap.size, 3, none⟩ = some (.int .i64 xr0_3) := BXG0_30.out.cell (i := 3) (by decide)
  have bcG0_4 : w30.cell? ⟨w10.heap.size, 4, none⟩ = some (.int .i64 xr0_4) := BXG0_30.out.cell (i := 4) (by decide)
  have bcG0_5 : w30.cell? ⟨w10.heap.size, 5, none⟩ = some (.int .i64 xr0_5) := BXG0_30.out.cell (i := 5) (by decide)
  have blH0 : w27.heap.size < w30.heap.size := BXH0_30.out.lt
  have bcH0_0 : w30.cell? ⟨w27.heap.size, 0, none⟩ = some (.int .i64 xr0_0) := BXH0_30.out.cell (i := 0) (by decide)
  have bcH0_1 : w30.cell? ⟨w27.heap.size, 1, none⟩ = some (.int .i64 xr0_1) := BXH0_30.out.cell (i := 1) (by decide)
  have bcH0_2 : w30.cell? ⟨w27.heap.size, 2, none⟩ = some (.slice ha0_2 lr0_2 hc0_2) := BXH0_30.out.cell (i := 2) (by decide)
  have bcH0_3 : w30.cell? ⟨w27.heap.size, 3, none⟩ = some (.int .i64 xr0_3) := BXH0_30.out.cell (i := 3) (by decide)
  have bcH0_4 : w30.cell? ⟨w27.heap.size, 4, none⟩ = some (.int .i64 xr0_4) := BXH0_30.out.cell (i := 4) (by decide)
  have bcH0_5 : w30.cell? ⟨w27.heap.size, 5, none⟩ = some (.int .i64 xr0_5) := BXH0_30.out.cell (i := 5) (by decide)
  go_wp2_with fail
  clear blP0 bcP0_0 bcP0_1 blS0 bcS0_0 bcS0_1 bcS0_2 bcS0_3 bcS0_4 bcS0_5 blX0 bcX0_0 bcX0_1 blG0 bcG0_0 bcG0_1 bcG0_2 bcG0_3 bcG0_4 bcG0_5 blH0 bcH0_0 bcH0_1 bcH0_2 bcH0_3 bcH0_4 bcH0_5
  refine (Cache_held (1) (by omega) xr0_0 xr0_1 _ _ _ csr0_2 xr0_3 xr0_4 xr0_5 false _ hfr0_2 hsr0_2 (by rw [HM0_2.out]; omega) G0_2_30.out.holds).mono ?_
  rw [HM0_2.out]
  rintro e w31 ⟨rfl, hB⟩
  have BW31 : Hid (Below w.heap.size w w31) := BW30.out.trans (hB.mono BW30.out.size)
  have SZ31 : Hid (w30.heap.size ≤ w31.heap.size) := hB.size
  have BS31 : Hid (Below w5.heap.size w5 w31) := BS30.out.trans (hB.mono BS30.out.size)
  have G0_2_31 : Hid (Owns w31 false w9.heap.size (mkD (1) (.l lr0_2 2 csr0_2)) (.slice ga0_2 lr0_2 gc0_2) gP0_2) := G0_2_30.out.kept hB
  have G1_31 : Hid (Owns w31 false w9.heap.size (mkD (1 + (M0_2 : Int)) (.l lr1 1 csr1)) (.slice ga1 lr1 gc1) gP1) := G1_30.out.kept hB
  have H0_2_31 : Hid (Owns w31 false w26.heap.size (.l lr0_2 2 csr0_2) (.slice ha0_2 lr0_2 hc0_2) hP0_2) := H0_2_30.out.kept hB
  have H1_31 : Hid (Owns w31 false w26.heap.size (.l lr1 1 csr1) (.slice ha1 lr1 hc1) hP1) := H1_30.out.kept hB
  have BXP0_31 : Hid (w31.rowIs (w.heap.size) 24 2 (rowF [.slice a0_0 l0_0 cap0_0, .int .i64 x0_1])) := BXP0_30.out.of_block (hB.block _ BXP0_30.out.lt)
  have BXS0_31 : Hid (w31.rowIs (w5.heap.size) 42 6 (rowF [.int .i64 xr0_0, .int .i64 xr0_1, .slice sa0_2 lr0_2 sc0_2, .int .i64 xr0_3, .int .i64 xr0_4, .int .i64 xr0_5])) := BXS0_30.out.of_block (hB.block _ BXS0_30.out.lt)
  have BXX0_31 : Hid (w31.rowIs (w7.heap.size) 29 2 (rowF [.slice (some ⟨Xg0_0, 0, none⟩) l0_0 l0_0, .int .i64 x0_1])) := BXX0_30.out.of_block (hB.block _ BXX0_30.out.lt)
  have BXG0_31 : Hid (w31.rowIs (w10.heap.size) 42 6 (rowF [.int .i64 xr0_0, .int .i64 xr0_1, .slice ga0_2 lr0_2 gc0_2, .int .i64 xr0_3, .int .i64 xr0_4, .int .i64 xr0_5])) := BXG0_30.out.of_block (hB.block _ BXG0_30.out.lt)
  have BXH0_31 : Hid (w31.rowIs (w27.heap.size) 42 6 (rowF [.int .i64 xr0_0, .int .i64 xr0_1, .slice ha0_2 lr0_2 hc0_2, .int .i64 xr0_3, .int .i64 xr0_4, .int .i64 xr0_5])) := BXH0_30.out.of_block (hB.block _ BXH0_30.out.lt)
  clear hB
  have hq31_0 : (0 : Int) ≤ 1 + (M0_2 : Int) := by omega
  have blP0 : w.heap.size < w31.heap.size := BXP0_31.out.lt
  have bcP0_0 : w31.cell? ⟨w.heap.size, 0, none⟩ = some (.slice a0_0 l0_0 cap0_0) := BXP0_31.out.cell (i := 0) (by decide)
  have bcP0_1 : w31.cell? ⟨w.heap.size, 1, none⟩ = some (.int .i64 x0_1) := BXP0_31.out.cell (i := 1) (by decide)
  have blS0 : w5.heap.size < w31.heap.size := BXS0_31.out.lt
  have bcS0_0 : w31.cell? ⟨w5.heap.size, 0, none⟩ = some (.int .i64 xr0_0) := BXS0_31.out.cell (i := 0) (by decide)
  have bcS0_1 : w31.cell? ⟨w5.heap.size, 1, none⟩ = some (.int .i64 xr0_1) := BXS0_31.out.cell (i := 1) (by decide)
  have bcS0_2 : w31.cell? ⟨w5.heap.size, 2, none⟩ = some (.slice sa0_2 lr0_2 sc0_2) := BXS0_31.out.cell (i := 2) (by decide)
  have bcS0_3 : w31.cell? ⟨w5.heap.size, 3, none⟩ = some (.int .i64 xr0_3) := BXS0_31.out.cell (i := 3) (by decide)
  have bcS0_4 : w31.cell? ⟨w5.heap.size, 4, none⟩ = some (.int .i64 xr0_4) := BXS0_31.out.cell (i := 4) (by decide)
  have bcS0_5 : w31.cell? ⟨w5.heap.size, 5, none⟩ = some (.int .i64 xr0_5) := BXS0_31.out.cell (i := 5) (by decide)
  have blX0 : w7.heap.size < w31.heap.size := BXX0_31.out.lt
  have bcX0_0 : w31.cell? ⟨w7.heap.size, 0, none⟩ = some (.slice (some ⟨Xg0_0, 0, none⟩) l0_0 l0_0) := BXX0_31.out.cell (i := 0) (by decide)
  have bcX0_1 : w31.cell? ⟨w7.heap.size, 1, none⟩ = some (.int .i64 x0_1) := BXX0_31.out.cell (i := 1) (by decide)
  have blG0 : w10.heap.size < w31.heap.size := BXG0_31.out.lt
  have bcG0_0 : w31.cell? ⟨w10.heap.size, 0, none⟩ = some (.int .i64 xr0_0) := BXG0_31.out.cell (i := 0) (by decide)
  have bcG0_1 : w31.cell? ⟨w10.heap.size, 1, none⟩ = some (.int .i64 xr0_1) := BXG0_31.out.cell (i := 1) (by decide)
  have bcG0_2 : w31.cell? ⟨w10.heap.size, 2, none⟩ = some (.slice ga0_2 lr0_2 gc0_2) := BXG0_31.out.cell (i := 2) (by decide)
  have bcG0_3 : w31.cell? ⟨w10.heap.size, 3, none⟩ = some (.int .i64 xr0_3) := BXG0_31.out.cell (i := 3) (by decide)
  have bcG0_4 : w31.cell? ⟨w10.heap.size, 4, none⟩ = some (.int .i64 xr0_4) := BXG0_31.out.cell (i := 4) (by decide)
  have bcG0_5 : w31.cell? ⟨w10.heap.size, 5, none⟩ = some (.int .i64 xr0_5) := BXG0_31.out.cell (i := 5) (by decide)
  have blH0 : w27.heap.size < w31.heap.size := BXH0_31.out.lt
  have bcH0_0 : w31.cell? ⟨w27.heap.size, 0, none⟩ = some (.int .i64 xr0_0) := BXH0_31.out.cell (i := 0) (by decide)
  have bcH0_1 : w31.cell? ⟨w27.heap.size, 1, none⟩ = some (.int .i64 xr0_1) := BXH0_31.out.cell (i := 1) (by decide)
  have bcH0_2 : w31.cell? ⟨w27.heap.size, 2, none⟩ = some (.slice ha0_2 lr0_2 hc0_2) := BXH0_31.out.cell (i := 2) (by decide)
  have bcH0_3 : w31.cell? ⟨w27.heap.size, 3, none⟩ = some (.int .i64 xr0_3) := BXH0_31.out.cell (i := 3) (by decide)
  have bcH0_4 : w31.cell? ⟨w27.heap.size, 4, none⟩ = some (.int .i64 xr0_4) := BXH0_31.out.cell (i := 4) (by decide)
  have bcH0_5 : w31.cell? ⟨w27.heap.size, 5, none⟩ = some (.int .i64 xr0_5) := BXH0_31.out.cell (i := 5) (by decide)
  go_wp2_with fail
  clear blP0 bcP0_0 bcP0_1 blS0 bcS0_0 bcS0_1 bcS0_2 bcS0_3 bcS0_4 bcS0_5 blX0 bcX0_0 bcX0_1 blG0 bcG0_0 bcG0_1 bcG0_2 bcG0_3 bcG0_4 bcG0_5 blH0 bcH0_0 bcH0_1 bcH0_2 bcH0_3 bcH0_4 bcH0_5
  refine (IntS_held (1 + (M0_2 : Int)) (by omega) (by omega) _ _ _ csr1 false _ hfr1 (Nat.le_trans (Nat.le_add_right _ _) hsr1.out) G1_31.out.holds).mono ?_
  rintro e w' ⟨rfl, hw⟩
  rw [hw, HM1.out]
  clear hw w'
  have hq31_1 : (0 : Int) ≤ 1 + (M0_2 : Int) + (M1 : Int) := by omega
  go_wp2
  go_ret
  exact ⟨rfl, BW31.out⟩
theorem walk (a0_0 : Option Addr) (l0_0 cap0_0 : Nat) (cs0_0 : Nat → Dv) (x0_1 : Int) (a1 : Int) (w1 : (Lit.int .i64 a1).wf = true) (a2 : Option Addr) (l2 cap2 : Nat) (cs2 : Nat → Dv) (w : World) (h0_0 : Holds w false (.l l0_0 2 cs0_0) (.slice a0_0 l0_0 cap0_0)) (f0_0 : Fits shClassS (.l l0_0 2 cs0_0)) (n0_0 : Lens (.l l0_0 2 cs0_0)) (h2 : Holds w false (.l l2 1 cs2) (.slice a2 l2 cap2)) (f2 : Fits shI (.l l2 1 cs2)) (n2 : Lens (.l l2 1 cs2)) :
    Calls Try.prog 7 #[.agg #[.slice a0_0 l0_0 cap0_0, .int .i64 x0_1], .int .i64 a1, .slice a2 l2 cap2] w fun e w' => e = .returned (.bool true) ∧ Below w.heap.size w w' := by
  have HZ : Hid ((intsOf cs2 (l2 * 1)).length = l2) := by show _ = _; rw [intsOf_len]; omega
  have HFEW : Hid ((cP cs0_0 l0_0 x0_1 a1 (intsOf cs2 (l2 * 1))).l ≤ 4 ∧ (gP cs0_0 l0_0 x0_1 a1 (intsOf cs2 (l2 * 1))).length ≤ 100) := by
    cases hok : okP cs0_0 l0_0 x0_1 a1 (intsOf cs2 (l2 * 1))
    · obtain ⟨e1, e2, _, _⟩ := play_no hok
      rw [e1, e2]; exact ⟨by decide, by decide⟩
    · obtain ⟨e1, e2, _, _⟩ := play_yes hok
      rw [e1, e2, gone_len]
      unfold okP at hok
      simp only [Bool.and_eq_true] at hok
      obtain ⟨⟨h1, h2⟩, h3⟩ := hok
      unfold okN at h1
      simp only [Bool.and_eq_true] at h1
      have hn := inR_out h1.2
      have g := play_good (world_out h1.1).2.2 (show a1.toNat < 5 by omega) h3
      exact ⟨g.1.few, of_decide_eq_true h2⟩
  have HFI : Hid (∀ W a cap, Holds W true (.l l2 1 cs2) (.slice a l2 cap) → Ints W a (intsOf cs2 (l2 * 1))) := fun W a cap hh => holds_ints hh (fits_I f2)
  obtain ⟨R, HR⟩ : ∃ R, Hid (cP cs0_0 l0_0 x0_1 a1 (intsOf cs2 (l2 * 1)) = R) := ⟨_, rfl⟩
  obtain ⟨G, HG⟩ : ∃ G, Hid (gP cs0_0 l0_0 x0_1 a1 (intsOf cs2 (l2 * 1)) = G) := ⟨_, rfl⟩
  rw [HR.out, HG.out] at HFEW
  refine walk_of a0_0 cap0_0 a2 cap2 l0_0 cs0_0 x0_1 a1 l2 cs2 (mP cs0_0 l0_0 x0_1 a1 (intsOf cs2 (l2 * 1))) R.s R.l (fun i => .n (R.zs.getD i 0)) (sP cs0_0 l0_0 x0_1 a1 (intsOf cs2 (l2 * 1))) R.h R.lk G.length (fun i => .n (G.getD i 0)) (okP cs0_0 l0_0 x0_1 a1 (intsOf cs2 (l2 * 1))) w f0_0 n0_0 h0_0 f2 n2 h2 ?_ ?_ ?_ ?_ (fun hs hs2 => ?_) (fun hs hs2 => ?_)
  · exact ⟨rfl, fun i hi => by rcases (show i % 2 = 0 ∨ i % 2 = 1 by omega) with e | e <;> (rw [e]; trivial)⟩
  · show R.l + sumTo _ _ ≤ 100000
    rw [sz_flat _ (fun i _ => ⟨_, rfl⟩)]
    have := HFEW.out.1
    omega
  · exact ⟨rfl, fun i hi => trivial⟩
  · show G.length + sumTo _ _ ≤ 100000
    rw [sz_flat _ (fun i _ => ⟨_, rfl⟩)]
    have := HFEW.out.2
    omega
  · intro W a cap b bcap hh hb
    have hl2 : l2 ≤ 1048576 := Nat.le_trans (Nat.le_add_right _ _) hs2
    refine (spec_play a l0_0 cap cs0_0 x0_1 a1 b l2 bcap (intsOf cs2 (l2 * 1)) true W f0_0 hs hh HZ hl2 (HFI.out W b bcap hb)).mono (fun e W' q => ?_)
    obtain ⟨ga, gc, oa, oc, q1, q2, q3, q4⟩ := q
    rw [HR.out] at q1 q2
    rw [HG.out] at q1 q3
    obtain ⟨oa', oc', e', o3⟩ := ints_row q3 (es := fun i => .n (G.getD i 0)) rfl (fun i _ => rfl)
    simp only [Value.slice.injEq, true_and] at e'
    obtain ⟨rfl, rfl⟩ := e'
    exact ⟨ga, gc, oa, oc, q1, q2.owns.holds, o3.holds, q4⟩
  · intro W a cap b bcap hh hb
    have hl2 : l2 ≤ 1048576 := Nat.le_trans (Nat.le_add_right _ _) hs2
    refine (impl_play a l0_0 cap cs0_0 x0_1 a1 b l2 bcap (intsOf cs2 (l2 * 1)) true W f0_0 hs hh HZ hl2 (HFI.out W b bcap hb)).mono (fun e W' q => ?_)
    obtain ⟨ga, gc, oa, oc, q1, q2, q3, q4⟩ := q
    rw [HR.out] at q1 q2
    rw [HG.out] at q1 q3
    have dis := way_int q2 q3
    obtain ⟨oa', oc', e', o3⟩ := ints_row q3 (es := fun i => .n (G.getD i 0)) rfl (fun i _ => rfl)
    simp only [Value.slice.injEq, true_and] at e'
    obtain ⟨rfl, rfl⟩ := e'
    exact ⟨ga, gc, oa, oc, _, _, q1, q2.owns, fun x e => World.ownsRow.lt q2 x e, o3, fun x e => World.ownsRow.lt q3 x e, fun x e1 e2 => dis x e1 e2, q4⟩

theorem arr_of2 {c : Array Value} (h : c.size = 2) : ∃ q0 q1, c = #[q0, q1] := by
  rcases c with ⟨l⟩
  match l, h with
  | [q0, q1], _ => exact ⟨q0, q1, rfl⟩
set_option maxRecDepth 100000 in
set_option maxHeartbeats 4000000 in
theorem lifted (os : Os) (started : os.Started) (H : Type) (enc : TypeId × Value → H) :
    ReturnsInHanded {} Try.checked os 7 .any (Rows.fnExactPlayCallsSpec.pre6 enc Try.prog Try.f7 Rows.fnExactPlayCallsRow.domain false) (Rows.fnExactPlayCallsSpec.post enc Try.prog Try.f7 false true false false) := by
  refine returnsInHanded_of_change_sized (C := Try.checked) own started (by kernel_rfl) Try.func7
    (ChangeSpec.witness6 (enc := enc) (C := Try.checked) false ⟨#[], #[.agg #[.slice none 0 0, .int .i64 0], .int .i64 0, .slice none 0 0], []⟩ 8 (by kernel_rfl) (by kernel_rfl) (by kernel_rfl) (by kernel_rfl)) ?_
  intro W base args ds gs before hval0 hW hcnd hsz0 _
  have hval : ∀ (j : Nat) t v, Try.f7.params[j]? = some t → args[j]? = some v → Value.okWide Try.prog W .any base t v := hval0
  have hW' := hW
  obtain ⟨p, q, hA0, hV, rfl, hfz, hnd⟩ := hW
  have hsz : (DataW.weightsEach Try.prog (Try.f7.params.toList ++ Rows.fnExactPlayCallsSpec.plain.varTypes Try.prog) (ds ++ gs)).all (· ≤ reachBytes) = true := hsz0
  have hA : DataW.TrodAll enc Try.prog W 0 (fun _ => true) true Try.f7.params.toList args.toList ds p := hA0
  rw [Try.params7] at hA hval hsz
  obtain ⟨v0, vs0, d0, ds0, p0, q0, hargs, rfl, rfl, h0, r0⟩ := trodAll_cons hA
  obtain ⟨v1, vs1, d1, ds1, p1, q1, rfl, rfl, rfl, h1, r1⟩ := trodAll_cons r0
  obtain ⟨v2, vs2, d2, ds2, p2, q2, rfl, rfl, rfl, h2, r2⟩ := trodAll_cons r1
  obtain ⟨rfl, rfl, rfl⟩ := trodAll_nil r2
  obtain rfl : args = #[v0, v1, v2] := by cases args; simp_all
  obtain ⟨rfl, rfl⟩ := trodVars_none hV
  have k0 := h0
  have lt0 : ∀ x ∈ p0, x.block < W.heap.size := by obtain ⟨m, hm⟩ := k0; exact DataW.trod_lt m _ _ _ hm
  obtain ⟨arr0, rfl, hsz0, hrow0⟩ := open_row (n := 2) (e := fun i => match i with | 0 => shClassS | _ => .n) Try.underlying24 (show Try.prog.cellsOf 24 = 2 by kernel_rfl) rfl (fun i f h => by
    match i, h with
    | 0, h => obtain rfl := Option.some.inj h; exact ⟨rfl, (show Try.prog.cellsOf 22 = 1 by kernel_rfl), ⟨84, Try.underlying22, (show Try.prog.cellsOf 84 = 2 by kernel_rfl), by decide, Or.inr ⟨_, Try.underlying84, rfl, (fun i f h => by
    match i, h with
    | 0, h => obtain rfl := Option.some.inj h; exact ⟨rfl, (show Try.prog.cellsOf 3 = 1 by kernel_rfl), Try.underlying3⟩
    | 1, h => obtain rfl := Option.some.inj h; exact ⟨rfl, (show Try.prog.cellsOf 48 = 1 by kernel_rfl), ⟨3, Try.underlying48, (show Try.prog.cellsOf 3 = 1 by kernel_rfl), by decide, Or.inl ⟨rfl, Try.underlying3⟩⟩⟩
    | i + 2, h => simp at h)⟩⟩⟩
    | 1, h => obtain rfl := Option.some.inj h; exact ⟨rfl, (show Try.prog.cellsOf 3 = 1 by kernel_rfl), Try.underlying3⟩
    | i + 2, h => simp at h) (hval 0 24 v0 rfl rfl) h0
  obtain ⟨c0_0, c0_1, rfl⟩ := arr_of2 hsz0
  obtain ⟨d0_0, u0_0, e0_0, hh0_0, ff0_0, ll0_0⟩ := hrow0 0 (by decide)
  obtain rfl : c0_0 = u0_0 := Option.some.inj e0_0
  obtain ⟨l0_0, cs0_0, rfl, _⟩ := Fits.list ff0_0
  obtain ⟨a0_0, cap0_0, rfl, _⟩ := hh0_0.slice
  have w0_0 := hh0_0
  have f0_0 := ff0_0
  have n0_0 := ll0_0
  obtain ⟨d0_1, u0_1, e0_1, hh0_1, ff0_1, ll0_1⟩ := hrow0 1 (by decide)
  obtain rfl : c0_1 = u0_1 := Option.some.inj e0_1
  obtain ⟨x0_1, rfl⟩ := Fits.int ff0_1
  obtain rfl := (show c0_1 = .int .i64 x0_1 from hh0_1)
  have k1 := h1
  have lt1 : ∀ x ∈ p1, x.block < W.heap.size := by obtain ⟨m, hm⟩ := k1; exact DataW.trod_lt m _ _ _ hm
  obtain ⟨a1, rfl, rfl, rfl, w1⟩ := open_int Try.underlying3 (hval 1 3 v1 rfl rfl) h1
  obtain ⟨a2, l2, cap2, rfl⟩ := okWide_slice Try.underlying48 (hval 2 48 v2 rfl rfl)
  have k2 := h2
  have lt2 : ∀ x ∈ p2, x.block < W.heap.size := by obtain ⟨m, hm⟩ := k2; exact DataW.trod_lt m _ _ _ hm
  obtain ⟨cs2, w2, f2, n2⟩ := open_list (show Matches Try.prog shI 48 from ⟨3, Try.underlying48, (show Try.prog.cellsOf 3 = 1 by kernel_rfl), by decide, Or.inl ⟨rfl, Try.underlying3⟩⟩) h2
  clear hA0 hval0
  refine (walk a0_0 l0_0 cap0_0 cs0_0 x0_1 a1 w1 a2 l2 cap2 cs2 W w0_0 f0_0 n0_0 w2 f2 n2).mono fun e W' ⟨he, bel⟩ => ?_
  subst he
  exact ⟨_, rfl, _, _, _, [], _, [], hW', trodAll_mk1 (shut_bool Try.underlying4 _), (trodAll_cons_mk (Below.trod laidOut (by kernel_rfl) (of_decide_eq_true (by kernel_rfl)) k0 bel lt0) (trodAll_cons_mk (Below.trod laidOut (by kernel_rfl) (of_decide_eq_true (by kernel_rfl)) k1 bel lt1) (trodAll_cons_mk (Below.trod laidOut (by kernel_rfl) (of_decide_eq_true (by kernel_rfl)) k2 bel lt2) trodAll_mk0))), rfl, bel.frame _, fun h => by cases h⟩

theorem over : Rows.fnExactPlayCallsRow.holds Try.pinned (OpenSpec.ofChange Rows.fnExactPlayCallsSpec) :=
  OpenClaim.holds_of_wide 7 Try.f7 rfl rfl rfl rfl rfl rfl rfl ⟨rfl, rfl, rfl, rfl, rfl⟩ rfl rfl rfl rfl rfl (by kernel_rfl) Try.func7 (by kernel_rfl)
    (of_decide_eq_true (by kernel_rfl)) (by unfold Func.isWrapper; first | (rw [if_pos (by decide +kernel)]; kernel_rfl) | (rw [if_neg (by decide +kernel)]; exact ⟨rfl, rfl⟩))
    (fun os started H enc _ => lifted os started H enc)

theorem proved : Rows.FnExactPlayCallsSaid :=
  over
#print axioms proved
end Go.Proofs.Yticgipmaflhplaa.fnExactPlayCalls
