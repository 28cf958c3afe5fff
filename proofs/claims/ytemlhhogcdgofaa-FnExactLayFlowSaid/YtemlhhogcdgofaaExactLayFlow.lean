/-
  At every argument LayFlow answers as the specification, field by field; it writes into no argument and keeps nothing of one; its answer owns its memory, behind another call too.
-/
import Derived.Test.YtemlhhogcdgofaaRows
import Derived.WalkKit
import Derived.ProofKit
import Derived.OpenShut
import Derived.ShutString
import Derived.ChangeOld
import Derived.Below
import Derived.Carry
import Derived.SizedLaws
import Derived.Test.YtemlhhogcdgofaaMagMath
import Derived.Test.YtemlhhogcdgofaaCodeMath
import Derived.Test.YtemlhhogcdgofaaFlowMath
import Derived.Test.YtemlhhogcdgofaaEdgeMath
import Derived.Test.YtemlhhogcdgofaaGoneMath
import Derived.Test.YtemlhhogcdgofaaInts
import Derived.Test.YtemlhhogcdgofaaDeep
import Derived.Test.YtemlhhogcdgofaaDeepOpen
import Derived.Test.YtemlhhogcdgofaaDeepRow
import Derived.Test.YtemlhhogcdgofaaDeepB
import Derived.Test.YtemlhhogcdgofaaFlowDeep
import Derived.Test.YtemlhhogcdgofaaOwnFlat
import Derived.Test.YtemlhhogcdgofaaOwnBlocks
import Derived.Test.YtemlhhogcdgofaaLayMath
import Derived.Test.YtemlhhogcdgofaaLayImpl
import Derived.Test.YtemlhhogcdgofaaLaySpec
namespace Go.Proofs.Ytemlhhogcdgofaa.fnExactLayFlow
open Go.ChangeShapes Go.WideShapes Go.ChangeAt Go.RowKit
open Go.ChangeMaps (open_string shut_string)
open Go.Proofs.Ytemlhhogcdgofaa.math
open Go.Proofs.Ytemlhhogcdgofaa.ints
open Go.Proofs.Ytemlhhogcdgofaa.deep
open Go.Proofs.Ytemlhhogcdgofaa.walks
open Go.Proofs.Ytemlhhogcdgofaa.deep
set_option linter.unusedVariables false

theorem own : ownKnob Try.prog.godebug = none := by kernel_rfl
theorem laidOut : laidOutB Try.prog = true := by kernel_rfl

def SpecTells (l0 : Nat) (cs0 : Nat → Dv) (l1 : Nat) (cs1 : Nat → Dv) (lr0 : Nat) (csr0 : Nat → Dv) (xr1 : Bool) : Prop := ∀ (W : World) (a0 : Option Addr) (cap0 : Nat) (a1 : Option Addr) (cap1 : Nat), Holds W true (.l l0 4 cs0) (.slice a0 l0 cap0) → Holds W true (.l l1 1 cs1) (.slice a1 l1 cap1) → Calls Try.prog 6 #[.slice a0 l0 cap0, .slice a1 l1 cap1] W fun e W' => ∃ g0 d0, e = .returned (.tuple #[.slice g0 lr0 d0, .bool xr1]) ∧ Holds W' false (.l lr0 4 csr0) (.slice g0 lr0 d0) ∧ Below W.heap.size W W'
def ImplTells (l0 : Nat) (cs0 : Nat → Dv) (l1 : Nat) (cs1 : Nat → Dv) (lr0 : Nat) (csr0 : Nat → Dv) (xr1 : Bool) : Prop := ∀ (W : World) (a0 : Option Addr) (cap0 : Nat) (a1 : Option Addr) (cap1 : Nat), Holds W true (.l l0 4 cs0) (.slice a0 l0 cap0) → Holds W true (.l l1 1 cs1) (.slice a1 l1 cap1) → Calls Try.prog 9 #[.slice a0 l0 cap0, .slice a1 l1 cap1] W fun e W' => ∃ (g0 : Option Addr) (d0 : Nat) (F0 : Nat → Prop), e = .returned (.tuple #[.slice g0 lr0 d0, .bool xr1]) ∧ Owns W' false W.heap.size (.l lr0 4 csr0) (.slice g0 lr0 d0) F0 ∧ (∀ x, F0 x → W.heap.size ≤ x ∧ x < W'.heap.size) ∧ Below W.heap.size W W'
set_option maxHeartbeats 16000000 in
set_option maxRecDepth 100000 in
theorem walk_of (a0 : Option Addr) (cap0 : Nat) (a1 : Option Addr) (cap1 : Nat) (l0 : Nat) (cs0 : Nat → Dv) (l1 : Nat) (cs1 : Nat → Dv) (lr0 : Nat) (csr0 : Nat → Dv) (xr1 : Bool) (w : World) (hf0 : Hid (Fits shBlockS (.l l0 4 cs0))) (hn0 : Hid (Lens (.l l0 4 cs0))) (h0 : Hid (Holds w false (.l l0 4 cs0) (.slice a0 l0 cap0))) (hf1 : Hid (Fits shI (.l l1 1 cs1))) (hn1 : Hid (Lens (.l l1 1 cs1))) (h1 : Hid (Holds w false (.l l1 1 cs1) (.slice a1 l1 cap1))) (hfr0 : Hid (Fits shBlockS (.l lr0 4 csr0))) (hsx0 : Hid (szD (.l lr0 4 csr0) ≤ 100000)) (Hs : Hid (szD (.l l0 4 cs0) ≤ 1048576 → szD (.l l1 1 cs1) ≤ 1048576 → SpecTells l0 cs0 l1 cs1 lr0 csr0 xr1)) (Hi : Hid (szD (.l l0 4 cs0) ≤ 1048576 → szD (.l l1 1 cs1) ≤ 1048576 → ImplTells l0 cs0 l1 cs1 lr0 csr0 xr1)) :
    Calls Try.prog 3 #[.slice a0 l0 cap0, .slice a1 l1 cap1] w fun e w' => e = .returned (.bool true) ∧ Below w.heap.size w w' := by
  have hsr0 : Hid (szD (.l lr0 4 csr0) ≤ 1048576) := Nat.le_trans hsx0.out (by decide)
  have pe1 : (xr1 != xr1) = false := by cases xr1 <;> rfl
  have hm1 : l1 ≤ 9223372036854775807 := by have q := hn1.out.1; unfold maxLen at q; exact q
  by_cases hb1 : (l1 : Int) ≤ 1048576
  rotate_left
  · have hbig : (1048576 : Int) < (l1 : Int) := by omega
    clear hb1
    go_enter Try.func3, Try.ntmps3
    go_wp2
    go_ret
    first | exact ⟨rfl, Below.refl _ _⟩ | exact ⟨rfl, by go_grown⟩
  have hs1 : Hid (szD (.l l1 1 cs1) ≤ 1048576) := by show l1 + sumTo _ _ ≤ _; rw [sz_flat _ (fits_I hf1.out)]; omega
  go_enter Try.func3, Try.ntmps3
  obtain ⟨z0, HZ0⟩ : ∃ z, Hid (szD (.l l0 4 cs0) = z) := ⟨_, rfl⟩
  go_wp2_with fail
  refine (BlockS_size _ _ _ cs0 (1048576) false _ hf0 hn0 h0 (by omega) (by omega)).mono ?_
  rw [HZ0.out]
  rintro e w1 ⟨rfl, hB⟩
  have BW1 : Hid (Below w.heap.size w w1) := hB
  have SZ1 : Hid (w.heap.size ≤ w1.heap.size) := hB.size
  clear hB
  by_cases ok0 : (z0 : Int) ≤ 1048576
  rotate_left
  · rw [if_neg ok0]
    go_wp2
    go_ret
    exact ⟨rfl, BW1.out⟩
  rw [if_pos ok0]
  have left0 : 0 ≤ 1048576 - ((z0 : Int)) := by omega
  have hs0 : Hid (szD (.l l0 4 cs0) ≤ 1048576) := by show _ ≤ _; rw [HZ0.out]; omega
  have HS : Hid (SpecTells l0 cs0 l1 cs1 lr0 csr0 xr1) := Hs.out hs0.out hs1.out
  have HI : Hid (ImplTells l0 cs0 l1 cs1 lr0 csr0 xr1) := Hi.out hs0.out hs1.out
  clear Hs Hi
  go_wp2_with fail
  refine (BlockS_to _ _ _ cs0 false _ hf0 hs0 (h0.out.kept BW1.out)).mono ?_
  rintro e w2 ⟨rfl, hO, hB⟩
  have A0_2 : Hid (Owns w2 true w1.heap.size (.l l0 4 cs0) (.slice (some ⟨w1.heap.size, 0, none⟩) l0 l0) (rng w1.heap.size w2.heap.size)) := hO
  have BW2 : Hid (Below w.heap.size w w2) := BW1.out.trans (hB.mono BW1.out.size)
  have SZ2 : Hid (w1.heap.size ≤ w2.heap.size) := hB.size
  clear hO hB
  go_wp2_with fail
  refine (IntS_to _ _ _ cs1 false _ hf1 (Nat.le_trans (Nat.le_add_right _ _) hs1.out) (h1.out.kept BW2.out)).mono ?_
  rintro e w3 ⟨rfl, hO, hB⟩
  have A1_3 : Hid (Owns w3 true w2.heap.size (.l l1 1 cs1) (.slice (some ⟨w2.heap.size, 0, none⟩) l1 l1) (rng w2.heap.size w3.heap.size)) := hO
  have BW3 : Hid (Below w.heap.size w w3) := BW2.out.trans (hB.mono BW2.out.size)
  have SZ3 : Hid (w2.heap.size ≤ w3.heap.size) := hB.size
  have A0_3 : Hid (Owns w3 true w1.heap.size (.l l0 4 cs0) (.slice (some ⟨w1.heap.size, 0, none⟩) l0 l0) (rng w1.heap.size w2.heap.size)) := A0_2.out.kept hB
  clear hO hB
  go_wp2_with fail
  refine (HS.out _ _ _ _ _ A0_3.out.holds A1_3.out.holds).mono ?_
  rintro e w4 ⟨sa0, sc0, rfl, hS0, hB⟩
  have S0 : Hid (Holds w4 false (.l lr0 4 csr0) (.slice sa0 lr0 sc0)) := hS0
  have BW4 : Hid (Below w.heap.size w w4) := BW3.out.trans (hB.mono BW3.out.size)
  have SZ4 : Hid (w3.heap.size ≤ w4.heap.size) := hB.size
  clear hB hS0
  go_wp2_with fail
  refine (BlockS_to _ _ _ cs0 false _ hf0 hs0 (h0.out.kept BW4.out)).mono ?_
  rintro e w5 ⟨rfl, hO, hB⟩
  have X0_5 : Hid (Owns w5 true w4.heap.size (.l l0 4 cs0) (.slice (some ⟨w4.heap.size, 0, none⟩) l0 l0) (rng w4.heap.size w5.heap.size)) := hO
  have BW5 : Hid (Below w.heap.size w w5) := BW4.out.trans (hB.mono BW4.out.size)
  have SZ5 : Hid (w4.heap.size ≤ w5.heap.size) := hB.size
  have BS5 : Hid (Below w4.heap.size w4 w5) := hB
  clear hO hB
  go_wp2_with fail
  refine (IntS_to _ _ _ cs1 false _ hf1 (Nat.le_trans (Nat.le_add_right _ _) hs1.out) (h1.out.kept BW5.out)).mono ?_
  rintro e w6 ⟨rfl, hO, hB⟩
  have X1_6 : Hid (Owns w6 true w5.heap.size (.l l1 1 cs1) (.slice (some ⟨w5.heap.size, 0, none⟩) l1 l1) (rng w5.heap.size w6.heap.size)) := hO
  have BW6 : Hid (Below w.heap.size w w6) := BW5.out.trans (hB.mono BW5.out.size)
  have SZ6 : Hid (w5.heap.size ≤ w6.heap.size) := hB.size
  have BS6 : Hid (Below w4.heap.size w4 w6) := BS5.out.trans (hB.mono BS5.out.size)
  have X0_6 : Hid (Owns w6 true w4.heap.size (.l l0 4 cs0) (.slice (some ⟨w4.heap.size, 0, none⟩) l0 l0) (rng w4.heap.size w5.heap.size)) := X0_5.out.kept hB
  clear hO hB
  go_wp2_with fail
  refine (HI.out _ _ _ _ _ X0_6.out.holds X1_6.out.holds).mono ?_
  rintro e w7 ⟨ga0, gc0, gP0, rfl, hO0, hF0, hB⟩
  have G0_7 : Hid (Owns w7 false w6.heap.size (.l lr0 4 csr0) (.slice ga0 lr0 gc0) gP0) := hO0
  have GF0 : Hid (∀ x, gP0 x → w6.heap.size ≤ x ∧ x < w7.heap.size) := hF0
  have BW7 : Hid (Below w.heap.size w w7) := BW6.out.trans (hB.mono BW6.out.size)
  have SZ7 : Hid (w6.heap.size ≤ w7.heap.size) := hB.size
  have BS7 : Hid (Below w4.heap.size w4 w7) := BS6.out.trans (hB.mono BS6.out.size)
  have X0_7 : Hid (Owns w7 true w4.heap.size (.l l0 4 cs0) (.slice (some ⟨w4.heap.size, 0, none⟩) l0 l0) (rng w4.heap.size w5.heap.size)) := X0_6.out.kept hB
  have X1_7 : Hid (Owns w7 true w5.heap.size (.l l1 1 cs1) (.slice (some ⟨w5.heap.size, 0, none⟩) l1 l1) (rng w5.heap.size w6.heap.size)) := X1_6.out.kept hB
  clear hB hO0 hF0
  go_wp2_with fail
  refine (BlockS_eq _ _ _ _ _ csr0 _ _ _ hfr0 hsr0 G0_7.out.holds (S0.out.kept BS7.out)).mono ?_
  rintro e w8 ⟨rfl, hB⟩
  have BW8 : Hid (Below w.heap.size w w8) := BW7.out.trans (hB.mono BW7.out.size)
  have SZ8 : Hid (w7.heap.size ≤ w8.heap.size) := hB.size
  have BS8 : Hid (Below w4.heap.size w4 w8) := BS7.out.trans (hB.mono BS7.out.size)
  have X0_8 : Hid (Owns w8 true w4.heap.size (.l l0 4 cs0) (.slice (some ⟨w4.heap.size, 0, none⟩) l0 l0) (rng w4.heap.size w5.heap.size)) := X0_7.out.kept hB
  have X1_8 : Hid (Owns w8 true w5.heap.size (.l l1 1 cs1) (.slice (some ⟨w5.heap.size, 0, none⟩) l1 l1) (rng w5.heap.size w6.heap.size)) := X1_7.out.kept hB
  have G0_8 : Hid (Owns w8 false w6.heap.size (.l lr0 4 csr0) (.slice ga0 lr0 gc0) gP0) := G0_7.out.kept hB
  clear hB
  go_wp2_with fail
  refine (BlockS_to _ _ _ cs0 false _ hf0 hs0 (h0.out.kept BW8.out)).mono ?_
  rintro e w9 ⟨rfl, hO, hB⟩
  have Z0_9 : Hid (Owns w9 true w8.heap.size (.l l0 4 cs0) (.slice (some ⟨w8.heap.size, 0, none⟩) l0 l0) (rng w8.heap.size w9.heap.size)) := hO
  have BW9 : Hid (Below w.heap.size w w9) := BW8.out.trans (hB.mono BW8.out.size)
  have SZ9 : Hid (w8.heap.size ≤ w9.heap.size) := hB.size
  have BS9 : Hid (Below w4.heap.size w4 w9) := BS8.out.trans (hB.mono BS8.out.size)
  have X0_9 : Hid (Owns w9 true w4.heap.size (.l l0 4 cs0) (.slice (some ⟨w4.heap.size, 0, none⟩) l0 l0) (rng w4.heap.size w5.heap.size)) := X0_8.out.kept hB
  have X1_9 : Hid (Owns w9 true w5.heap.size (.l l1 1 cs1) (.slice (some ⟨w5.heap.size, 0, none⟩) l1 l1) (rng w5.heap.size w6.heap.size)) := X1_8.out.kept hB
  have G0_9 : Hid (Owns w9 false w6.heap.size (.l lr0 4 csr0) (.slice ga0 lr0 gc0) gP0) := G0_8.out.kept hB
  clear hO hB
  go_wp2_with fail
  refine (BlockS_eq _ _ _ _ _ cs0 _ _ _ hf0 hs0 X0_9.out.holds Z0_9.out.holds).mono ?_
  rintro e w10 ⟨rfl, hB⟩
  have BW10 : Hid (Below w.heap.size w w10) := BW9.out.trans (hB.mono BW9.out.size)
  have SZ10 : Hid (w9.heap.size ≤ w10.heap.size) := hB.size
  have BS10 : Hid (Below w4.heap.size w4 w10) := BS9.out.trans (hB.mono BS9.out.size)
  have X0_10 : Hid (Owns w10 true w4.heap.size (.l l0 4 cs0) (.slice (some ⟨w4.heap.size, 0, none⟩) l0 l0) (rng w4.heap.size w5.heap.size)) := X0_9.out.kept hB
  have X1_10 : Hid (Owns w10 true w5.heap.size (.l l1 1 cs1) (.slice (some ⟨w5.heap.size, 0, none⟩) l1 l1) (rng w5.heap.size w6.heap.size)) := X1_9.out.kept hB
  have G0_10 : Hid (Owns w10 false w6.heap.size (.l lr0 4 csr0) (.slice ga0 lr0 gc0) gP0) := G0_9.out.kept hB
  have Z0_10 : Hid (Owns w10 true w8.heap.size (.l l0 4 cs0) (.slice (some ⟨w8.heap.size, 0, none⟩) l0 l0) (rng w8.heap.size w9.heap.size)) := Z0_9.out.kept hB
  clear hB
  go_wp2_with fail
  refine (IntS_to _ _ _ cs1 false _ hf1 (Nat.le_trans (Nat.le_add_right _ _) hs1.out) (h1.out.kept BW10.out)).mono ?_
  rintro e w11 ⟨rfl, hO, hB⟩
  have Z1_11 : Hid (Owns w11 true w10.heap.size (.l l1 1 cs1) (.slice (some ⟨w10.heap.size, 0, none⟩) l1 l1) (rng w10.heap.size w11.heap.size)) := hO
  have BW11 : Hid (Below w.heap.size w w11) := BW10.out.trans (hB.mono BW10.out.size)
  have SZ11 : Hid (w10.heap.size ≤ w11.heap.size) := hB.size
  have BS11 : Hid (Below w4.heap.size w4 w11) := BS10.out.trans (hB.mono BS10.out.size)
  have X0_11 : Hid (Owns w11 true w4.heap.size (.l l0 4 cs0) (.slice (some ⟨w4.heap.size, 0, none⟩) l0 l0) (rng w4.heap.size w5.heap.size)) := X0_10.out.kept hB
  have X1_11 : Hid (Owns w11 true w5.heap.size (.l l1 1 cs1) (.slice (some ⟨w5.heap.size, 0, none⟩) l1 l1) (rng w5.heap.size w6.heap.size)) := X1_10.out.kept hB
  have G0_11 : Hid (Owns w11 false w6.heap.size (.l lr0 4 csr0) (.slice ga0 lr0 gc0) gP0) := G0_10.out.kept hB
  clear hO hB
  go_wp2_with fail
  refine (IntS_eq _ _ _ _ _ cs1 _ _ _ hf1 (Nat.le_trans (Nat.le_add_right _ _) hs1.out) X1_11.out.holds Z1_11.out.holds).mono ?_
  rintro e w12 ⟨rfl, hB⟩
  have BW12 : Hid (Below w.heap.size w w12) := BW11.out.trans (hB.mono BW11.out.size)
  have SZ12 : Hid (w11.heap.size ≤ w12.heap.size) := hB.size
  have BS12 : Hid (Below w4.heap.size w4 w12) := BS11.out.trans (hB.mono BS11.out.size)
  have X0_12 : Hid (Owns w12 true w4.heap.size (.l l0 4 cs0) (.slice (some ⟨w4.heap.size, 0, none⟩) l0 l0) (rng w4.heap.size w5.heap.size)) := X0_11.out.kept hB
  have X1_12 : Hid (Owns w12 true w5.heap.size (.l l1 1 cs1) (.slice (some ⟨w5.heap.size, 0, none⟩) l1 l1) (rng w5.heap.size w6.heap.size)) := X1_11.out.kept hB
  have G0_12 : Hid (Owns w12 false w6.heap.size (.l lr0 4 csr0) (.slice ga0 lr0 gc0) gP0) := G0_11.out.kept hB
  have Z1_12 : Hid (Owns w12 true w10.heap.size (.l l1 1 cs1) (.slice (some ⟨w10.heap.size, 0, none⟩) l1 l1) (rng w10.heap.size w11.heap.size)) := Z1_11.out.kept hB
  clear hB
  have hcn0 := cnt_le thin_BlockS hf0.out
  obtain ⟨N0, HN0⟩ : ∃ N, Hid (cntD (.l l0 4 cs0) = N) := ⟨_, rfl⟩
  have hN0 : N0 ≤ 8388609 := by have q := hs0.out; rw [HN0.out] at hcn0; omega
  clear hcn0
  have hcn1 := cnt_le (s := shI) ⟨by decide, fun _ => trivial⟩ hf1.out
  obtain ⟨N1, HN1⟩ : ∃ N, Hid (cntD (.l l1 1 cs1) = N) := ⟨_, rfl⟩
  have hN1 : N1 ≤ 8388609 := by have q := hs1.out; rw [HN1.out] at hcn1; omega
  clear hcn1
  go_wp2_with fail
  refine (BlockS_mark (1) (by omega) (by omega) _ _ _ cs0 true _ _ _ hf0 hs0 X0_12).mono ?_
  rw [HN0.out]
  rintro e w13 ⟨rfl, _, hF⟩
  have hB : Below w4.heap.size w12 w13 := hF.below (by have q5 := SZ5.out; have q6 := SZ6.out; have q7 := SZ7.out; have q8 := SZ8.out; have q9 := SZ9.out; have q10 := SZ10.out; have q11 := SZ11.out; have q12 := SZ12.out; omega) (fun x hx => hx.1)
  have BW13 : Hid (Below w.heap.size w w13) := BW12.out.trans (hB.mono BW4.out.size)
  have SZ13 : Hid (w12.heap.size ≤ w13.heap.size) := hB.size
  have BS13 : Hid (Below w4.heap.size w4 w13) := BS12.out.trans (hB.mono (Nat.le_refl _))
  have X1_13 : Hid (Owns w13 true w5.heap.size (.l l1 1 cs1) (.slice (some ⟨w5.heap.size, 0, none⟩) l1 l1) (rng w5.heap.size w6.heap.size)) := hF.owns (fun x hx hy => by have r1 := hx.1; have r2 := hy.2;   omega) X1_12.out
  have G0_13 : Hid (Owns w13 false w6.heap.size (.l lr0 4 csr0) (.slice ga0 lr0 gc0) gP0) := hF.owns (fun x hx hy => by have r1 := (GF0.out x hx).1; have r2 := hy.2; have q6 := SZ6.out; omega) G0_12.out
  clear hF hB
  go_wp2_with fail
  refine (IntS_mark (1 + (N0 : Int)) (by omega) (by omega) _ _ _ cs1 true _ _ _ hf1 (Nat.le_trans (Nat.le_add_right _ _) hs1.out) X1_13).mono ?_
  rw [HN1.out]
  rintro e w14 ⟨rfl, _, hF⟩
  have hB : Below w5.heap.size w13 w14 := hF.below (by have q6 := SZ6.out; have q7 := SZ7.out; have q8 := SZ8.out; have q9 := SZ9.out; have q10 := SZ10.out; have q11 := SZ11.out; have q12 := SZ12.out; have q13 := SZ13.out; omega) (fun x hx => hx.1)
  have BW14 : Hid (Below w.heap.size w w14) := BW13.out.trans (hB.mono BW5.out.size)
  have SZ14 : Hid (w13.heap.size ≤ w14.heap.size) := hB.size
  have BS14 : Hid (Below w4.heap.size w4 w14) := BS13.out.trans (hB.mono BS5.out.size)
  have G0_14 : Hid (Owns w14 false w6.heap.size (.l lr0 4 csr0) (.slice ga0 lr0 gc0) gP0) := hF.owns (fun x hx hy => by have r1 := (GF0.out x hx).1; have r2 := hy.2;  omega) G0_13.out
  clear hF hB
  have hk : (0 : Int) ≤ 1 + (N0 : Int) + (N1 : Int) := by omega
  go_wp2_with fail
  refine (BlockS_eq _ _ _ _ _ csr0 _ _ _ hfr0 hsr0 G0_14.out.holds (S0.out.kept BS14.out)).mono ?_
  rintro e w15 ⟨rfl, hB⟩
  have BW15 : Hid (Below w.heap.size w w15) := BW14.out.trans (hB.mono BW14.out.size)
  have SZ15 : Hid (w14.heap.size ≤ w15.heap.size) := hB.size
  have BS15 : Hid (Below w4.heap.size w4 w15) := BS14.out.trans (hB.mono BS14.out.size)
  have G0_15 : Hid (Owns w15 false w6.heap.size (.l lr0 4 csr0) (.slice ga0 lr0 gc0) gP0) := G0_14.out.kept hB
  clear hB
  have hcnr0 := cnt_le thin_BlockS hfr0.out
  obtain ⟨M0, HM0⟩ : ∃ N, Hid (cntD (.l lr0 4 csr0) = N) := ⟨_, rfl⟩
  have hM0 : M0 ≤ 800001 := by have q := hsx0.out; rw [HM0.out] at hcnr0; omega
  clear hcnr0
  go_wp2_with fail
  refine (BlockS_mark (1) (by omega) (by omega) _ _ _ csr0 false _ _ _ hfr0 hsr0 G0_15).mono ?_
  rw [HM0.out]
  rintro e w16 ⟨rfl, hO0, hF⟩
  have hB : Below w6.heap.size w15 w16 := hF.below (by have q7 := SZ7.out; have q8 := SZ8.out; have q9 := SZ9.out; have q10 := SZ10.out; have q11 := SZ11.out; have q12 := SZ12.out; have q13 := SZ13.out; have q14 := SZ14.out; have q15 := SZ15.out; omega) (fun x hx => (GF0.out x hx).1)
  have BW16 : Hid (Below w.heap.size w w16) := BW15.out.trans (hB.mono BW6.out.size)
  have SZ16 : Hid (w15.heap.size ≤ w16.heap.size) := hB.size
  have BS16 : Hid (Below w4.heap.size w4 w16) := BS15.out.trans (hB.mono BS6.out.size)
  have G0_16 : Hid (Owns w16 false w6.heap.size (mkD (1) (.l lr0 4 csr0)) (.slice ga0 lr0 gc0) gP0) := hO0
  clear hF hB hO0
  have hm : (0 : Int) ≤ 1 + (M0 : Int) := by omega
  go_wp2_with fail
  refine (BlockS_held (1) (by omega) _ _ _ csr0 false _ hfr0 hsr0 (by rw [HM0.out]; omega) G0_16.out.holds).mono ?_
  rintro e w' ⟨rfl, hw⟩
  rw [hw, HM0.out]
  clear hw w'
  have hq16_0 : (0 : Int) ≤ 1 + (M0 : Int) := by omega
  go_wp2_with fail
  refine (BlockS_to _ _ _ cs0 false _ hf0 hs0 (h0.out.kept BW16.out)).mono ?_
  rintro e w17 ⟨rfl, hO, hB⟩
  have C0_17 : Hid (Owns w17 true w16.heap.size (.l l0 4 cs0) (.slice (some ⟨w16.heap.size, 0, none⟩) l0 l0) (rng w16.heap.size w17.heap.size)) := hO
  have BW17 : Hid (Below w.heap.size w w17) := BW16.out.trans (hB.mono BW16.out.size)
  have SZ17 : Hid (w16.heap.size ≤ w17.heap.size) := hB.size
  have BS17 : Hid (Below w4.heap.size w4 w17) := BS16.out.trans (hB.mono BS16.out.size)
  have G0_17 : Hid (Owns w17 false w6.heap.size (mkD (1) (.l lr0 4 csr0)) (.slice ga0 lr0 gc0) gP0) := G0_16.out.kept hB
  clear hO hB
  go_wp2_with fail
  refine (IntS_to _ _ _ cs1 false _ hf1 (Nat.le_trans (Nat.le_add_right _ _) hs1.out) (h1.out.kept BW17.out)).mono ?_
  rintro e w18 ⟨rfl, hO, hB⟩
  have C1_18 : Hid (Owns w18 true w17.heap.size (.l l1 1 cs1) (.slice (some ⟨w17.heap.size, 0, none⟩) l1 l1) (rng w17.heap.size w18.heap.size)) := hO
  have BW18 : Hid (Below w.heap.size w w18) := BW17.out.trans (hB.mono BW17.out.size)
  have SZ18 : Hid (w17.heap.size ≤ w18.heap.size) := hB.size
  have BS18 : Hid (Below w4.heap.size w4 w18) := BS17.out.trans (hB.mono BS17.out.size)
  have G0_18 : Hid (Owns w18 false w6.heap.size (mkD (1) (.l lr0 4 csr0)) (.slice ga0 lr0 gc0) gP0) := G0_17.out.kept hB
  have C0_18 : Hid (Owns w18 true w16.heap.size (.l l0 4 cs0) (.slice (some ⟨w16.heap.size, 0, none⟩) l0 l0) (rng w16.heap.size w17.heap.size)) := C0_17.out.kept hB
  clear hO hB
  go_wp2_with fail
  refine (HI.out _ _ _ _ _ C0_18.out.holds C1_18.out.holds).mono ?_
  rintro e w19 ⟨ha0, hc0, hP0, rfl, hO0, hF0, hB⟩
  have H0_19 : Hid (Owns w19 false w18.heap.size (.l lr0 4 csr0) (.slice ha0 lr0 hc0) hP0) := hO0
  have HF0 : Hid (∀ x, hP0 x → w18.heap.size ≤ x ∧ x < w19.heap.size) := hF0
  have BW19 : Hid (Below w.heap.size w w19) := BW18.out.trans (hB.mono BW18.out.size)
  have SZ19 : Hid (w18.heap.size ≤ w19.heap.size) := hB.size
  have BS19 : Hid (Below w4.heap.size w4 w19) := BS18.out.trans (hB.mono BS18.out.size)
  have G0_19 : Hid (Owns w19 false w6.heap.size (mkD (1) (.l lr0 4 csr0)) (.slice ga0 lr0 gc0) gP0) := G0_18.out.kept hB
  have C0_19 : Hid (Owns w19 true w16.heap.size (.l l0 4 cs0) (.slice (some ⟨w16.heap.size, 0, none⟩) l0 l0) (rng w16.heap.size w17.heap.size)) := C0_18.out.kept hB
  have C1_19 : Hid (Owns w19 true w17.heap.size (.l l1 1 cs1) (.slice (some ⟨w17.heap.size, 0, none⟩) l1 l1) (rng w17.heap.size w18.heap.size)) := C1_18.out.kept hB
  clear hB hO0 hF0
  go_wp2_with fail
  refine (BlockS_eq _ _ _ _ _ csr0 _ _ _ hfr0 hsr0 H0_19.out.holds (S0.out.kept BS19.out)).mono ?_
  rintro e w20 ⟨rfl, hB⟩
  have BW20 : Hid (Below w.heap.size w w20) := BW19.out.trans (hB.mono BW19.out.size)
  have SZ20 : Hid (w19.heap.size ≤ w20.heap.size) := hB.size
  have BS20 : Hid (Below w4.heap.size w4 w20) := BS19.out.trans (hB.mono BS19.out.size)
  have G0_20 : Hid (Owns w20 false w6.heap.size (mkD (1) (.l lr0 4 csr0)) (.slice ga0 lr0 gc0) gP0) := G0_19.out.kept hB
  have H0_20 : Hid (Owns w20 false w18.heap.size (.l lr0 4 csr0) (.slice ha0 lr0 hc0) hP0) := H0_19.out.kept hB
  clear hB
  go_wp2_with fail
  refine (BlockS_held (1) (by omega) _ _ _ csr0 false _ hfr0 hsr0 (by rw [HM0.out]; omega) G0_20.out.holds).mono ?_
  rintro e w' ⟨rfl, hw⟩
  rw [hw, HM0.out]
  clear hw w'
  have hq20_0 : (0 : Int) ≤ 1 + (M0 : Int) := by omega
  go_wp2
  go_ret
  exact ⟨rfl, BW20.out⟩
theorem walk (a0 : Option Addr) (l0 cap0 : Nat) (cs0 : Nat → Dv) (a1 : Option Addr) (l1 cap1 : Nat) (cs1 : Nat → Dv) (w : World) (h0 : Holds w false (.l l0 4 cs0) (.slice a0 l0 cap0)) (f0 : Fits shBlockS (.l l0 4 cs0)) (n0 : Lens (.l l0 4 cs0)) (h1 : Holds w false (.l l1 1 cs1) (.slice a1 l1 cap1)) (f1 : Fits shI (.l l1 1 cs1)) (n1 : Lens (.l l1 1 cs1)) :
    Calls Try.prog 3 #[.slice a0 l0 cap0, .slice a1 l1 cap1] w fun e w' => e = .returned (.bool true) ∧ Below w.heap.size w w' := by
  cases ho : okLay (bvD cs0) l0 (intsOf cs1 (l1 * 1))
  · refine walk_of a0 cap0 a1 cap1 l0 cs0 l1 cs1 0 (fun _ => .n 0) false w f0 n0 h0 f1 n1 h1 ⟨rfl, fun i hi => by omega⟩ (show 0 + sumTo _ (0 * 4) ≤ 100000 by simp [sumTo]) (fun hs hs1 => ?_) (fun hs hs1 => ?_)
    · intro W a cap b bcap hh hb
      obtain ⟨s0, s1⟩ := flow_sizes hs f0
      have HZ : Hid ((intsOf cs1 (l1 * 1)).length = l1) := by show _ = _; rw [intsOf_len]; omega
      have hl1 : l1 ≤ 1048576 := Nat.le_trans (Nat.le_add_right _ _) hs1
      have HI1 : Hid (Ints W b (intsOf cs1 (l1 * 1))) := holds_ints hb (fits_I f1)
      have cc : l1 ≤ bcap ∧ bcap ≤ 1048576 := by
        obtain ⟨a', c', e, hc⟩ := hb.slice
        cases e
        exact hc rfl
      refine (spec_layflow a b l0 cap l1 bcap (bvD cs0) (intsOf cs1 (l1 * 1)) W s0 s1 (hh.flow f0) HZ hl1 cc.1 cc.2 HI1).mono (fun e W' q => ?_)
      rcases q with ⟨(⟨h, _⟩ | ⟨_, q⟩), hB⟩
      · rw [ho] at h; cases h
      · exact ⟨none, 0, q, ⟨none, 0, rfl, (fun q => by cases q), Or.inl (by decide)⟩, hB⟩
    · intro W a cap b bcap hh hb
      obtain ⟨s0, s1⟩ := flow_sizes hs f0
      have HZ : Hid ((intsOf cs1 (l1 * 1)).length = l1) := by show _ = _; rw [intsOf_len]; omega
      have hl1 : l1 ≤ 1048576 := Nat.le_trans (Nat.le_add_right _ _) hs1
      have HI1 : Hid (Ints W b (intsOf cs1 (l1 * 1))) := holds_ints hb (fits_I f1)
      have cc : l1 ≤ bcap ∧ bcap ≤ 1048576 := by
        obtain ⟨a', c', e, hc⟩ := hb.slice
        cases e
        exact hc rfl
      refine (impl_layflow a b l0 cap l1 bcap (bvD cs0) (intsOf cs1 (l1 * 1)) W s0 s1 (hh.flow f0) HZ hl1 HI1).mono (fun e W' q => ?_)
      rcases q with ⟨(⟨h, _⟩ | ⟨_, q⟩), hB⟩
      · rw [ho] at h; cases h
      · exact ⟨none, 0, fun _ => False, q, ⟨none, 0, rfl, (fun q => by cases q), Or.inl (by decide)⟩, (fun x q => q.elim), hB⟩
  · obtain ⟨hfl, hly⟩ := okLay_out ho
    have h30 : ∀ k, k < l0 → (layF (bvD cs0) (intsOf cs1 (l1 * 1)) l0 k).len ≤ 1000 := fun k hk => by
      have hin := (lay_in hly).2.2 k hk
      have hb := (flow_out hfl).2 ((intsOf cs1 (l1 * 1)).getD k 0).toNat (by omega)
      simp only [blockB, Bool.and_eq_true] at hb
      have h1 := (code_out hb.1.1.1).1
      exact Nat.le_trans h1 (by decide)
    refine walk_of a0 cap0 a1 cap1 l0 cs0 l1 cs1 l0 (dB (layF (bvD cs0) (intsOf cs1 (l1 * 1)) l0)) true w f0 n0 h0 f1 n1 h1 (dB_fits _ _) (dB_size _ _ (flow_out hfl).1.2 h30) (fun hs hs1 => ?_) (fun hs hs1 => ?_)
    · intro W a cap b bcap hh hb
      obtain ⟨s0, s1⟩ := flow_sizes hs f0
      have HZ : Hid ((intsOf cs1 (l1 * 1)).length = l1) := by show _ = _; rw [intsOf_len]; omega
      have hl1 : l1 ≤ 1048576 := Nat.le_trans (Nat.le_add_right _ _) hs1
      have HI1 : Hid (Ints W b (intsOf cs1 (l1 * 1))) := holds_ints hb (fits_I f1)
      have cc : l1 ≤ bcap ∧ bcap ≤ 1048576 := by
        obtain ⟨a', c', e, hc⟩ := hb.slice
        cases e
        exact hc rfl
      refine (spec_layflow a b l0 cap l1 bcap (bvD cs0) (intsOf cs1 (l1 * 1)) W s0 s1 (hh.flow f0) HZ hl1 cc.1 cc.2 HI1).mono (fun e W' q => ?_)
      rcases q with ⟨(⟨_, v, q, hO⟩ | ⟨h, _⟩), hB⟩
      · obtain ⟨g, d, G, rfl, hw, hl⟩ := hO.owns
        exact ⟨g, d, q, hw.holds, hB⟩
      · rw [ho] at h; cases h
    · intro W a cap b bcap hh hb
      obtain ⟨s0, s1⟩ := flow_sizes hs f0
      have HZ : Hid ((intsOf cs1 (l1 * 1)).length = l1) := by show _ = _; rw [intsOf_len]; omega
      have hl1 : l1 ≤ 1048576 := Nat.le_trans (Nat.le_add_right _ _) hs1
      have HI1 : Hid (Ints W b (intsOf cs1 (l1 * 1))) := holds_ints hb (fits_I f1)
      have cc : l1 ≤ bcap ∧ bcap ≤ 1048576 := by
        obtain ⟨a', c', e, hc⟩ := hb.slice
        cases e
        exact hc rfl
      refine (impl_layflow a b l0 cap l1 bcap (bvD cs0) (intsOf cs1 (l1 * 1)) W s0 s1 (hh.flow f0) HZ hl1 HI1).mono (fun e W' q => ?_)
      rcases q with ⟨(⟨_, v, q, hO⟩ | ⟨h, _⟩), hB⟩
      · obtain ⟨g, d, G, rfl, hw, hl⟩ := hO.owns
        exact ⟨g, d, G, q, hw, hl, hB⟩
      · rw [ho] at h; cases h

set_option maxRecDepth 100000 in
set_option maxHeartbeats 4000000 in
theorem lifted (os : Os) (started : os.Started) (H : Type) (enc : TypeId × Value → H) :
    ReturnsInHanded {} Try.checked os 3 .any (Rows.fnExactLayFlowSpec.pre6 enc Try.prog Try.f3 Rows.fnExactLayFlowRow.domain false) (Rows.fnExactLayFlowSpec.post enc Try.prog Try.f3 false true false false) := by
  refine returnsInHanded_of_change_sized (C := Try.checked) own started (by kernel_rfl) Try.func3
    (ChangeSpec.witness6 (enc := enc) (C := Try.checked) false ⟨#[], #[.slice none 0 0, .slice none 0 0], []⟩ 8 (by kernel_rfl) (by kernel_rfl) (by kernel_rfl) (by kernel_rfl)) ?_
  intro W base args ds gs before hval0 hW hcnd hsz0 _
  have hval : ∀ (j : Nat) t v, Try.f3.params[j]? = some t → args[j]? = some v → Value.okWide Try.prog W .any base t v := hval0
  have hW' := hW
  obtain ⟨p, q, hA0, hV, rfl, hfz, hnd⟩ := hW
  have hsz : (DataW.weightsEach Try.prog (Try.f3.params.toList ++ Rows.fnExactLayFlowSpec.plain.varTypes Try.prog) (ds ++ gs)).all (· ≤ reachBytes) = true := hsz0
  have hA : DataW.TrodAll enc Try.prog W 0 (fun _ => true) true Try.f3.params.toList args.toList ds p := hA0
  rw [Try.params3] at hA hval hsz
  obtain ⟨v0, vs0, d0, ds0, p0, q0, hargs, rfl, rfl, h0, r0⟩ := trodAll_cons hA
  obtain ⟨v1, vs1, d1, ds1, p1, q1, rfl, rfl, rfl, h1, r1⟩ := trodAll_cons r0
  obtain ⟨rfl, rfl, rfl⟩ := trodAll_nil r1
  obtain rfl : args = #[v0, v1] := by cases args; simp_all
  obtain ⟨rfl, rfl⟩ := trodVars_none hV
  obtain ⟨a0, l0, cap0, rfl⟩ := okWide_slice Try.underlying22 (hval 0 22 v0 rfl rfl)
  have k0 := h0
  have lt0 : ∀ x ∈ p0, x.block < W.heap.size := by obtain ⟨m, hm⟩ := k0; exact DataW.trod_lt m _ _ _ hm
  obtain ⟨cs0, w0, f0, n0⟩ := open_list (show Matches Try.prog shBlockS 22 from ⟨41, Try.underlying22, (show Try.prog.cellsOf 41 = 4 by kernel_rfl), by decide, Or.inr ⟨_, Try.underlying41, rfl, (fun i f h => by
    match i, h with
    | 0, h => obtain rfl := Option.some.inj h; exact ⟨rfl, (show Try.prog.cellsOf 39 = 1 by kernel_rfl), ⟨78, Try.underlying39, (show Try.prog.cellsOf 78 = 5 by kernel_rfl), by decide, Or.inr ⟨_, Try.underlying78, rfl, (fun i f h => by
    match i, h with
    | 0, h => obtain rfl := Option.some.inj h; exact ⟨rfl, (show Try.prog.cellsOf 3 = 1 by kernel_rfl), Try.underlying3⟩
    | 1, h => obtain rfl := Option.some.inj h; exact ⟨rfl, (show Try.prog.cellsOf 3 = 1 by kernel_rfl), Try.underlying3⟩
    | 2, h => obtain rfl := Option.some.inj h; exact ⟨rfl, (show Try.prog.cellsOf 3 = 1 by kernel_rfl), Try.underlying3⟩
    | 3, h => obtain rfl := Option.some.inj h; exact ⟨rfl, (show Try.prog.cellsOf 3 = 1 by kernel_rfl), Try.underlying3⟩
    | 4, h => obtain rfl := Option.some.inj h; exact ⟨rfl, (show Try.prog.cellsOf 3 = 1 by kernel_rfl), Try.underlying3⟩
    | i + 5, h => simp at h)⟩⟩⟩
    | 1, h => obtain rfl := Option.some.inj h; exact ⟨rfl, (show Try.prog.cellsOf 3 = 1 by kernel_rfl), Try.underlying3⟩
    | 2, h => obtain rfl := Option.some.inj h; exact ⟨rfl, (show Try.prog.cellsOf 3 = 1 by kernel_rfl), Try.underlying3⟩
    | 3, h => obtain rfl := Option.some.inj h; exact ⟨rfl, (show Try.prog.cellsOf 3 = 1 by kernel_rfl), Try.underlying3⟩
    | i + 4, h => simp at h)⟩⟩) h0
  obtain ⟨a1, l1, cap1, rfl⟩ := okWide_slice Try.underlying23 (hval 1 23 v1 rfl rfl)
  have k1 := h1
  have lt1 : ∀ x ∈ p1, x.block < W.heap.size := by obtain ⟨m, hm⟩ := k1; exact DataW.trod_lt m _ _ _ hm
  obtain ⟨cs1, w1, f1, n1⟩ := open_list (show Matches Try.prog shI 23 from ⟨3, Try.underlying23, (show Try.prog.cellsOf 3 = 1 by kernel_rfl), by decide, Or.inl ⟨rfl, Try.underlying3⟩⟩) h1
  clear hA0 hval0
  refine (walk a0 l0 cap0 cs0 a1 l1 cap1 cs1 W w0 f0 n0 w1 f1 n1).mono fun e W' ⟨he, bel⟩ => ?_
  subst he
  exact ⟨_, rfl, _, _, _, [], _, [], hW', trodAll_mk1 (shut_bool Try.underlying4 _), (trodAll_cons_mk (Below.trod laidOut (by kernel_rfl) (of_decide_eq_true (by kernel_rfl)) k0 bel lt0) (trodAll_cons_mk (Below.trod laidOut (by kernel_rfl) (of_decide_eq_true (by kernel_rfl)) k1 bel lt1) trodAll_mk0)), rfl, bel.frame _, fun h => by cases h⟩

theorem over : Rows.fnExactLayFlowRow.holds Try.pinned (OpenSpec.ofChange Rows.fnExactLayFlowSpec) :=
  OpenClaim.holds_of_wide 3 Try.f3 rfl rfl rfl rfl rfl rfl rfl ⟨rfl, rfl, rfl, rfl, rfl⟩ rfl rfl rfl rfl rfl (by kernel_rfl) Try.func3 (by kernel_rfl)
    (of_decide_eq_true (by kernel_rfl)) (by unfold Func.isWrapper; first | (rw [if_pos (by decide +kernel)]; kernel_rfl) | (rw [if_neg (by decide +kernel)]; exact ⟨rfl, rfl⟩))
    (fun os started H enc _ => lifted os started H enc)

theorem proved : Rows.FnExactLayFlowSaid :=
  over
#print axioms proved
end Go.Proofs.Ytemlhhogcdgofaa.fnExactLayFlow
