/-
  At every argument CountEdges answers as the specification, field by field; it writes into no argument and keeps nothing of one; its answer owns its memory, behind another call too.
-/
import Derived.Test.YtgknofbkdgbokaaRows
import Derived.WalkKit
import Derived.ProofKit
import Derived.OpenShut
import Derived.ShutString
import Derived.ChangeOld
import Derived.Below
import Derived.Carry
import Derived.SizedLaws
import Derived.Test.YtgknofbkdgbokaaMagMath
import Derived.Test.YtgknofbkdgbokaaCodeMath
import Derived.Test.YtgknofbkdgbokaaFlowMath
import Derived.Test.YtgknofbkdgbokaaFlowRun
import Derived.Test.YtgknofbkdgbokaaInts
import Derived.Test.YtgknofbkdgbokaaDeep
import Derived.Test.YtgknofbkdgbokaaDeepOpen
import Derived.Test.YtgknofbkdgbokaaDeepRow
import Derived.Test.YtgknofbkdgbokaaDeepB
import Derived.Test.YtgknofbkdgbokaaFlowDeep
import Derived.Test.YtgknofbkdgbokaaOwnFlat
import Derived.Test.YtgknofbkdgbokaaCountMath
import Derived.Test.YtgknofbkdgbokaaCountSpec
import Derived.Test.YtgknofbkdgbokaaCountImpl
namespace Go.Proofs.Ytgknofbkdgbokaa.fnExactCountEdges
open Go.ChangeShapes Go.WideShapes Go.ChangeAt Go.RowKit
open Go.ChangeMaps (open_string shut_string)
open Go.Proofs.Ytgknofbkdgbokaa.math
open Go.Proofs.Ytgknofbkdgbokaa.ints
open Go.Proofs.Ytgknofbkdgbokaa.deep
open Go.Proofs.Ytgknofbkdgbokaa.walks
open Go.Proofs.Ytgknofbkdgbokaa.deep
set_option linter.unusedVariables false

theorem own : ownKnob Try.prog.godebug = none := by kernel_rfl
theorem laidOut : laidOutB Try.prog = true := by kernel_rfl

def SpecTells (l0 : Nat) (cs0 : Nat → Dv) (l1 : Nat) (cs1 : Nat → Dv) (x2 : Int) (lr0 : Nat) (csr0 : Nat → Dv) (xr1 : Bool) : Prop := ∀ (W : World) (a0 : Option Addr) (cap0 : Nat) (a1 : Option Addr) (cap1 : Nat), Holds W true (.l l0 4 cs0) (.slice a0 l0 cap0) → Holds W true (.l l1 1 cs1) (.slice a1 l1 cap1) → Calls Try.prog 7 #[.slice a0 l0 cap0, .slice a1 l1 cap1, .int .i64 x2] W fun e W' => ∃ g0 d0, e = .returned (.tuple #[.slice g0 lr0 d0, .bool xr1]) ∧ Holds W' false (.l lr0 3 csr0) (.slice g0 lr0 d0) ∧ Below W.heap.size W W'
def ImplTells (l0 : Nat) (cs0 : Nat → Dv) (l1 : Nat) (cs1 : Nat → Dv) (x2 : Int) (lr0 : Nat) (csr0 : Nat → Dv) (xr1 : Bool) : Prop := ∀ (W : World) (a0 : Option Addr) (cap0 : Nat) (a1 : Option Addr) (cap1 : Nat), Holds W true (.l l0 4 cs0) (.slice a0 l0 cap0) → Holds W true (.l l1 1 cs1) (.slice a1 l1 cap1) → Calls Try.prog 10 #[.slice a0 l0 cap0, .slice a1 l1 cap1, .int .i64 x2] W fun e W' => ∃ (g0 : Option Addr) (d0 : Nat) (F0 : Nat → Prop), e = .returned (.tuple #[.slice g0 lr0 d0, .bool xr1]) ∧ Owns W' false W.heap.size (.l lr0 3 csr0) (.slice g0 lr0 d0) F0 ∧ (∀ x, F0 x → W.heap.size ≤ x ∧ x < W'.heap.size) ∧ Below W.heap.size W W'
set_option maxHeartbeats 16000000 in
set_option maxRecDepth 100000 in
theorem walk_of (a0 : Option Addr) (cap0 : Nat) (a1 : Option Addr) (cap1 : Nat) (l0 : Nat) (cs0 : Nat → Dv) (l1 : Nat) (cs1 : Nat → Dv) (x2 : Int) (lr0 : Nat) (csr0 : Nat → Dv) (xr1 : Bool) (w : World) (hf0 : Hid (Fits shBlockS (.l l0 4 cs0))) (hn0 : Hid (Lens (.l l0 4 cs0))) (h0 : Hid (Holds w false (.l l0 4 cs0) (.slice a0 l0 cap0))) (hf1 : Hid (Fits shIntSS (.l l1 1 cs1))) (hn1 : Hid (Lens (.l l1 1 cs1))) (h1 : Hid (Holds w false (.l l1 1 cs1) (.slice a1 l1 cap1))) (hfr0 : Hid (Fits shEdgeS (.l lr0 3 csr0))) (hsx0 : Hid (szD (.l lr0 3 csr0) ≤ 100000)) (Hs : Hid (szD (.l l0 4 cs0) ≤ 1048576 → szD (.l l1 1 cs1) ≤ 1048576 → SpecTells l0 cs0 l1 cs1 x2 lr0 csr0 xr1)) (Hi : Hid (szD (.l l0 4 cs0) ≤ 1048576 → szD (.l l1 1 cs1) ≤ 1048576 → ImplTells l0 cs0 l1 cs1 x2 lr0 csr0 xr1)) :
    Calls Try.prog 3 #[.slice a0 l0 cap0, .slice a1 l1 cap1, .int .i64 x2] w fun e w' => e = .returned (.bool true) ∧ Below w.heap.size w w' := by
  have hsr0 : Hid (szD (.l lr0 3 csr0) ≤ 1048576) := Nat.le_trans hsx0.out (by decide)
  have pe1 : (xr1 != xr1) = false := by cases xr1 <;> rfl
  go_enter Try.func3, Try.ntmps3
  obtain ⟨z0, HZ0⟩ : ∃ z, Hid (szD (.l l0 4 cs0) = z) := ⟨_, rfl⟩
  go_wp2_with fail
  refine (BlockS_size _ _ _ cs0 (1048576) false _ hf0 hn0 h0 (by omega) (by omega)).mono ?_
  rw [HZ0.out]
  rintro e w1 ⟨rfl, hB⟩
  have BW1 : Hid (Below w.heap.size w w1) := hB
  have SZ1 : Hid (w.heap.size ≤ w1.heap.size) := hB.size
  clear hB
  by_cases ok0 : (z0 : Int) ≤ 1048576
  rotate_left
  · rw [if_neg ok0]
    go_wp2
    go_ret
    exact ⟨rfl, BW1.out⟩
  rw [if_pos ok0]
  have left0 : 0 ≤ 1048576 - ((z0 : Int)) := by omega
  have hs0 : Hid (szD (.l l0 4 cs0) ≤ 1048576) := by show _ ≤ _; rw [HZ0.out]; omega
  obtain ⟨z1, HZ1⟩ : ∃ z, Hid (szD (.l l1 1 cs1) = z) := ⟨_, rfl⟩
  go_wp2_with fail
  refine (IntSS_size _ _ _ cs1 (1048576 - ((z0 : Int))) false _ hf1 hn1 (h1.out.kept BW1.out) (by omega) (by omega)).mono ?_
  rw [HZ1.out]
  rintro e w2 ⟨rfl, hB⟩
  have BW2 : Hid (Below w.heap.size w w2) := BW1.out.trans (hB.mono BW1.out.size)
  have SZ2 : Hid (w1.heap.size ≤ w2.heap.size) := hB.size
  clear hB
  by_cases ok1 : (z1 : Int) ≤ 1048576 - ((z0 : Int))
  rotate_left
  · rw [if_neg ok1]
    go_wp2
    go_ret
    exact ⟨rfl, BW2.out⟩
  rw [if_pos ok1]
  have left1 : 0 ≤ 1048576 - ((z0 : Int)) - ((z1 : Int)) := by omega
  have hs1 : Hid (szD (.l l1 1 cs1) ≤ 1048576) := by show _ ≤ _; rw [HZ1.out]; omega
  have HS : Hid (SpecTells l0 cs0 l1 cs1 x2 lr0 csr0 xr1) := Hs.out hs0.out hs1.out
  have HI : Hid (ImplTells l0 cs0 l1 cs1 x2 lr0 csr0 xr1) := Hi.out hs0.out hs1.out
  clear Hs Hi
  go_wp2_with fail
  refine (BlockS_to _ _ _ cs0 false _ hf0 hs0 (h0.out.kept BW2.out)).mono ?_
  rintro e w3 ⟨rfl, hO, hB⟩
  have A0_3 : Hid (Owns w3 true w2.heap.size (.l l0 4 cs0) (.slice (some ⟨w2.heap.size, 0, none⟩) l0 l0) (rng w2.heap.size w3.heap.size)) := hO
  have BW3 : Hid (Below w.heap.size w w3) := BW2.out.trans (hB.mono BW2.out.size)
  have SZ3 : Hid (w2.heap.size ≤ w3.heap.size) := hB.size
  clear hO hB
  go_wp2_with fail
  refine (IntSS_to _ _ _ cs1 false _ hf1 hs1 (h1.out.kept BW3.out)).mono ?_
  rintro e w4 ⟨rfl, hO, hB⟩
  have A1_4 : Hid (Owns w4 true w3.heap.size (.l l1 1 cs1) (.slice (some ⟨w3.heap.size, 0, none⟩) l1 l1) (rng w3.heap.size w4.heap.size)) := hO
  have BW4 : Hid (Below w.heap.size w w4) := BW3.out.trans (hB.mono BW3.out.size)
  have SZ4 : Hid (w3.heap.size ≤ w4.heap.size) := hB.size
  have A0_4 : Hid (Owns w4 true w2.heap.size (.l l0 4 cs0) (.slice (some ⟨w2.heap.size, 0, none⟩) l0 l0) (rng w2.heap.size w3.heap.size)) := A0_3.out.kept hB
  clear hO hB
  go_wp2_with fail
  refine (HS.out _ _ _ _ _ A0_4.out.holds A1_4.out.holds).mono ?_
  rintro e w5 ⟨sa0, sc0, rfl, hS0, hB⟩
  have S0 : Hid (Holds w5 false (.l lr0 3 csr0) (.slice sa0 lr0 sc0)) := hS0
  have BW5 : Hid (Below w.heap.size w w5) := BW4.out.trans (hB.mono BW4.out.size)
  have SZ5 : Hid (w4.heap.size ≤ w5.heap.size) := hB.size
  clear hB hS0
  go_wp2_with fail
  refine (BlockS_to _ _ _ cs0 false _ hf0 hs0 (h0.out.kept BW5.out)).mono ?_
  rintro e w6 ⟨rfl, hO, hB⟩
  have X0_6 : Hid (Owns w6 true w5.heap.size (.l l0 4 cs0) (.slice (some ⟨w5.heap.size, 0, none⟩) l0 l0) (rng w5.heap.size w6.heap.size)) := hO
  have BW6 : Hid (Below w.heap.size w w6) := BW5.out.trans (hB.mono BW5.out.size)
  have SZ6 : Hid (w5.heap.size ≤ w6.heap.size) := hB.size
  have BS6 : Hid (Below w5.heap.size w5 w6) := hB
  clear hO hB
  go_wp2_with fail
  refine (IntSS_to _ _ _ cs1 false _ hf1 hs1 (h1.out.kept BW6.out)).mono ?_
  rintro e w7 ⟨rfl, hO, hB⟩
  have X1_7 : Hid (Owns w7 true w6.heap.size (.l l1 1 cs1) (.slice (some ⟨w6.heap.size, 0, none⟩) l1 l1) (rng w6.heap.size w7.heap.size)) := hO
  have BW7 : Hid (Below w.heap.size w w7) := BW6.out.trans (hB.mono BW6.out.size)
  have SZ7 : Hid (w6.heap.size ≤ w7.heap.size) := hB.size
  have BS7 : Hid (Below w5.heap.size w5 w7) := BS6.out.trans (hB.mono BS6.out.size)
  have X0_7 : Hid (Owns w7 true w5.heap.size (.l l0 4 cs0) (.slice (some ⟨w5.heap.size, 0, none⟩) l0 l0) (rng w5.heap.size w6.heap.size)) := X0_6.out.kept hB
  clear hO hB
  go_wp2_with fail
  refine (HI.out _ _ _ _ _ X0_7.out.holds X1_7.out.holds).mono ?_
  rintro e w8 ⟨ga0, gc0, gP0, rfl, hO0, hF0, hB⟩
  have G0_8 : Hid (Owns w8 false w7.heap.size (.l lr0 3 csr0) (.slice ga0 lr0 gc0) gP0) := hO0
  have GF0 : Hid (∀ x, gP0 x → w7.heap.size ≤ x ∧ x < w8.heap.size) := hF0
  have BW8 : Hid (Below w.heap.size w w8) := BW7.out.trans (hB.mono BW7.out.size)
  have SZ8 : Hid (w7.heap.size ≤ w8.heap.size) := hB.size
  have BS8 : Hid (Below w5.heap.size w5 w8) := BS7.out.trans (hB.mono BS7.out.size)
  have X0_8 : Hid (Owns w8 true w5.heap.size (.l l0 4 cs0) (.slice (some ⟨w5.heap.size, 0, none⟩) l0 l0) (rng w5.heap.size w6.heap.size)) := X0_7.out.kept hB
  have X1_8 : Hid (Owns w8 true w6.heap.size (.l l1 1 cs1) (.slice (some ⟨w6.heap.size, 0, none⟩) l1 l1) (rng w6.heap.size w7.heap.size)) := X1_7.out.kept hB
  clear hB hO0 hF0
  go_wp2_with fail
  refine (EdgeS_eq _ _ _ _ _ csr0 _ _ _ hfr0 hsr0 G0_8.out.holds (S0.out.kept BS8.out)).mono ?_
  rintro e w9 ⟨rfl, hB⟩
  have BW9 : Hid (Below w.heap.size w w9) := BW8.out.trans (hB.mono BW8.out.size)
  have SZ9 : Hid (w8.heap.size ≤ w9.heap.size) := hB.size
  have BS9 : Hid (Below w5.heap.size w5 w9) := BS8.out.trans (hB.mono BS8.out.size)
  have X0_9 : Hid (Owns w9 true w5.heap.size (.l l0 4 cs0) (.slice (some ⟨w5.heap.size, 0, none⟩) l0 l0) (rng w5.heap.size w6.heap.size)) := X0_8.out.kept hB
  have X1_9 : Hid (Owns w9 true w6.heap.size (.l l1 1 cs1) (.slice (some ⟨w6.heap.size, 0, none⟩) l1 l1) (rng w6.heap.size w7.heap.size)) := X1_8.out.kept hB
  have G0_9 : Hid (Owns w9 false w7.heap.size (.l lr0 3 csr0) (.slice ga0 lr0 gc0) gP0) := G0_8.out.kept hB
  clear hB
  go_wp2_with fail
  refine (BlockS_to _ _ _ cs0 false _ hf0 hs0 (h0.out.kept BW9.out)).mono ?_
  rintro e w10 ⟨rfl, hO, hB⟩
  have Z0_10 : Hid (Owns w10 true w9.heap.size (.l l0 4 cs0) (.slice (some ⟨w9.heap.size, 0, none⟩) l0 l0) (rng w9.heap.size w10.heap.size)) := hO
  have BW10 : Hid (Below w.heap.size w w10) := BW9.out.trans (hB.mono BW9.out.size)
  have SZ10 : Hid (w9.heap.size ≤ w10.heap.size) := hB.size
  have BS10 : Hid (Below w5.heap.size w5 w10) := BS9.out.trans (hB.mono BS9.out.size)
  have X0_10 : Hid (Owns w10 true w5.heap.size (.l l0 4 cs0) (.slice (some ⟨w5.heap.size, 0, none⟩) l0 l0) (rng w5.heap.size w6.heap.size)) := X0_9.out.kept hB
  have X1_10 : Hid (Owns w10 true w6.heap.size (.l l1 1 cs1) (.slice (some ⟨w6.heap.size, 0, none⟩) l1 l1) (rng w6.heap.size w7.heap.size)) := X1_9.out.kept hB
  have G0_10 : Hid (Owns w10 false w7.heap.size (.l lr0 3 csr0) (.slice ga0 lr0 gc0) gP0) := G0_9.out.kept hB
  clear hO hB
  go_wp2_with fail
  refine (BlockS_eq _ _ _ _ _ cs0 _ _ _ hf0 hs0 X0_10.out.holds Z0_10.out.holds).mono ?_
  rintro e w11 ⟨rfl, hB⟩
  have BW11 : Hid (Below w.heap.size w w11) := BW10.out.trans (hB.mono BW10.out.size)
  have SZ11 : Hid (w10.heap.size ≤ w11.heap.size) := hB.size
  have BS11 : Hid (Below w5.heap.size w5 w11) := BS10.out.trans (hB.mono BS10.out.size)
  have X0_11 : Hid (Owns w11 true w5.heap.size (.l l0 4 cs0) (.slice (some ⟨w5.heap.size, 0, none⟩) l0 l0) (rng w5.heap.size w6.heap.size)) := X0_10.out.kept hB
  have X1_11 : Hid (Owns w11 true w6.heap.size (.l l1 1 cs1) (.slice (some ⟨w6.heap.size, 0, none⟩) l1 l1) (rng w6.heap.size w7.heap.size)) := X1_10.out.kept hB
  have G0_11 : Hid (Owns w11 false w7.heap.size (.l lr0 3 csr0) (.slice ga0 lr0 gc0) gP0) := G0_10.out.kept hB
  have Z0_11 : Hid (Owns w11 true w9.heap.size (.l l0 4 cs0) (.slice (some ⟨w9.heap.size, 0, none⟩) l0 l0) (rng w9.heap.size w10.heap.size)) := Z0_10.out.kept hB
  clear hB
  go_wp2_with fail
  refine (IntSS_to _ _ _ cs1 false _ hf1 hs1 (h1.out.kept BW11.out)).mono ?_
  rintro e w12 ⟨rfl, hO, hB⟩
  have Z1_12 : Hid (Owns w12 true w11.heap.size (.l l1 1 cs1) (.slice (some ⟨w11.heap.size, 0, none⟩) l1 l1) (rng w11.heap.size w12.heap.size)) := hO
  have BW12 : Hid (Below w.heap.size w w12) := BW11.out.trans (hB.mono BW11.out.size)
  have SZ12 : Hid (w11.heap.size ≤ w12.heap.size) := hB.size
  have BS12 : Hid (Below w5.heap.size w5 w12) := BS11.out.trans (hB.mono BS11.out.size)
  have X0_12 : Hid (Owns w12 true w5.heap.size (.l l0 4 cs0) (.slice (some ⟨w5.heap.size, 0, none⟩) l0 l0) (rng w5.heap.size w6.heap.size)) := X0_11.out.kept hB
  have X1_12 : Hid (Owns w12 true w6.heap.size (.l l1 1 cs1) (.slice (some ⟨w6.heap.size, 0, none⟩) l1 l1) (rng w6.heap.size w7.heap.size)) := X1_11.out.kept hB
  have G0_12 : Hid (Owns w12 false w7.heap.size (.l lr0 3 csr0) (.slice ga0 lr0 gc0) gP0) := G0_11.out.kept hB
  clear hO hB
  go_wp2_with fail
  refine (IntSS_eq _ _ _ _ _ cs1 _ _ _ hf1 hs1 X1_12.out.holds Z1_12.out.holds).mono ?_
  rintro e w13 ⟨rfl, hB⟩
  have BW13 : Hid (Below w.heap.size w w13) := BW12.out.trans (hB.mono BW12.out.size)
  have SZ13 : Hid (w12.heap.size ≤ w13.heap.size) := hB.size
  have BS13 : Hid (Below w5.heap.size w5 w13) := BS12.out.trans (hB.mono BS12.out.size)
  have X0_13 : Hid (Owns w13 true w5.heap.size (.l l0 4 cs0) (.slice (some ⟨w5.heap.size, 0, none⟩) l0 l0) (rng w5.heap.size w6.heap.size)) := X0_12.out.kept hB
  have X1_13 : Hid (Owns w13 true w6.heap.size (.l l1 1 cs1) (.slice (some ⟨w6.heap.size, 0, none⟩) l1 l1) (rng w6.heap.size w7.heap.size)) := X1_12.out.kept hB
  have G0_13 : Hid (Owns w13 false w7.heap.size (.l lr0 3 csr0) (.slice ga0 lr0 gc0) gP0) := G0_12.out.kept hB
  have Z1_13 : Hid (Owns w13 true w11.heap.size (.l l1 1 cs1) (.slice (some ⟨w11.heap.size, 0, none⟩) l1 l1) (rng w11.heap.size w12.heap.size)) := Z1_12.out.kept hB
  clear hB
  have hcn0 := cnt_le thin_BlockS hf0.out
  obtain ⟨N0, HN0⟩ : ∃ N, Hid (cntD (.l l0 4 cs0) = N) := ⟨_, rfl⟩
  have hN0 : N0 ≤ 8388609 := by have q := hs0.out; rw [HN0.out] at hcn0; omega
  clear hcn0
  have hcn1 := cnt_le thin_IntSS hf1.out
  obtain ⟨N1, HN1⟩ : ∃ N, Hid (cntD (.l l1 1 cs1) = N) := ⟨_, rfl⟩
  have hN1 : N1 ≤ 8388609 := by have q := hs1.out; rw [HN1.out] at hcn1; omega
  clear hcn1
  go_wp2_with fail
  refine (BlockS_mark (1) (by omega) (by omega) _ _ _ cs0 true _ _ _ hf0 hs0 X0_13).mono ?_
  rw [HN0.out]
  rintro e w14 ⟨rfl, _, hF⟩
  have hB : Below w5.heap.size w13 w14 := hF.below (by have q6 := SZ6.out; have q7 := SZ7.out; have q8 := SZ8.out; have q9 := SZ9.out; have q10 := SZ10.out; have q11 := SZ11.out; have q12 := SZ12.out; have q13 := SZ13.out; omega) (fun x hx => hx.1)
  have BW14 : Hid (Below w.heap.size w w14) := BW13.out.trans (hB.mono BW5.out.size)
  have SZ14 : Hid (w13.heap.size ≤ w14.heap.size) := hB.size
  have BS14 : Hid (Below w5.heap.size w5 w14) := BS13.out.trans (hB.mono (Nat.le_refl _))
  have X1_14 : Hid (Owns w14 true w6.heap.size (.l l1 1 cs1) (.slice (some ⟨w6.heap.size, 0, none⟩) l1 l1) (rng w6.heap.size w7.heap.size)) := hF.owns (fun x hx hy => by have r1 := hx.1; have r2 := hy.2;   omega) X1_13.out
  have G0_14 : Hid (Owns w14 false w7.heap.size (.l lr0 3 csr0) (.slice ga0 lr0 gc0) gP0) := hF.owns (fun x hx hy => by have r1 := (GF0.out x hx).1; have r2 := hy.2; have q7 := SZ7.out; omega) G0_13.out
  clear hF hB
  go_wp2_with fail
  refine (IntSS_mark (1 + (N0 : Int)) (by omega) (by omega) _ _ _ cs1 true _ _ _ hf1 hs1 X1_14).mono ?_
  rw [HN1.out]
  rintro e w15 ⟨rfl, _, hF⟩
  have hB : Below w6.heap.size w14 w15 := hF.below (by have q7 := SZ7.out; have q8 := SZ8.out; have q9 := SZ9.out; have q10 := SZ10.out; have q11 := SZ11.out; have q12 := SZ12.out; have q13 := SZ13.out; have q14 := SZ14.out; omega) (fun x hx => hx.1)
  have BW15 : Hid (Below w.heap.size w w15) := BW14.out.trans (hB.mono BW6.out.size)
  have SZ15 : Hid (w14.heap.size ≤ w15.heap.size) := hB.size
  have BS15 : Hid (Below w5.heap.size w5 w15) := BS14.out.trans (hB.mono BS6.out.size)
  have G0_15 : Hid (Owns w15 false w7.heap.size (.l lr0 3 csr0) (.slice ga0 lr0 gc0) gP0) := hF.owns (fun x hx hy => by have r1 := (GF0.out x hx).1; have r2 := hy.2;  omega) G0_14.out
  clear hF hB
  have hk : (0 : Int) ≤ 1 + (N0 : Int) + (N1 : Int) := by omega
  go_wp2_with fail
  refine (EdgeS_eq _ _ _ _ _ csr0 _ _ _ hfr0 hsr0 G0_15.out.holds (S0.out.kept BS15.out)).mono ?_
  rintro e w16 ⟨rfl, hB⟩
  have BW16 : Hid (Below w.heap.size w w16) := BW15.out.trans (hB.mono BW15.out.size)
  have SZ16 : Hid (w15.heap.size ≤ w16.heap.size) := hB.size
  have BS16 : Hid (Below w5.heap.size w5 w16) := BS15.out.trans (hB.mono BS15.out.size)
  have G0_16 : Hid (Owns w16 false w7.heap.size (.l lr0 3 csr0) (.slice ga0 lr0 gc0) gP0) := G0_15.out.kept hB
  clear hB
  have hcnr0 := cnt_le thin_EdgeS hfr0.out
  obtain ⟨M0, HM0⟩ : ∃ N, Hid (cntD (.l lr0 3 csr0) = N) := ⟨_, rfl⟩
  have hM0 : M0 ≤ 800001 := by have q := hsx0.out; rw [HM0.out] at hcnr0; omega
  clear hcnr0
  go_wp2_with fail
  refine (EdgeS_mark (1) (by omega) (by omega) _ _ _ csr0 false _ _ _ hfr0 hsr0 G0_16).mono ?_
  rw [HM0.out]
  rintro e w17 ⟨rfl, hO0, hF⟩
  have hB : Below w7.heap.size w16 w17 := hF.below (by have q8 := SZ8.out; have q9 := SZ9.out; have q10 := SZ10.out; have q11 := SZ11.out; have q12 := SZ12.out; have q13 := SZ13.out; have q14 := SZ14.out; have q15 := SZ15.out; have q16 := SZ16.out; omega) (fun x hx => (GF0.out x hx).1)
  have BW17 : Hid (Below w.heap.size w w17) := BW16.out.trans (hB.mono BW7.out.size)
  have SZ17 : Hid (w16.heap.size ≤ w17.heap.size) := hB.size
  have BS17 : Hid (Below w5.heap.size w5 w17) := BS16.out.trans (hB.mono BS7.out.size)
  have G0_17 : Hid (Owns w17 false w7.heap.size (mkD (1) (.l lr0 3 csr0)) (.slice ga0 lr0 gc0) gP0) := hO0
  clear hF hB hO0
  have hm : (0 : Int) ≤ 1 + (M0 : Int) := by omega
  go_wp2_with fail
  refine (EdgeS_held (1) (by omega) _ _ _ csr0 false _ hfr0 hsr0 (by rw [HM0.out]; omega) G0_17.out.holds).mono ?_
  rintro e w' ⟨rfl, hw⟩
  rw [hw, HM0.out]
  clear hw w'
  have hq17_0 : (0 : Int) ≤ 1 + (M0 : Int) := by omega
  go_wp2_with fail
  refine (BlockS_to _ _ _ cs0 false _ hf0 hs0 (h0.out.kept BW17.out)).mono ?_
  rintro e w18 ⟨rfl, hO, hB⟩
  have C0_18 : Hid (Owns w18 true w17.heap.size (.l l0 4 cs0) (.slice (some ⟨w17.heap.size, 0, none⟩) l0 l0) (rng w17.heap.size w18.heap.size)) := hO
  have BW18 : Hid (Below w.heap.size w w18) := BW17.out.trans (hB.mono BW17.out.size)
  have SZ18 : Hid (w17.heap.size ≤ w18.heap.size) := hB.size
  have BS18 : Hid (Below w5.heap.size w5 w18) := BS17.out.trans (hB.mono BS17.out.size)
  have G0_18 : Hid (Owns w18 false w7.heap.size (mkD (1) (.l lr0 3 csr0)) (.slice ga0 lr0 gc0) gP0) := G0_17.out.kept hB
  clear hO hB
  go_wp2_with fail
  refine (IntSS_to _ _ _ cs1 false _ hf1 hs1 (h1.out.kept BW18.out)).mono ?_
  rintro e w19 ⟨rfl, hO, hB⟩
  have C1_19 : Hid (Owns w19 true w18.heap.size (.l l1 1 cs1) (.slice (some ⟨w18.heap.size, 0, none⟩) l1 l1) (rng w18.heap.size w19.heap.size)) := hO
  have BW19 : Hid (Below w.heap.size w w19) := BW18.out.trans (hB.mono BW18.out.size)
  have SZ19 : Hid (w18.heap.size ≤ w19.heap.size) := hB.size
  have BS19 : Hid (Below w5.heap.size w5 w19) := BS18.out.trans (hB.mono BS18.out.size)
  have G0_19 : Hid (Owns w19 false w7.heap.size (mkD (1) (.l lr0 3 csr0)) (.slice ga0 lr0 gc0) gP0) := G0_18.out.kept hB
  have C0_19 : Hid (Owns w19 true w17.heap.size (.l l0 4 cs0) (.slice (some ⟨w17.heap.size, 0, none⟩) l0 l0) (rng w17.heap.size w18.heap.size)) := C0_18.out.kept hB
  clear hO hB
  go_wp2_with fail
  refine (HI.out _ _ _ _ _ C0_19.out.holds C1_19.out.holds).mono ?_
  rintro e w20 ⟨ha0, hc0, hP0, rfl, hO0, hF0, hB⟩
  have H0_20 : Hid (Owns w20 false w19.heap.size (.l lr0 3 csr0) (.slice ha0 lr0 hc0) hP0) := hO0
  have HF0 : Hid (∀ x, hP0 x → w19.heap.size ≤ x ∧ x < w20.heap.size) := hF0
  have BW20 : Hid (Below w.heap.size w w20) := BW19.out.trans (hB.mono BW19.out.size)
  have SZ20 : Hid (w19.heap.size ≤ w20.heap.size) := hB.size
  have BS20 : Hid (Below w5.heap.size w5 w20) := BS19.out.trans (hB.mono BS19.out.size)
  have G0_20 : Hid (Owns w20 false w7.heap.size (mkD (1) (.l lr0 3 csr0)) (.slice ga0 lr0 gc0) gP0) := G0_19.out.kept hB
  have C0_20 : Hid (Owns w20 true w17.heap.size (.l l0 4 cs0) (.slice (some ⟨w17.heap.size, 0, none⟩) l0 l0) (rng w17.heap.size w18.heap.size)) := C0_19.out.kept hB
  have C1_20 : Hid (Owns w20 true w18.heap.size (.l l1 1 cs1) (.slice (some ⟨w18.heap.size, 0, none⟩) l1 l1) (rng w18.heap.size w19.heap.size)) := C1_19.out.kept hB
  clear hB hO0 hF0
  go_wp2_with fail
  refine (EdgeS_eq _ _ _ _ _ csr0 _ _ _ hfr0 hsr0 H0_20.out.holds (S0.out.kept BS20.out)).mono ?_
  rintro e w21 ⟨rfl, hB⟩
  have BW21 : Hid (Below w.heap.size w w21) := BW20.out.trans (hB.mono BW20.out.size)
  have SZ21 : Hid (w20.heap.size ≤ w21.heap.size) := hB.size
  have BS21 : Hid (Below w5.heap.size w5 w21) := BS20.out.trans (hB.mono BS20.out.size)
  have G0_21 : Hid (Owns w21 false w7.heap.size (mkD (1) (.l lr0 3 csr0)) (.slice ga0 lr0 gc0) gP0) := G0_20.out.kept hB
  have H0_21 : Hid (Owns w21 false w19.heap.size (.l lr0 3 csr0) (.slice ha0 lr0 hc0) hP0) := H0_20.out.kept hB
  clear hB
  go_wp2_with fail
  refine (EdgeS_held (1) (by omega) _ _ _ csr0 false _ hfr0 hsr0 (by rw [HM0.out]; omega) G0_21.out.holds).mono ?_
  rintro e w' ⟨rfl, hw⟩
  rw [hw, HM0.out]
  clear hw w'
  have hq21_0 : (0 : Int) ≤ 1 + (M0 : Int) := by omega
  go_wp2
  go_ret
  exact ⟨rfl, BW21.out⟩
theorem walk (a0 : Option Addr) (l0 cap0 : Nat) (cs0 : Nat → Dv) (a1 : Option Addr) (l1 cap1 : Nat) (cs1 : Nat → Dv) (a2 : Int) (w2 : (Lit.int .i64 a2).wf = true) (w : World) (h0 : Holds w false (.l l0 4 cs0) (.slice a0 l0 cap0)) (f0 : Fits shBlockS (.l l0 4 cs0)) (n0 : Lens (.l l0 4 cs0)) (h1 : Holds w false (.l l1 1 cs1) (.slice a1 l1 cap1)) (f1 : Fits shIntSS (.l l1 1 cs1)) (n1 : Lens (.l l1 1 cs1)) :
    Calls Try.prog 3 #[.slice a0 l0 cap0, .slice a1 l1 cap1, .int .i64 a2] w fun e w' => e = .returned (.bool true) ∧ Below w.heap.size w w' := by
  have HLN : Hid ((edgZ (bvD cs0) l0 (fun k => zsD 1 (cs1 k)) l1 a2).length = edgN (bvD cs0) l0 (fun k => zsD 1 (cs1 k)) l1 a2 * 3) := edgZ_len _ _ _ _ _
  have HFW : Hid (edgN (bvD cs0) l0 (fun k => zsD 1 (cs1 k)) l1 a2 ≤ 16) := edgN_le _ _ _ _ _
  refine walk_of a0 cap0 a1 cap1 l0 cs0 l1 cs1 a2 (edgN (bvD cs0) l0 (fun k => zsD 1 (cs1 k)) l1 a2) (fun i => .n ((edgZ (bvD cs0) l0 (fun k => zsD 1 (cs1 k)) l1 a2).getD i 0)) (okE (bvD cs0) l0 (fun k => zsD 1 (cs1 k)) l1 a2) w f0 n0 h0 f1 n1 h1 ?_ ?_ (fun hs0 hs1 => ?_) (fun hs0 hs1 => ?_)
  · exact ⟨rfl, fun i hi => by rcases (show i % 3 = 0 ∨ i % 3 = 1 ∨ i % 3 = 2 by omega) with r | r | r <;> rw [r] <;> trivial⟩
  · show edgN (bvD cs0) l0 (fun k => zsD 1 (cs1 k)) l1 a2 + sumTo _ _ ≤ _
    rw [sz_flat _ (fun i hi => ⟨_, rfl⟩)]
    have := HFW.out
    omega
  · intro W a cap b cbp hh0 hh1
    obtain ⟨s0, s1⟩ := flow_sizes hs0 f0
    obtain ⟨r0, r1⟩ := rows_sizes hs1 f1
    refine (spec_count a b l0 cap l1 cbp a2 (bvD cs0) cs1 W s0 s1 (hh0.flow f0) r0 r1 f1 hh1).mono (fun e W' q => ?_)
    obtain ⟨v, q1, q2, q3⟩ := q
    obtain ⟨g, d, rfl, hM⟩ := q2.mine
    exact ⟨g, d, q1, ints_holds hM.ints HLN.out (fun q => by cases q), q3⟩
  · intro W a cap b cbp hh0 hh1
    obtain ⟨s0, s1⟩ := flow_sizes hs0 f0
    obtain ⟨r0, r1⟩ := rows_sizes hs1 f1
    refine (impl_count a b l0 cap l1 cbp a2 (bvD cs0) cs1 W s0 s1 (hh0.flow f0) r0 r1 f1 hh1).mono (fun e W' q => ?_)
    obtain ⟨v, q1, q2, q3⟩ := q
    obtain ⟨g, d, rfl, hM⟩ := q2.mine
    exact ⟨g, d, (fun x => W.heap.size ≤ x ∧ x < W'.heap.size), q1, mine_owns hM HLN.out (fun b o e h1 h2 => ⟨h1, h2⟩) (fun q => by cases q), (fun x hx => hx), q3⟩

set_option maxRecDepth 100000 in
set_option maxHeartbeats 4000000 in
theorem lifted (os : Os) (started : os.Started) (H : Type) (enc : TypeId × Value → H) :
    ReturnsInHanded {} Try.checked os 3 .any (Rows.fnExactCountEdgesSpec.pre6 enc Try.prog Try.f3 Rows.fnExactCountEdgesRow.domain false) (Rows.fnExactCountEdgesSpec.post enc Try.prog Try.f3 false true false false) := by
  refine returnsInHanded_of_change_sized (C := Try.checked) own started (by kernel_rfl) Try.func3
    (ChangeSpec.witness6 (enc := enc) (C := Try.checked) false ⟨#[], #[.slice none 0 0, .slice none 0 0, .int .i64 0], []⟩ 8 (by kernel_rfl) (by kernel_rfl) (by kernel_rfl) (by kernel_rfl)) ?_
  intro W base args ds gs before hval0 hW hcnd hsz0 _
  have hval : ∀ (j : Nat) t v, Try.f3.params[j]? = some t → args[j]? = some v → Value.okWide Try.prog W .any base t v := hval0
  have hW' := hW
  obtain ⟨p, q, hA0, hV, rfl, hfz, hnd⟩ := hW
  have hsz : (DataW.weightsEach Try.prog (Try.f3.params.toList ++ Rows.fnExactCountEdgesSpec.plain.varTypes Try.prog) (ds ++ gs)).all (· ≤ reachBytes) = true := hsz0
  have hA : DataW.TrodAll enc Try.prog W 0 (fun _ => true) true Try.f3.params.toList args.toList ds p := hA0
  rw [Try.params3] at hA hval hsz
  obtain ⟨v0, vs0, d0, ds0, p0, q0, hargs, rfl, rfl, h0, r0⟩ := trodAll_cons hA
  obtain ⟨v1, vs1, d1, ds1, p1, q1, rfl, rfl, rfl, h1, r1⟩ := trodAll_cons r0
  obtain ⟨v2, vs2, d2, ds2, p2, q2, rfl, rfl, rfl, h2, r2⟩ := trodAll_cons r1
  obtain ⟨rfl, rfl, rfl⟩ := trodAll_nil r2
  obtain rfl : args = #[v0, v1, v2] := by cases args; simp_all
  obtain ⟨rfl, rfl⟩ := trodVars_none hV
  obtain ⟨a0, l0, cap0, rfl⟩ := okWide_slice Try.underlying22 (hval 0 22 v0 rfl rfl)
  have k0 := h0
  have lt0 : ∀ x ∈ p0, x.block < W.heap.size := by obtain ⟨m, hm⟩ := k0; exact DataW.trod_lt m _ _ _ hm
  obtain ⟨cs0, w0, f0, n0⟩ := open_list (show Matches Try.prog shBlockS 22 from ⟨48, Try.underlying22, (show Try.prog.cellsOf 48 = 4 by kernel_rfl), by decide, Or.inr ⟨_, Try.underlying48, rfl, (fun i f h => by
    match i, h with
    | 0, h => obtain rfl := Option.some.inj h; exact ⟨rfl, (show Try.prog.cellsOf 46 = 1 by kernel_rfl), ⟨103, Try.underlying46, (show Try.prog.cellsOf 103 = 5 by kernel_rfl), by decide, Or.inr ⟨_, Try.underlying103, rfl, (fun i f h => by
    match i, h with
    | 0, h => obtain rfl := Option.some.inj h; exact ⟨rfl, (show Try.prog.cellsOf 3 = 1 by kernel_rfl), Try.underlying3⟩
    | 1, h => obtain rfl := Option.some.inj h; exact ⟨rfl, (show Try.prog.cellsOf 3 = 1 by kernel_rfl), Try.underlying3⟩
    | 2, h => obtain rfl := Option.some.inj h; exact ⟨rfl, (show Try.prog.cellsOf 3 = 1 by kernel_rfl), Try.underlying3⟩
    | 3, h => obtain rfl := Option.some.inj h; exact ⟨rfl, (show Try.prog.cellsOf 3 = 1 by kernel_rfl), Try.underlying3⟩
    | 4, h => obtain rfl := Option.some.inj h; exact ⟨rfl, (show Try.prog.cellsOf 3 = 1 by kernel_rfl), Try.underlying3⟩
    | i + 5, h => simp at h)⟩⟩⟩
    | 1, h => obtain rfl := Option.some.inj h; exact ⟨rfl, (show Try.prog.cellsOf 3 = 1 by kernel_rfl), Try.underlying3⟩
    | 2, h => obtain rfl := Option.some.inj h; exact ⟨rfl, (show Try.prog.cellsOf 3 = 1 by kernel_rfl), Try.underlying3⟩
    | 3, h => obtain rfl := Option.some.inj h; exact ⟨rfl, (show Try.prog.cellsOf 3 = 1 by kernel_rfl), Try.underlying3⟩
    | i + 4, h => simp at h)⟩⟩) h0
  obtain ⟨a1, l1, cap1, rfl⟩ := okWide_slice Try.underlying23 (hval 1 23 v1 rfl rfl)
  have k1 := h1
  have lt1 : ∀ x ∈ p1, x.block < W.heap.size := by obtain ⟨m, hm⟩ := k1; exact DataW.trod_lt m _ _ _ hm
  obtain ⟨cs1, w1, f1, n1⟩ := open_list (show Matches Try.prog shIntSS 23 from ⟨38, Try.underlying23, (show Try.prog.cellsOf 38 = 1 by kernel_rfl), by decide, Or.inl ⟨rfl, ⟨3, Try.underlying38, (show Try.prog.cellsOf 3 = 1 by kernel_rfl), by decide, Or.inl ⟨rfl, Try.underlying3⟩⟩⟩⟩) h1
  have k2 := h2
  have lt2 : ∀ x ∈ p2, x.block < W.heap.size := by obtain ⟨m, hm⟩ := k2; exact DataW.trod_lt m _ _ _ hm
  obtain ⟨a2, rfl, rfl, rfl, w2⟩ := open_int Try.underlying3 (hval 2 3 v2 rfl rfl) h2
  clear hA0 hval0
  refine (walk a0 l0 cap0 cs0 a1 l1 cap1 cs1 a2 w2 W w0 f0 n0 w1 f1 n1).mono fun e W' ⟨he, bel⟩ => ?_
  subst he
  exact ⟨_, rfl, _, _, _, [], _, [], hW', trodAll_mk1 (shut_bool Try.underlying4 _), (trodAll_cons_mk (Below.trod laidOut (by kernel_rfl) (of_decide_eq_true (by kernel_rfl)) k0 bel lt0) (trodAll_cons_mk (Below.trod laidOut (by kernel_rfl) (of_decide_eq_true (by kernel_rfl)) k1 bel lt1) (trodAll_cons_mk (Below.trod laidOut (by kernel_rfl) (of_decide_eq_true (by kernel_rfl)) k2 bel lt2) trodAll_mk0))), rfl, bel.frame _, fun h => by cases h⟩

theorem over : Rows.fnExactCountEdgesRow.holds Try.pinned (OpenSpec.ofChange Rows.fnExactCountEdgesSpec) :=
  OpenClaim.holds_of_wide 3 Try.f3 rfl rfl rfl rfl rfl rfl rfl ⟨rfl, rfl, rfl, rfl, rfl⟩ rfl rfl rfl rfl rfl (by kernel_rfl) Try.func3 (by kernel_rfl)
    (of_decide_eq_true (by kernel_rfl)) (by unfold Func.isWrapper; first | (rw [if_pos (by decide +kernel)]; kernel_rfl) | (rw [if_neg (by decide +kernel)]; exact ⟨rfl, rfl⟩))
    (fun os started H enc _ => lifted os started H enc)

theorem proved : Rows.FnExactCountEdgesSaid :=
  over
#print axioms proved
end Go.Proofs.Ytgknofbkdgbokaa.fnExactCountEdges
