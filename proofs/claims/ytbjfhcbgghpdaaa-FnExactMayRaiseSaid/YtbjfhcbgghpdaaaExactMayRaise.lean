/-
  At every argument MayRaise answers as the specification, field by field; it writes into no argument and keeps nothing of one; its answer owns its memory, behind another call too.
-/
import Derived.Test.YtbjfhcbgghpdaaaRows
import Derived.WalkKit
import Derived.ProofKit
import Derived.OpenShut
import Derived.ShutString
import Derived.ChangeOld
import Derived.Below
import Derived.Carry
import Derived.SizedLaws
import Derived.Test.YtbjfhcbgghpdaaaMagMath
import Derived.Test.YtbjfhcbgghpdaaaInts
import Derived.Test.YtbjfhcbgghpdaaaOwnInts
import Derived.Test.YtbjfhcbgghpdaaaDeep
import Derived.Test.YtbjfhcbgghpdaaaDeepOpen
import Derived.Test.YtbjfhcbgghpdaaaDeepRow
import Derived.Test.YtbjfhcbgghpdaaaDeepX
import Derived.Test.YtbjfhcbgghpdaaaDataX16
import Derived.Test.YtbjfhcbgghpdaaaCodeMath
import Derived.Test.YtbjfhcbgghpdaaaRunMath
import Derived.Test.YtbjfhcbgghpdaaaNamesMath
import Derived.Test.YtbjfhcbgghpdaaaPutSpec
import Derived.Test.YtbjfhcbgghpdaaaLineMath
import Derived.Test.YtbjfhcbgghpdaaaLineStep
import Derived.Test.YtbjfhcbgghpdaaaTreeMath16
import Derived.Test.YtbjfhcbgghpdaaaDeepGrow
import Derived.Test.YtbjfhcbgghpdaaaOwnMath
import Derived.Test.YtbjfhcbgghpdaaaTreeMem16
import Derived.Test.YtbjfhcbgghpdaaaCellBase16
import Derived.Test.YtbjfhcbgghpdaaaReadSpec16
import Derived.Test.YtbjfhcbgghpdaaaTreeSpec16
import Derived.Test.YtbjfhcbgghpdaaaFromImpl16
import Derived.Test.YtbjfhcbgghpdaaaCodeTree16
import Derived.Test.YtbjfhcbgghpdaaaMayMath16
import Derived.Test.YtbjfhcbgghpdaaaMaySpec16
import Derived.Test.YtbjfhcbgghpdaaaMarksB16
import Derived.Test.YtbjfhcbgghpdaaaMayImpl16
import Derived.Test.YtbjfhcbgghpdaaaMayRaise16
namespace Go.Proofs.Ytbjfhcbgghpdaaa.fnExactMayRaise
open Go.ChangeShapes Go.WideShapes Go.ChangeAt Go.RowKit
open Go.ChangeMaps (open_string shut_string)
open Go.Proofs.Ytbjfhcbgghpdaaa.math
open Go.Proofs.Ytbjfhcbgghpdaaa.ints
open Go.Proofs.Ytbjfhcbgghpdaaa.deep
open Go.Proofs.Ytbjfhcbgghpdaaa.walks
open Go.Proofs.Ytbjfhcbgghpdaaa.deep
set_option linter.unusedVariables false

theorem own : ownKnob Try.prog.godebug = none := by kernel_rfl
theorem laidOut : laidOutB Try.prog = true := by kernel_rfl

def SpecTells (l0 : Nat) (cs0 : Nat → Dv) (lr0 : Nat) (csr0 : Nat → Dv) (xr1 : Bool) : Prop := ∀ (W : World) (a0 : Option Addr) (cap0 : Nat), Holds W true (.l l0 2 cs0) (.slice a0 l0 cap0) → Calls Try.prog 19 #[.slice a0 l0 cap0] W fun e W' => ∃ g0 d0, e = .returned (.tuple #[.slice g0 lr0 d0, .bool xr1]) ∧ Holds W' false (.l lr0 1 csr0) (.slice g0 lr0 d0) ∧ Below W.heap.size W W'
def ImplTells (l0 : Nat) (cs0 : Nat → Dv) (lr0 : Nat) (csr0 : Nat → Dv) (xr1 : Bool) : Prop := ∀ (W : World) (a0 : Option Addr) (cap0 : Nat), Holds W true (.l l0 2 cs0) (.slice a0 l0 cap0) → Calls Try.prog 20 #[.slice a0 l0 cap0] W fun e W' => ∃ (g0 : Option Addr) (d0 : Nat) (F0 : Nat → Prop), e = .returned (.tuple #[.slice g0 lr0 d0, .bool xr1]) ∧ Owns W' false W.heap.size (.l lr0 1 csr0) (.slice g0 lr0 d0) F0 ∧ (∀ x, F0 x → W.heap.size ≤ x ∧ x < W'.heap.size) ∧ Below W.heap.size W W'
set_option maxHeartbeats 16000000 in
set_option maxRecDepth 100000 in
theorem walk_of (a0 : Option Addr) (cap0 : Nat) (l0 : Nat) (cs0 : Nat → Dv) (lr0 : Nat) (csr0 : Nat → Dv) (xr1 : Bool) (w : World) (hf0 : Hid (Fits shXCellS (.l l0 2 cs0))) (hn0 : Hid (Lens (.l l0 2 cs0))) (h0 : Hid (Holds w false (.l l0 2 cs0) (.slice a0 l0 cap0))) (hfr0 : Hid (Fits shI (.l lr0 1 csr0))) (hsx0 : Hid (szD (.l lr0 1 csr0) ≤ 100000)) (Hs : Hid (szD (.l l0 2 cs0) ≤ 1048576 → SpecTells l0 cs0 lr0 csr0 xr1)) (Hi : Hid (szD (.l l0 2 cs0) ≤ 1048576 → ImplTells l0 cs0 lr0 csr0 xr1)) :
    Calls Try.prog 6 #[.slice a0 l0 cap0] w fun e w' => e = .returned (.bool true) ∧ Below w.heap.size w w' := by
  have hsr0 : Hid (szD (.l lr0 1 csr0) ≤ 1048576) := Nat.le_trans hsx0.out (by decide)
  have pe1 : (xr1 != xr1) = false := by cases xr1 <;> rfl
  go_enter Try.func6, Try.ntmps6
  obtain ⟨z0, HZ0⟩ : ∃ z, Hid (szD (.l l0 2 cs0) = z) := ⟨_, rfl⟩
  go_wp2_with fail
  refine (XCellS_size _ _ _ cs0 (1048576) _ hf0 hn0 (by omega) (by omega)).mono ?_
  rw [HZ0.out]
  rintro e w' ⟨rfl, hw⟩
  rw [hw]
  clear hw w'
  by_cases ok0 : (z0 : Int) ≤ 1048576
  rotate_left
  · rw [if_neg ok0]
    go_wp2
    go_ret
    exact ⟨rfl, Below.refl _ _⟩
  rw [if_pos ok0]
  have left0 : 0 ≤ 1048576 - ((z0 : Int)) := by omega
  have hs0 : Hid (szD (.l l0 2 cs0) ≤ 1048576) := by show _ ≤ _; rw [HZ0.out]; omega
  have HS : Hid (SpecTells l0 cs0 lr0 csr0 xr1) := Hs.out hs0.out
  have HI : Hid (ImplTells l0 cs0 lr0 csr0 xr1) := Hi.out hs0.out
  clear Hs Hi
  go_wp2_with fail
  refine (XCellS_to _ _ _ cs0 false _ hf0 hs0 h0).mono ?_
  rintro e w1 ⟨rfl, hO, hB⟩
  have A0_1 : Hid (Owns w1 true w.heap.size (.l l0 2 cs0) (.slice (some ⟨w.heap.size, 0, none⟩) l0 l0) (rng w.heap.size w1.heap.size)) := hO
  have BW1 : Hid (Below w.heap.size w w1) := hB
  have SZ1 : Hid (w.heap.size ≤ w1.heap.size) := hB.size
  clear hO hB
  go_wp2_with fail
  refine (HS.out _ _ _ A0_1.out.holds).mono ?_
  rintro e w2 ⟨sa0, sc0, rfl, hS0, hB⟩
  have S0 : Hid (Holds w2 false (.l lr0 1 csr0) (.slice sa0 lr0 sc0)) := hS0
  have BW2 : Hid (Below w.heap.size w w2) := BW1.out.trans (hB.mono BW1.out.size)
  have SZ2 : Hid (w1.heap.size ≤ w2.heap.size) := hB.size
  clear hB hS0
  go_wp2_with fail
  refine (XCellS_to _ _ _ cs0 false _ hf0 hs0 (h0.out.kept BW2.out)).mono ?_
  rintro e w3 ⟨rfl, hO, hB⟩
  have X0_3 : Hid (Owns w3 true w2.heap.size (.l l0 2 cs0) (.slice (some ⟨w2.heap.size, 0, none⟩) l0 l0) (rng w2.heap.size w3.heap.size)) := hO
  have BW3 : Hid (Below w.heap.size w w3) := BW2.out.trans (hB.mono BW2.out.size)
  have SZ3 : Hid (w2.heap.size ≤ w3.heap.size) := hB.size
  have BS3 : Hid (Below w2.heap.size w2 w3) := hB
  clear hO hB
  go_wp2_with fail
  refine (HI.out _ _ _ X0_3.out.holds).mono ?_
  rintro e w4 ⟨ga0, gc0, gP0, rfl, hO0, hF0, hB⟩
  have G0_4 : Hid (Owns w4 false w3.heap.size (.l lr0 1 csr0) (.slice ga0 lr0 gc0) gP0) := hO0
  have GF0 : Hid (∀ x, gP0 x → w3.heap.size ≤ x ∧ x < w4.heap.size) := hF0
  have BW4 : Hid (Below w.heap.size w w4) := BW3.out.trans (hB.mono BW3.out.size)
  have SZ4 : Hid (w3.heap.size ≤ w4.heap.size) := hB.size
  have BS4 : Hid (Below w2.heap.size w2 w4) := BS3.out.trans (hB.mono BS3.out.size)
  have X0_4 : Hid (Owns w4 true w2.heap.size (.l l0 2 cs0) (.slice (some ⟨w2.heap.size, 0, none⟩) l0 l0) (rng w2.heap.size w3.heap.size)) := X0_3.out.kept hB
  clear hB hO0 hF0
  go_wp2_with fail
  refine (IntS_eq _ _ _ _ _ csr0 _ _ _ hfr0 (Nat.le_trans (Nat.le_add_right _ _) hsr0.out) G0_4.out.holds (S0.out.kept BS4.out)).mono ?_
  rintro e w5 ⟨rfl, hB⟩
  have BW5 : Hid (Below w.heap.size w w5) := BW4.out.trans (hB.mono BW4.out.size)
  have SZ5 : Hid (w4.heap.size ≤ w5.heap.size) := hB.size
  have BS5 : Hid (Below w2.heap.size w2 w5) := BS4.out.trans (hB.mono BS4.out.size)
  have X0_5 : Hid (Owns w5 true w2.heap.size (.l l0 2 cs0) (.slice (some ⟨w2.heap.size, 0, none⟩) l0 l0) (rng w2.heap.size w3.heap.size)) := X0_4.out.kept hB
  have G0_5 : Hid (Owns w5 false w3.heap.size (.l lr0 1 csr0) (.slice ga0 lr0 gc0) gP0) := G0_4.out.kept hB
  clear hB
  go_wp2_with fail
  refine (XCellS_to _ _ _ cs0 false _ hf0 hs0 (h0.out.kept BW5.out)).mono ?_
  rintro e w6 ⟨rfl, hO, hB⟩
  have Z0_6 : Hid (Owns w6 true w5.heap.size (.l l0 2 cs0) (.slice (some ⟨w5.heap.size, 0, none⟩) l0 l0) (rng w5.heap.size w6.heap.size)) := hO
  have BW6 : Hid (Below w.heap.size w w6) := BW5.out.trans (hB.mono BW5.out.size)
  have SZ6 : Hid (w5.heap.size ≤ w6.heap.size) := hB.size
  have BS6 : Hid (Below w2.heap.size w2 w6) := BS5.out.trans (hB.mono BS5.out.size)
  have X0_6 : Hid (Owns w6 true w2.heap.size (.l l0 2 cs0) (.slice (some ⟨w2.heap.size, 0, none⟩) l0 l0) (rng w2.heap.size w3.heap.size)) := X0_5.out.kept hB
  have G0_6 : Hid (Owns w6 false w3.heap.size (.l lr0 1 csr0) (.slice ga0 lr0 gc0) gP0) := G0_5.out.kept hB
  clear hO hB
  go_wp2_with fail
  refine (XCellS_eq _ _ _ _ _ cs0 _ _ _ hf0 hs0 X0_6.out.holds Z0_6.out.holds).mono ?_
  rintro e w7 ⟨rfl, hB⟩
  have BW7 : Hid (Below w.heap.size w w7) := BW6.out.trans (hB.mono BW6.out.size)
  have SZ7 : Hid (w6.heap.size ≤ w7.heap.size) := hB.size
  have BS7 : Hid (Below w2.heap.size w2 w7) := BS6.out.trans (hB.mono BS6.out.size)
  have X0_7 : Hid (Owns w7 true w2.heap.size (.l l0 2 cs0) (.slice (some ⟨w2.heap.size, 0, none⟩) l0 l0) (rng w2.heap.size w3.heap.size)) := X0_6.out.kept hB
  have G0_7 : Hid (Owns w7 false w3.heap.size (.l lr0 1 csr0) (.slice ga0 lr0 gc0) gP0) := G0_6.out.kept hB
  have Z0_7 : Hid (Owns w7 true w5.heap.size (.l l0 2 cs0) (.slice (some ⟨w5.heap.size, 0, none⟩) l0 l0) (rng w5.heap.size w6.heap.size)) := Z0_6.out.kept hB
  clear hB
  have hcn0 := cnt_le thin_XCellS hf0.out
  obtain ⟨N0, HN0⟩ : ∃ N, Hid (cntD (.l l0 2 cs0) = N) := ⟨_, rfl⟩
  have hN0 : N0 ≤ 8388609 := by have q := hs0.out; rw [HN0.out] at hcn0; omega
  clear hcn0
  go_wp2_with fail
  refine (XCellS_mark (1) (by omega) (by omega) _ _ _ cs0 true _ _ _ hf0 hs0 X0_7).mono ?_
  rw [HN0.out]
  rintro e w8 ⟨rfl, _, hF⟩
  have hB : Below w2.heap.size w7 w8 := hF.below (by have q3 := SZ3.out; have q4 := SZ4.out; have q5 := SZ5.out; have q6 := SZ6.out; have q7 := SZ7.out; omega) (fun x hx => hx.1)
  have BW8 : Hid (Below w.heap.size w w8) := BW7.out.trans (hB.mono BW2.out.size)
  have SZ8 : Hid (w7.heap.size ≤ w8.heap.size) := hB.size
  have BS8 : Hid (Below w2.heap.size w2 w8) := BS7.out.trans (hB.mono (Nat.le_refl _))
  have G0_8 : Hid (Owns w8 false w3.heap.size (.l lr0 1 csr0) (.slice ga0 lr0 gc0) gP0) := hF.owns (fun x hx hy => by have r1 := (GF0.out x hx).1; have r2 := hy.2;  omega) G0_7.out
  clear hF hB
  have hk : (0 : Int) ≤ 1 + (N0 : Int) := by omega
  go_wp2_with fail
  refine (IntS_eq _ _ _ _ _ csr0 _ _ _ hfr0 (Nat.le_trans (Nat.le_add_right _ _) hsr0.out) G0_8.out.holds (S0.out.kept BS8.out)).mono ?_
  rintro e w9 ⟨rfl, hB⟩
  have BW9 : Hid (Below w.heap.size w w9) := BW8.out.trans (hB.mono BW8.out.size)
  have SZ9 : Hid (w8.heap.size ≤ w9.heap.size) := hB.size
  have BS9 : Hid (Below w2.heap.size w2 w9) := BS8.out.trans (hB.mono BS8.out.size)
  have G0_9 : Hid (Owns w9 false w3.heap.size (.l lr0 1 csr0) (.slice ga0 lr0 gc0) gP0) := G0_8.out.kept hB
  clear hB
  have hcnr0 := cnt_le (s := shI) ⟨by decide, fun _ => trivial⟩ hfr0.out
  obtain ⟨M0, HM0⟩ : ∃ N, Hid (cntD (.l lr0 1 csr0) = N) := ⟨_, rfl⟩
  have hM0 : M0 ≤ 800001 := by have q := hsx0.out; rw [HM0.out] at hcnr0; omega
  clear hcnr0
  go_wp2_with fail
  refine (IntS_mark (1) (by omega) (by omega) _ _ _ csr0 false _ _ _ hfr0 (Nat.le_trans (Nat.le_add_right _ _) hsr0.out) G0_9).mono ?_
  rw [HM0.out]
  rintro e w10 ⟨rfl, hO0, hF⟩
  have hB : Below w3.heap.size w9 w10 := hF.below (by have q4 := SZ4.out; have q5 := SZ5.out; have q6 := SZ6.out; have q7 := SZ7.out; have q8 := SZ8.out; have q9 := SZ9.out; omega) (fun x hx => (GF0.out x hx).1)
  have BW10 : Hid (Below w.heap.size w w10) := BW9.out.trans (hB.mono BW3.out.size)
  have SZ10 : Hid (w9.heap.size ≤ w10.heap.size) := hB.size
  have BS10 : Hid (Below w2.heap.size w2 w10) := BS9.out.trans (hB.mono BS3.out.size)
  have G0_10 : Hid (Owns w10 false w3.heap.size (mkD (1) (.l lr0 1 csr0)) (.slice ga0 lr0 gc0) gP0) := hO0
  clear hF hB hO0
  have hm : (0 : Int) ≤ 1 + (M0 : Int) := by omega
  go_wp2_with fail
  refine (IntS_held (1) (by omega) (by omega) _ _ _ csr0 false _ hfr0 (Nat.le_trans (Nat.le_add_right _ _) hsr0.out) G0_10.out.holds).mono ?_
  rintro e w' ⟨rfl, hw⟩
  rw [hw, HM0.out]
  clear hw w'
  have hq10_0 : (0 : Int) ≤ 1 + (M0 : Int) := by omega
  go_wp2_with fail
  refine (XCellS_to _ _ _ cs0 false _ hf0 hs0 (h0.out.kept BW10.out)).mono ?_
  rintro e w11 ⟨rfl, hO, hB⟩
  have C0_11 : Hid (Owns w11 true w10.heap.size (.l l0 2 cs0) (.slice (some ⟨w10.heap.size, 0, none⟩) l0 l0) (rng w10.heap.size w11.heap.size)) := hO
  have BW11 : Hid (Below w.heap.size w w11) := BW10.out.trans (hB.mono BW10.out.size)
  have SZ11 : Hid (w10.heap.size ≤ w11.heap.size) := hB.size
  have BS11 : Hid (Below w2.heap.size w2 w11) := BS10.out.trans (hB.mono BS10.out.size)
  have G0_11 : Hid (Owns w11 false w3.heap.size (mkD (1) (.l lr0 1 csr0)) (.slice ga0 lr0 gc0) gP0) := G0_10.out.kept hB
  clear hO hB
  go_wp2_with fail
  refine (HI.out _ _ _ C0_11.out.holds).mono ?_
  rintro e w12 ⟨ha0, hc0, hP0, rfl, hO0, hF0, hB⟩
  have H0_12 : Hid (Owns w12 false w11.heap.size (.l lr0 1 csr0) (.slice ha0 lr0 hc0) hP0) := hO0
  have HF0 : Hid (∀ x, hP0 x → w11.heap.size ≤ x ∧ x < w12.heap.size) := hF0
  have BW12 : Hid (Below w.heap.size w w12) := BW11.out.trans (hB.mono BW11.out.size)
  have SZ12 : Hid (w11.heap.size ≤ w12.heap.size) := hB.size
  have BS12 : Hid (Below w2.heap.size w2 w12) := BS11.out.trans (hB.mono BS11.out.size)
  have G0_12 : Hid (Owns w12 false w3.heap.size (mkD (1) (.l lr0 1 csr0)) (.slice ga0 lr0 gc0) gP0) := G0_11.out.kept hB
  have C0_12 : Hid (Owns w12 true w10.heap.size (.l l0 2 cs0) (.slice (some ⟨w10.heap.size, 0, none⟩) l0 l0) (rng w10.heap.size w11.heap.size)) := C0_11.out.kept hB
  clear hB hO0 hF0
  go_wp2_with fail
  refine (IntS_eq _ _ _ _ _ csr0 _ _ _ hfr0 (Nat.le_trans (Nat.le_add_right _ _) hsr0.out) H0_12.out.holds (S0.out.kept BS12.out)).mono ?_
  rintro e w13 ⟨rfl, hB⟩
  have BW13 : Hid (Below w.heap.size w w13) := BW12.out.trans (hB.mono BW12.out.size)
  have SZ13 : Hid (w12.heap.size ≤ w13.heap.size) := hB.size
  have BS13 : Hid (Below w2.heap.size w2 w13) := BS12.out.trans (hB.mono BS12.out.size)
  have G0_13 : Hid (Owns w13 false w3.heap.size (mkD (1) (.l lr0 1 csr0)) (.slice ga0 lr0 gc0) gP0) := G0_12.out.kept hB
  have H0_13 : Hid (Owns w13 false w11.heap.size (.l lr0 1 csr0) (.slice ha0 lr0 hc0) hP0) := H0_12.out.kept hB
  clear hB
  go_wp2_with fail
  refine (IntS_held (1) (by omega) (by omega) _ _ _ csr0 false _ hfr0 (Nat.le_trans (Nat.le_add_right _ _) hsr0.out) G0_13.out.holds).mono ?_
  rintro e w' ⟨rfl, hw⟩
  rw [hw, HM0.out]
  clear hw w'
  have hq13_0 : (0 : Int) ≤ 1 + (M0 : Int) := by omega
  go_wp2
  go_ret
  exact ⟨rfl, BW13.out⟩
theorem walk (a0 : Option Addr) (l0 cap0 : Nat) (cs0 : Nat → Dv) (w : World) (h0 : Holds w false (.l l0 2 cs0) (.slice a0 l0 cap0)) (f0 : Fits shXCellS (.l l0 2 cs0)) (n0 : Lens (.l l0 2 cs0)) :
    Calls Try.prog 6 #[.slice a0 l0 cap0] w fun e w' => e = .returned (.bool true) ∧ Below w.heap.size w w' := by
  have HF := fits_X2 f0
  obtain ⟨R, HR⟩ : ∃ R, Hid (treeX (kdX (intsOf cs0 (l0 * 2))) (nnX (intsOf cs0 (l0 * 2))) l0 = R) := ⟨_, rfl⟩
  obtain ⟨G, HG⟩ : ∃ G, Hid (mayL R = G) := ⟨_, rfl⟩
  have h10 : G.length ≤ 10 := by rw [← HG.out]; exact mayL_few R
  refine walk_of a0 cap0 l0 cs0 G.length (fun i => .n (G.getD i 0)) R.isSome w f0 n0 h0 ⟨rfl, fun i hi => trivial⟩ (by show _ + sumTo _ _ ≤ 100000; rw [sz_flat _ (fun i _ => ⟨_, rfl⟩)]; omega) (fun hs => ?_) (fun hs => ?_)
  · intro W a cap hh
    have h0 : l0 ≤ 1048576 := Nat.le_trans (Nat.le_add_right _ _) hs
    refine (spec_mayraise a l0 cap (intsOf cs0 (l0 * 2)) W (by show _ = _; rw [intsOf_len]) h0 (holds_ints hh HF) R HR).mono (fun e W' q => ?_)
    obtain ⟨v, q, hL, hB⟩ := q
    rw [HG.out] at hL
    obtain ⟨g, dd, rfl, hi⟩ := hL.ints
    refine ⟨g, dd, q, ?_, hB⟩
    exact ints_holds (c := false) (sz := 1) hi (by rw [Nat.mul_one]) (fun q => by cases q)
  · intro W a cap hh
    obtain ⟨a', cap', e, hc, _⟩ := id hh
    simp only [Value.slice.injEq, true_and] at e
    obtain ⟨rfl, rfl⟩ := e
    refine (impl_mayraise a l0 cap (intsOf cs0 (l0 * 2)) W (by show _ = _; rw [intsOf_len]) (hc rfl).1 (hc rfl).2 (holds_ints hh HF) R HR).mono (fun e W' q => ?_)
    obtain ⟨v, q, hO, hB⟩ := q
    rw [HG.out] at hO
    obtain ⟨g, dd, rfl, ho⟩ := ints_row (n := G.length) hO (es := fun i => .n (G.getD i 0)) rfl (fun i hi => rfl)
    exact ⟨g, dd, _, q, ho, (fun x e => World.ownsRow.lt hO x e), hB⟩

set_option maxRecDepth 100000 in
set_option maxHeartbeats 4000000 in
theorem lifted (os : Os) (started : os.Started) (H : Type) (enc : TypeId × Value → H) :
    ReturnsInHanded {} Try.checked os 6 .any (Rows.fnExactMayRaiseSpec.pre6 enc Try.prog Try.f6 Rows.fnExactMayRaiseRow.domain false) (Rows.fnExactMayRaiseSpec.post enc Try.prog Try.f6 false true false false) := by
  refine returnsInHanded_of_change_sized (C := Try.checked) own started (by kernel_rfl) Try.func6
    (ChangeSpec.witness6 (enc := enc) (C := Try.checked) false ⟨#[], #[.slice none 0 0], []⟩ 8 (by kernel_rfl) (by kernel_rfl) (by kernel_rfl) (by kernel_rfl)) ?_
  intro W base args ds gs before hval0 hW hcnd hsz0 _
  have hval : ∀ (j : Nat) t v, Try.f6.params[j]? = some t → args[j]? = some v → Value.okWide Try.prog W .any base t v := hval0
  have hW' := hW
  obtain ⟨p, q, hA0, hV, rfl, hfz, hnd⟩ := hW
  have hsz : (DataW.weightsEach Try.prog (Try.f6.params.toList ++ Rows.fnExactMayRaiseSpec.plain.varTypes Try.prog) (ds ++ gs)).all (· ≤ reachBytes) = true := hsz0
  have hA : DataW.TrodAll enc Try.prog W 0 (fun _ => true) true Try.f6.params.toList args.toList ds p := hA0
  rw [Try.params6] at hA hval hsz
  obtain ⟨v0, vs0, d0, ds0, p0, q0, hargs, rfl, rfl, h0, r0⟩ := trodAll_cons hA
  obtain ⟨rfl, rfl, rfl⟩ := trodAll_nil r0
  obtain rfl : args = #[v0] := by cases args; simp_all
  obtain ⟨rfl, rfl⟩ := trodVars_none hV
  obtain ⟨a0, l0, cap0, rfl⟩ := okWide_slice Try.underlying22 (hval 0 22 v0 rfl rfl)
  have k0 := h0
  have lt0 : ∀ x ∈ p0, x.block < W.heap.size := by obtain ⟨m, hm⟩ := k0; exact DataW.trod_lt m _ _ _ hm
  obtain ⟨cs0, w0, f0, n0⟩ := open_list (show Matches Try.prog shXCellS 22 from ⟨59, Try.underlying22, (show Try.prog.cellsOf 59 = 2 by kernel_rfl), by decide, Or.inr ⟨_, Try.underlying59, rfl, (fun i f h => by
    match i, h with
    | 0, h => obtain rfl := Option.some.inj h; exact ⟨rfl, (show Try.prog.cellsOf 3 = 1 by kernel_rfl), Try.underlying3⟩
    | 1, h => obtain rfl := Option.some.inj h; exact ⟨rfl, (show Try.prog.cellsOf 3 = 1 by kernel_rfl), Try.underlying3⟩
    | i + 2, h => simp at h)⟩⟩) h0
  clear hA0 hval0
  refine (walk a0 l0 cap0 cs0 W w0 f0 n0).mono fun e W' ⟨he, bel⟩ => ?_
  subst he
  exact ⟨_, rfl, _, _, _, [], _, [], hW', trodAll_mk1 (shut_bool Try.underlying4 _), (trodAll_cons_mk (Below.trod laidOut (by kernel_rfl) (of_decide_eq_true (by kernel_rfl)) k0 bel lt0) trodAll_mk0), rfl, bel.frame _, fun h => by cases h⟩

theorem over : Rows.fnExactMayRaiseRow.holds Try.pinned (OpenSpec.ofChange Rows.fnExactMayRaiseSpec) :=
  OpenClaim.holds_of_wide 6 Try.f6 rfl rfl rfl rfl rfl rfl rfl ⟨rfl, rfl, rfl, rfl, rfl⟩ rfl rfl rfl rfl rfl (by kernel_rfl) Try.func6 (by kernel_rfl)
    (of_decide_eq_true (by kernel_rfl)) (by unfold Func.isWrapper; first | (rw [if_pos (by decide +kernel)]; kernel_rfl) | (rw [if_neg (by decide +kernel)]; exact ⟨rfl, rfl⟩))
    (fun os started H enc _ => lifted os started H enc)

theorem proved : Rows.FnExactMayRaiseSaid :=
  over
#print axioms proved
end Go.Proofs.Ytbjfhcbgghpdaaa.fnExactMayRaise
