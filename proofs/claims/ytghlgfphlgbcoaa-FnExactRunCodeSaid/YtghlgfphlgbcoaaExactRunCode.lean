/-
  Of every list of steps and every list of words: the program runs the code as the specification does (what is told, and the words in the end), each time in memory of its own; it writes into nothing that was there.
-/
import Derived.Test.YtghlgfphlgbcoaaRows
import Derived.WalkKit
import Derived.ProofKit
import Derived.OpenShut
import Derived.ShutString
import Derived.ChangeOld
import Derived.Below
import Derived.Carry
import Derived.SizedLaws
import Derived.Test.YtghlgfphlgbcoaaOpenFlat
import Derived.Test.YtghlgfphlgbcoaaMagMath
import Derived.Test.YtghlgfphlgbcoaaCodeMath
import Derived.Test.YtghlgfphlgbcoaaRunMath
import Derived.Test.YtghlgfphlgbcoaaInts
import Derived.Test.YtghlgfphlgbcoaaOwnInts
import Derived.Test.YtghlgfphlgbcoaaRecsInstr
import Derived.Test.YtghlgfphlgbcoaaMarks
import Derived.Test.YtghlgfphlgbcoaaCodeGood
import Derived.Test.YtghlgfphlgbcoaaCodeRun
import Derived.Test.YtghlgfphlgbcoaaSpecRun
import Derived.Test.YtghlgfphlgbcoaaStepsOf
import Derived.Test.YtghlgfphlgbcoaaRunImpl
namespace Go.Proofs.Ytghlgfphlgbcoaa.fnExactRunCode
open Go.ChangeShapes Go.WideShapes Go.ChangeAt Go.RowKit
open Go.ChangeMaps (open_string shut_string)
open Go.Proofs.Ytghlgfphlgbcoaa.math
open Go.Proofs.Ytghlgfphlgbcoaa.ints
open Go.Proofs.Ytghlgfphlgbcoaa.walks
set_option linter.unusedVariables false

theorem own : ownKnob Try.prog.godebug = none := by kernel_rfl
theorem laidOut : laidOutB Try.prog = true := by kernel_rfl

/-- What is known of a slice of integers that came in: it is nil, or leads to a row of cells, the numbers zs, each fitting its kind. -/
def IsRow (k : IntKind) (w : World) (a : Option Addr) (len cap : Nat) (zs : List Int) : Prop :=
  (a = none ∧ len = 0 ∧ cap = 0 ∧ zs = []) ∨
  ∃ x, a = some x ∧ len ≤ cap ∧ cap ≤ maxLen ∧ zs.length = cap ∧ (∀ i, i < zs.length → w.cell? (x.add i) = some (.int k (zs.getD i 0))) ∧ ∀ n ∈ zs, (Lit.int k n).wf = true

theorem ints_of {w : World} {a : Option Addr} {len cap : Nat} {zs : List Int} (h : IsRow .i64 w a len cap zs) : ∃ ys : List Int, ys.length = len ∧ Ints w a ys := by
  rcases h with ⟨_, rfl, _, _⟩ | ⟨x, rfl, hl, hm, hz, hcell, hwz⟩
  · exact ⟨[], rfl, Or.inl rfl⟩
  · obtain ⟨b, off, spot⟩ := x
    refine ⟨zs.take len, by simp; omega, ?_⟩
    by_cases h0 : len = 0
    · left; rw [h0]; simp
    · have hc := hcell 0 (by omega)
      have hspot : spot = none := by simpa [Addr.add] using World.cell?_spot hc
      subst hspot
      have hb : b < w.heap.size := by simpa [Addr.add] using World.block_lt_of_cell? w _ hc
      refine Or.inr ⟨b, off, rfl, hb, fun i hi => ?_⟩
      simp at hi
      have ha : (⟨b, off, none⟩ : Addr).add i = ⟨b, off + i, none⟩ := by
        unfold Addr.add
        split
        · rename_i h; subst h; rfl
        · rfl
      have hc1 := hcell i (by omega)
      rw [ha] at hc1
      rw [hc1]
      have hi2 : i < len := by omega
      have e : (zs.take len).getD i 0 = zs.getD i 0 := by simp [List.getD, hi2]
      rw [e]
set_option maxRecDepth 100000 in
set_option maxHeartbeats 2000000 in
def SpecTells (len0 : Nat) (y0 : List Int) (len1 : Nat) (y1 : List Int) (r0 : List Int) (t0 : Nat) (r1 : List Int) (t1 : Nat) (c : Bool) : Prop := ∀ (W : World) (a0 : Option Addr) (cap0 : Nat) (a1 : Option Addr) (cap1 : Nat), Ints W a0 y0 → Ints W a1 y1 → Calls Try.prog 29 #[.slice a0 len0 cap0, .slice a1 len1 cap1] W fun e W' => ∃ g0 d0 g1 d1, e = .returned (.tuple #[.slice g0 t0 d0, .slice g1 t1 d1, .bool c]) ∧ Ints W' g0 r0 ∧ Ints W' g1 r1 ∧ Below W.heap.size W W'
def ImplTells (len0 : Nat) (y0 : List Int) (len1 : Nat) (y1 : List Int) (r0 : List Int) (t0 : Nat) (r1 : List Int) (t1 : Nat) (c : Bool) : Prop := ∀ (W : World) (a0 : Option Addr) (cap0 : Nat) (a1 : Option Addr) (cap1 : Nat), Ints W a0 y0 → Ints W a1 y1 → Calls Try.prog 31 #[.slice a0 len0 cap0, .slice a1 len1 cap1] W fun e W' => ∃ g0 d0 g1 d1, e = .returned (.tuple #[.slice g0 t0 d0, .slice g1 t1 d1, .bool c]) ∧ Mine W' W.heap.size g0 r0 ∧ Mine W' W.heap.size g1 r1 ∧ Apart g0 g1 ∧ Below W.heap.size W W'
set_option maxHeartbeats 16000000 in
set_option maxRecDepth 100000 in
theorem walk_of (a0 : Option Addr) (cap0 : Nat) (a1 : Option Addr) (cap1 : Nat) (len0 : Nat) (y0 : List Int) (len1 : Nat) (y1 : List Int) (r0 : List Int) (t0 : Nat) (r1 : List Int) (t1 : Nat) (c : Bool) (w : World) (hz0 : Hid (y0.length = len0 * 5)) (hl0 : len0 ≤ 1048576) (h0 : Hid (Ints w a0 y0)) (hz1 : Hid (y1.length = len1)) (hl1 : len1 ≤ 1048576) (h1 : Hid (Ints w a1 y1)) (hr0 : Hid (r0.length = t0)) (ht0 : t0 ≤ 1048576) (hr1 : Hid (r1.length = t1)) (ht1 : t1 ≤ 1048576) (Hs : Hid (SpecTells len0 y0 len1 y1 r0 t0 r1 t1 c)) (Hi : Hid (ImplTells len0 y0 len1 y1 r0 t0 r1 t1 c)) :
    Calls Try.prog 5 #[.slice a0 len0 cap0, .slice a1 len1 cap1] w fun e w' => e = .returned (.bool true) ∧ Below w.heap.size w w' := by
  have hL0 : (len0 : Int) ≤ 1048576 := by omega
  have hN0 : (0 : Int) ≤ (len0 : Int) := Int.natCast_nonneg _
  have hL1 : (len1 : Int) ≤ 1048576 := by omega
  have hN1 : (0 : Int) ≤ (len1 : Int) := Int.natCast_nonneg _
  have hT0 : (t0 : Int) ≤ 1048576 := by omega
  have hU0 : (0 : Int) ≤ (t0 : Int) := Int.natCast_nonneg _
  have hT1 : (t1 : Int) ≤ 1048576 := by omega
  have hU1 : (0 : Int) ≤ (t1 : Int) := Int.natCast_nonneg _
  go_enter Try.func5, Try.ntmps5
  go_wp2_with fail
  refine (Instr_size _ _ _ _ _ (by omega) (by omega) (by omega)).mono ?_
  rw [if_pos (by omega)]
  rintro e w' ⟨rfl, hw⟩
  rw [hw]
  clear hw w'
  have hleft0 : 0 ≤ (1048576 : Int) - (len0 : Int) := by omega
  go_wp2_with fail
  refine (Instr_list _ _ _ y0 _ hz0 hl0 h0).mono ?_
  rintro e w1 ⟨rfl, hM, hB⟩
  have A0_1 : Hid (Mine w1 w.heap.size (some ⟨w.heap.size, 0, none⟩) y0) := hM
  have BW1 : Hid (Below w.heap.size w w1) := hB
  clear hM hB
  go_wp2_with fail
  refine (to_ints _ _ _ y1 _ hz1 hl1 (h1.out.kept BW1.out)).mono ?_
  rintro e w2 ⟨rfl, hM, hB⟩
  have A1_2 : Hid (Mine w2 w1.heap.size (some ⟨w1.heap.size, 0, none⟩) y1) := hM
  have BW2 : Hid (Below w.heap.size w w2) := BW1.out.trans (hB.mono BW1.out.size)
  have A0_2 : Hid (Mine w2 w.heap.size (some ⟨w.heap.size, 0, none⟩) y0) := A0_1.out.kept hB
  clear hM hB
  go_wp2_with fail
  refine (Hs.out _ _ _ _ _ A0_2.out.ints A1_2.out.ints).mono ?_
  rintro e w3 ⟨sa0, sc0, sa1, sc1, rfl, hS0, hS1, hB⟩
  have S0 : Hid (Ints w3 sa0 r0) := hS0
  have S1 : Hid (Ints w3 sa1 r1) := hS1
  have BW3 : Hid (Below w.heap.size w w3) := BW2.out.trans (hB.mono BW2.out.size)
  clear hB hS0 hS1
  go_wp2_with fail
  refine (Instr_list _ _ _ y0 _ hz0 hl0 (h0.out.kept BW3.out)).mono ?_
  rintro e w4 ⟨rfl, hM, hB⟩
  have X0_4 : Hid (Mine w4 w3.heap.size (some ⟨w3.heap.size, 0, none⟩) y0) := hM
  have BW4 : Hid (Below w.heap.size w w4) := BW3.out.trans (hB.mono BW3.out.size)
  have BS4 : Hid (Below w3.heap.size w3 w4) := hB
  have SZ4 : Hid (w3.heap.size ≤ w4.heap.size) := hB.size
  have HX0 : Hid (0 < len0 → w3.heap.size < w4.heap.size) := fun h0 => mine_lt hM (by have := hz0.out; omega)
  clear hM hB
  go_wp2_with fail
  refine (to_ints _ _ _ y1 _ hz1 hl1 (h1.out.kept BW4.out)).mono ?_
  rintro e w5 ⟨rfl, hM, hB⟩
  have X1_5 : Hid (Mine w5 w4.heap.size (some ⟨w4.heap.size, 0, none⟩) y1) := hM
  have BW5 : Hid (Below w.heap.size w w5) := BW4.out.trans (hB.mono BW4.out.size)
  have BS5 : Hid (Below w3.heap.size w3 w5) := BS4.out.trans (hB.mono BS4.out.size)
  have SZ5 : Hid (w4.heap.size ≤ w5.heap.size) := hB.size
  have X0_5 : Hid (Mine w5 w3.heap.size (some ⟨w3.heap.size, 0, none⟩) y0) := X0_4.out.kept hB
  have HX1 : Hid (0 < len1 → w4.heap.size < w5.heap.size) := fun h0 => mine_lt hM (by have := hz1.out; omega)
  clear hM hB
  go_wp2_with fail
  refine (Hi.out _ _ _ _ _ X0_5.out.ints X1_5.out.ints).mono ?_
  rintro e w6 ⟨ga0, gc0, ga1, gc1, rfl, hM0, hM1, hA01, hB⟩
  have G0_6 : Hid (Mine w6 w5.heap.size ga0 r0) := hM0
  have G1_6 : Hid (Mine w6 w5.heap.size ga1 r1) := hM1
  have GA01 : Hid (Apart ga0 ga1) := hA01
  have BW6 : Hid (Below w.heap.size w w6) := BW5.out.trans (hB.mono BW5.out.size)
  have BS6 : Hid (Below w3.heap.size w3 w6) := BS5.out.trans (hB.mono BS5.out.size)
  have SZ6 : Hid (w5.heap.size ≤ w6.heap.size) := hB.size
  have X0_6 : Hid (Mine w6 w3.heap.size (some ⟨w3.heap.size, 0, none⟩) y0) := X0_5.out.kept hB
  have X1_6 : Hid (Mine w6 w4.heap.size (some ⟨w4.heap.size, 0, none⟩) y1) := X1_5.out.kept hB
  clear hB hM0 hM1 hA01
  go_wp2_with fail
  refine (eq_ints _ _ _ _ _ r0 _ hr0 ht0 G0_6.out.ints (S0.out.kept BS6.out)).mono ?_
  rintro e w7 ⟨rfl, hB⟩
  have BW7 : Hid (Below w.heap.size w w7) := BW6.out.trans (hB.mono BW6.out.size)
  have BS7 : Hid (Below w3.heap.size w3 w7) := BS6.out.trans (hB.mono BS6.out.size)
  have SZ7 : Hid (w6.heap.size ≤ w7.heap.size) := hB.size
  have X0_7 : Hid (Mine w7 w3.heap.size (some ⟨w3.heap.size, 0, none⟩) y0) := X0_6.out.kept hB
  have X1_7 : Hid (Mine w7 w4.heap.size (some ⟨w4.heap.size, 0, none⟩) y1) := X1_6.out.kept hB
  have G0_7 : Hid (Mine w7 w5.heap.size ga0 r0) := G0_6.out.kept hB
  have G1_7 : Hid (Mine w7 w5.heap.size ga1 r1) := G1_6.out.kept hB
  clear hB
  go_wp2_with fail
  refine (eq_ints _ _ _ _ _ r1 _ hr1 ht1 G1_7.out.ints (S1.out.kept BS7.out)).mono ?_
  rintro e w8 ⟨rfl, hB⟩
  have BW8 : Hid (Below w.heap.size w w8) := BW7.out.trans (hB.mono BW7.out.size)
  have BS8 : Hid (Below w3.heap.size w3 w8) := BS7.out.trans (hB.mono BS7.out.size)
  have SZ8 : Hid (w7.heap.size ≤ w8.heap.size) := hB.size
  have X0_8 : Hid (Mine w8 w3.heap.size (some ⟨w3.heap.size, 0, none⟩) y0) := X0_7.out.kept hB
  have X1_8 : Hid (Mine w8 w4.heap.size (some ⟨w4.heap.size, 0, none⟩) y1) := X1_7.out.kept hB
  have G0_8 : Hid (Mine w8 w5.heap.size ga0 r0) := G0_7.out.kept hB
  have G1_8 : Hid (Mine w8 w5.heap.size ga1 r1) := G1_7.out.kept hB
  clear hB
  go_wp2_with fail
  refine (Instr_list _ _ _ y0 _ hz0 hl0 (h0.out.kept BW8.out)).mono ?_
  rintro e w9 ⟨rfl, hM, hB⟩
  have Z0_9 : Hid (Mine w9 w8.heap.size (some ⟨w8.heap.size, 0, none⟩) y0) := hM
  have BW9 : Hid (Below w.heap.size w w9) := BW8.out.trans (hB.mono BW8.out.size)
  have BS9 : Hid (Below w3.heap.size w3 w9) := BS8.out.trans (hB.mono BS8.out.size)
  have SZ9 : Hid (w8.heap.size ≤ w9.heap.size) := hB.size
  have X0_9 : Hid (Mine w9 w3.heap.size (some ⟨w3.heap.size, 0, none⟩) y0) := X0_8.out.kept hB
  have X1_9 : Hid (Mine w9 w4.heap.size (some ⟨w4.heap.size, 0, none⟩) y1) := X1_8.out.kept hB
  have G0_9 : Hid (Mine w9 w5.heap.size ga0 r0) := G0_8.out.kept hB
  have G1_9 : Hid (Mine w9 w5.heap.size ga1 r1) := G1_8.out.kept hB
  clear hM hB
  go_wp2_with fail
  refine (Instr_same _ _ _ _ _ y0 _ hz0 hl0 X0_9.out.ints Z0_9.out.ints).mono ?_
  rintro e w10 ⟨rfl, hB⟩
  have BW10 : Hid (Below w.heap.size w w10) := BW9.out.trans (hB.mono BW9.out.size)
  have BS10 : Hid (Below w3.heap.size w3 w10) := BS9.out.trans (hB.mono BS9.out.size)
  have SZ10 : Hid (w9.heap.size ≤ w10.heap.size) := hB.size
  have X0_10 : Hid (Mine w10 w3.heap.size (some ⟨w3.heap.size, 0, none⟩) y0) := X0_9.out.kept hB
  have X1_10 : Hid (Mine w10 w4.heap.size (some ⟨w4.heap.size, 0, none⟩) y1) := X1_9.out.kept hB
  have G0_10 : Hid (Mine w10 w5.heap.size ga0 r0) := G0_9.out.kept hB
  have G1_10 : Hid (Mine w10 w5.heap.size ga1 r1) := G1_9.out.kept hB
  have Z0_10 : Hid (Mine w10 w8.heap.size (some ⟨w8.heap.size, 0, none⟩) y0) := Z0_9.out.kept hB
  clear hB
  go_wp2_with fail
  refine (to_ints _ _ _ y1 _ hz1 hl1 (h1.out.kept BW10.out)).mono ?_
  rintro e w11 ⟨rfl, hM, hB⟩
  have Z1_11 : Hid (Mine w11 w10.heap.size (some ⟨w10.heap.size, 0, none⟩) y1) := hM
  have BW11 : Hid (Below w.heap.size w w11) := BW10.out.trans (hB.mono BW10.out.size)
  have BS11 : Hid (Below w3.heap.size w3 w11) := BS10.out.trans (hB.mono BS10.out.size)
  have SZ11 : Hid (w10.heap.size ≤ w11.heap.size) := hB.size
  have X0_11 : Hid (Mine w11 w3.heap.size (some ⟨w3.heap.size, 0, none⟩) y0) := X0_10.out.kept hB
  have X1_11 : Hid (Mine w11 w4.heap.size (some ⟨w4.heap.size, 0, none⟩) y1) := X1_10.out.kept hB
  have G0_11 : Hid (Mine w11 w5.heap.size ga0 r0) := G0_10.out.kept hB
  have G1_11 : Hid (Mine w11 w5.heap.size ga1 r1) := G1_10.out.kept hB
  clear hM hB
  go_wp2_with fail
  refine (eq_ints _ _ _ _ _ y1 _ hz1 hl1 X1_11.out.ints Z1_11.out.ints).mono ?_
  rintro e w12 ⟨rfl, hB⟩
  have BW12 : Hid (Below w.heap.size w w12) := BW11.out.trans (hB.mono BW11.out.size)
  have BS12 : Hid (Below w3.heap.size w3 w12) := BS11.out.trans (hB.mono BS11.out.size)
  have SZ12 : Hid (w11.heap.size ≤ w12.heap.size) := hB.size
  have X0_12 : Hid (Mine w12 w3.heap.size (some ⟨w3.heap.size, 0, none⟩) y0) := X0_11.out.kept hB
  have X1_12 : Hid (Mine w12 w4.heap.size (some ⟨w4.heap.size, 0, none⟩) y1) := X1_11.out.kept hB
  have G0_12 : Hid (Mine w12 w5.heap.size ga0 r0) := G0_11.out.kept hB
  have G1_12 : Hid (Mine w12 w5.heap.size ga1 r1) := G1_11.out.kept hB
  have Z1_12 : Hid (Mine w12 w10.heap.size (some ⟨w10.heap.size, 0, none⟩) y1) := Z1_11.out.kept hB
  clear hB
  go_wp2_with fail
  refine (Instr_mark2 _ _ _ y0 _ _ hz0 hl0 X0_12).mono ?_
  rintro e w13 ⟨rfl, _, hO⟩
  have BW13 : Hid (Below w.heap.size w w13) := BW12.out.trans (hO.below.mono BW3.out.size)
  have BS13 : Hid (Below w3.heap.size w3 w13) := BS12.out.trans (hO.below.mono (Nat.le_refl _))
  have X1_13 : Hid (Mine w13 w4.heap.size (some ⟨w4.heap.size, 0, none⟩) y1) := hO.new (fun h0 => by have q := HX0.out h0;  omega) X1_12.out
  have G0_13 : Hid (Mine w13 w5.heap.size ga0 r0) := hO.new (fun h0 => by have q := HX0.out h0; have q5 := SZ5.out; omega) G0_12.out
  have G1_13 : Hid (Mine w13 w5.heap.size ga1 r1) := hO.new (fun h0 => by have q := HX0.out h0; have q5 := SZ5.out; omega) G1_12.out
  clear hO
  go_wp2_with fail
  refine (mark_from ((len0 : Int) * 5 + 1) (by omega) (by omega) _ _ _ y1 _ _ hz1 hl1 X1_13).mono ?_
  rintro e w14 ⟨rfl, _, hO⟩
  have BW14 : Hid (Below w.heap.size w w14) := BW13.out.trans (hO.below.mono BW4.out.size)
  have BS14 : Hid (Below w3.heap.size w3 w14) := BS13.out.trans (hO.below.mono BS4.out.size)
  have G0_14 : Hid (Mine w14 w5.heap.size ga0 r0) := hO.new (fun h0 => by have q := HX1.out h0;  omega) G0_13.out
  have G1_14 : Hid (Mine w14 w5.heap.size ga1 r1) := hO.new (fun h0 => by have q := HX1.out h0;  omega) G1_13.out
  clear hO
  have hk : (0 : Int) ≤ (((len0 : Int) * 5 + 1) + (len1 : Int)) := by omega
  go_wp2_with fail
  refine (eq_ints _ _ _ _ _ r0 _ hr0 ht0 G0_14.out.ints (S0.out.kept BS14.out)).mono ?_
  rintro e w15 ⟨rfl, hB⟩
  have BW15 : Hid (Below w.heap.size w w15) := BW14.out.trans (hB.mono BW14.out.size)
  have BS15 : Hid (Below w3.heap.size w3 w15) := BS14.out.trans (hB.mono BS14.out.size)
  have SZ15 : Hid (w14.heap.size ≤ w15.heap.size) := hB.size
  have G0_15 : Hid (Mine w15 w5.heap.size ga0 r0) := G0_14.out.kept hB
  have G1_15 : Hid (Mine w15 w5.heap.size ga1 r1) := G1_14.out.kept hB
  clear hB
  go_wp2_with fail
  refine (eq_ints _ _ _ _ _ r1 _ hr1 ht1 G1_15.out.ints (S1.out.kept BS15.out)).mono ?_
  rintro e w16 ⟨rfl, hB⟩
  have BW16 : Hid (Below w.heap.size w w16) := BW15.out.trans (hB.mono BW15.out.size)
  have BS16 : Hid (Below w3.heap.size w3 w16) := BS15.out.trans (hB.mono BS15.out.size)
  have SZ16 : Hid (w15.heap.size ≤ w16.heap.size) := hB.size
  have G0_16 : Hid (Mine w16 w5.heap.size ga0 r0) := G0_15.out.kept hB
  have G1_16 : Hid (Mine w16 w5.heap.size ga1 r1) := G1_15.out.kept hB
  clear hB
  go_wp2_with fail
  refine (mark_from 1 (by omega) (by omega) _ _ _ r0 _ _ hr0 ht0 G0_16).mono ?_
  rintro e w17 ⟨rfl, hM, hO⟩
  have BW17 : Hid (Below w.heap.size w w17) := BW16.out.trans (hO.below.mono BW5.out.size)
  have BS17 : Hid (Below w3.heap.size w3 w17) := BS16.out.trans (hO.below.mono BS5.out.size)
  have G0_17 : Hid (Mine w17 w5.heap.size ga0 (upFrom 1 t0)) := hM
  have G1_17 : Hid (Mine w17 w5.heap.size ga1 r1) := hO.mine G1_16.out GA01.out
  clear hM hO
  go_wp2_with fail
  refine (mark_from (1 + (t0 : Int)) (by omega) (by omega) _ _ _ r1 _ _ hr1 ht1 G1_17).mono ?_
  rintro e w18 ⟨rfl, hM, hO⟩
  have BW18 : Hid (Below w.heap.size w w18) := BW17.out.trans (hO.below.mono BW5.out.size)
  have BS18 : Hid (Below w3.heap.size w3 w18) := BS17.out.trans (hO.below.mono BS5.out.size)
  have G1_18 : Hid (Mine w18 w5.heap.size ga1 (upFrom (1 + (t0 : Int)) t1)) := hM
  have G0_18 : Hid (Mine w18 w5.heap.size ga0 (upFrom 1 t0)) := hO.mine G0_17.out GA01.out.symm
  clear hM hO
  go_wp2_with fail
  refine (held_from 1 (by omega) (by omega) _ _ _ _ ht0 G0_18.out.ints).mono ?_
  rintro e w' ⟨rfl, hw⟩
  rw [hw]
  clear hw w'
  have hq18_0 : (0 : Int) ≤ (1 + (t0 : Int)) := by omega
  go_wp2_with fail
  refine (held_from (1 + (t0 : Int)) (by omega) (by omega) _ _ _ _ ht1 G1_18.out.ints).mono ?_
  rintro e w' ⟨rfl, hw⟩
  rw [hw]
  clear hw w'
  have hq18_1 : (0 : Int) ≤ ((1 + (t0 : Int)) + (t1 : Int)) := by omega
  go_wp2_with fail
  refine (Instr_list _ _ _ y0 _ hz0 hl0 (h0.out.kept BW18.out)).mono ?_
  rintro e w19 ⟨rfl, hM, hB⟩
  have A0_19 : Hid (Mine w19 w18.heap.size (some ⟨w18.heap.size, 0, none⟩) y0) := hM
  have BW19 : Hid (Below w.heap.size w w19) := BW18.out.trans (hB.mono BW18.out.size)
  have BS19 : Hid (Below w3.heap.size w3 w19) := BS18.out.trans (hB.mono BS18.out.size)
  have SZ19 : Hid (w18.heap.size ≤ w19.heap.size) := hB.size
  have G0_19 : Hid (Mine w19 w5.heap.size ga0 (upFrom 1 t0)) := G0_18.out.kept hB
  have G1_19 : Hid (Mine w19 w5.heap.size ga1 (upFrom (1 + (t0 : Int)) t1)) := G1_18.out.kept hB
  clear hM hB
  go_wp2_with fail
  refine (to_ints _ _ _ y1 _ hz1 hl1 (h1.out.kept BW19.out)).mono ?_
  rintro e w20 ⟨rfl, hM, hB⟩
  have A1_20 : Hid (Mine w20 w19.heap.size (some ⟨w19.heap.size, 0, none⟩) y1) := hM
  have BW20 : Hid (Below w.heap.size w w20) := BW19.out.trans (hB.mono BW19.out.size)
  have BS20 : Hid (Below w3.heap.size w3 w20) := BS19.out.trans (hB.mono BS19.out.size)
  have SZ20 : Hid (w19.heap.size ≤ w20.heap.size) := hB.size
  have G0_20 : Hid (Mine w20 w5.heap.size ga0 (upFrom 1 t0)) := G0_19.out.kept hB
  have G1_20 : Hid (Mine w20 w5.heap.size ga1 (upFrom (1 + (t0 : Int)) t1)) := G1_19.out.kept hB
  have A0_20 : Hid (Mine w20 w18.heap.size (some ⟨w18.heap.size, 0, none⟩) y0) := A0_19.out.kept hB
  clear hM hB
  go_wp2_with fail
  refine (Hi.out _ _ _ _ _ A0_20.out.ints A1_20.out.ints).mono ?_
  rintro e w21 ⟨ha0, hc0, ha1, hc1, rfl, hM0, hM1, hA01, hB⟩
  have H0_21 : Hid (Mine w21 w20.heap.size ha0 r0) := hM0
  have H1_21 : Hid (Mine w21 w20.heap.size ha1 r1) := hM1
  have HA01 : Hid (Apart ha0 ha1) := hA01
  have BW21 : Hid (Below w.heap.size w w21) := BW20.out.trans (hB.mono BW20.out.size)
  have BS21 : Hid (Below w3.heap.size w3 w21) := BS20.out.trans (hB.mono BS20.out.size)
  have SZ21 : Hid (w20.heap.size ≤ w21.heap.size) := hB.size
  have G0_21 : Hid (Mine w21 w5.heap.size ga0 (upFrom 1 t0)) := G0_20.out.kept hB
  have G1_21 : Hid (Mine w21 w5.heap.size ga1 (upFrom (1 + (t0 : Int)) t1)) := G1_20.out.kept hB
  have A0_21 : Hid (Mine w21 w18.heap.size (some ⟨w18.heap.size, 0, none⟩) y0) := A0_20.out.kept hB
  have A1_21 : Hid (Mine w21 w19.heap.size (some ⟨w19.heap.size, 0, none⟩) y1) := A1_20.out.kept hB
  clear hB hM0 hM1 hA01
  go_wp2_with fail
  refine (eq_ints _ _ _ _ _ r0 _ hr0 ht0 H0_21.out.ints (S0.out.kept BS21.out)).mono ?_
  rintro e w22 ⟨rfl, hB⟩
  have BW22 : Hid (Below w.heap.size w w22) := BW21.out.trans (hB.mono BW21.out.size)
  have BS22 : Hid (Below w3.heap.size w3 w22) := BS21.out.trans (hB.mono BS21.out.size)
  have SZ22 : Hid (w21.heap.size ≤ w22.heap.size) := hB.size
  have G0_22 : Hid (Mine w22 w5.heap.size ga0 (upFrom 1 t0)) := G0_21.out.kept hB
  have G1_22 : Hid (Mine w22 w5.heap.size ga1 (upFrom (1 + (t0 : Int)) t1)) := G1_21.out.kept hB
  have H0_22 : Hid (Mine w22 w20.heap.size ha0 r0) := H0_21.out.kept hB
  have H1_22 : Hid (Mine w22 w20.heap.size ha1 r1) := H1_21.out.kept hB
  clear hB
  go_wp2_with fail
  refine (eq_ints _ _ _ _ _ r1 _ hr1 ht1 H1_22.out.ints (S1.out.kept BS22.out)).mono ?_
  rintro e w23 ⟨rfl, hB⟩
  have BW23 : Hid (Below w.heap.size w w23) := BW22.out.trans (hB.mono BW22.out.size)
  have BS23 : Hid (Below w3.heap.size w3 w23) := BS22.out.trans (hB.mono BS22.out.size)
  have SZ23 : Hid (w22.heap.size ≤ w23.heap.size) := hB.size
  have G0_23 : Hid (Mine w23 w5.heap.size ga0 (upFrom 1 t0)) := G0_22.out.kept hB
  have G1_23 : Hid (Mine w23 w5.heap.size ga1 (upFrom (1 + (t0 : Int)) t1)) := G1_22.out.kept hB
  have H0_23 : Hid (Mine w23 w20.heap.size ha0 r0) := H0_22.out.kept hB
  have H1_23 : Hid (Mine w23 w20.heap.size ha1 r1) := H1_22.out.kept hB
  clear hB
  go_wp2_with fail
  refine (held_from 1 (by omega) (by omega) _ _ _ _ ht0 G0_23.out.ints).mono ?_
  rintro e w' ⟨rfl, hw⟩
  rw [hw]
  clear hw w'
  have hq23_0 : (0 : Int) ≤ (1 + (t0 : Int)) := by omega
  go_wp2_with fail
  refine (held_from (1 + (t0 : Int)) (by omega) (by omega) _ _ _ _ ht1 G1_23.out.ints).mono ?_
  rintro e w' ⟨rfl, hw⟩
  rw [hw]
  clear hw w'
  have hq23_1 : (0 : Int) ≤ ((1 + (t0 : Int)) + (t1 : Int)) := by omega
  go_wp2
  go_ret
  exact ⟨rfl, BW23.out⟩
theorem walk (a0 : Option Addr) (len0 cap0 : Nat) (z0 : List Int) (a1 : Option Addr) (len1 cap1 : Nat) (z1 : List Int) (w : World) (w0 : Ints w a0 z0) (n0 : z0.length = len0 * 5) (b0 : len0 ≤ 140737488351232) (w1 : IsRow .i64 w a1 len1 cap1 z1) (b1 : len1 ≤ 140737488351232) :
    Calls Try.prog 5 #[.slice a0 len0 cap0, .slice a1 len1 cap1] w fun e w' => e = .returned (.bool true) ∧ Below w.heap.size w w' := by
  by_cases hbig : 1048576 < len1
  · have hb1 : (1048576 : Int) < (len1 : Int) := by omega
    have hm1 : len1 ≤ 9223372036854775807 := by omega
    clear hbig w0 w1
    go_enter Try.func5, Try.ntmps5
    go_wp2
    go_ret
    exact ⟨rfl, Below.refl _ _⟩
  obtain ⟨ys, hy, hI⟩ := ints_of w1
  by_cases h1 : len0 ≤ 1048576
  · cases hcw : (codeB z0 len0 && wordsB ys)
    · refine walk_of a0 cap0 a1 cap1 len0 z0 len1 ys [] 0 [] 0 false w n0 h1 w0 hy (by omega) hI rfl (by omega) rfl (by omega) ?_ ?_
      · intro W a c v d hA hV
        refine (spec_runcode a v len0 c len1 d z0 ys W n0 h1 hA hy (by omega) hV).mono ?_
        rintro e W' (⟨h, _⟩ | ⟨_, rfl, hB⟩)
        · rw [hcw] at h; cases h
        · exact ⟨none, 0, none, 0, rfl, Or.inl rfl, Or.inl rfl, hB⟩
      · intro W a c v d hA hV
        refine (impl_run a v len0 c len1 d z0 ys W n0 h1 hA hy (by omega) hV).mono ?_
        rintro e W' (⟨h, _⟩ | ⟨_, rfl, hB⟩)
        · rw [hcw] at h; cases h
        · exact ⟨none, 0, none, 0, rfl, Or.inl rfl, Or.inl rfl, (fun b o b' o' e => by cases e), hB⟩
    · have hc := (Bool.and_eq_true _ _).mp hcw
      have h30 := (code_out hc.1).1
      have htl : (toldTo z0 ys len0).length ≤ 1048576 := Nat.le_trans (told_len z0 ys len0) h1
      refine walk_of a0 cap0 a1 cap1 len0 z0 len1 ys (toldTo z0 ys len0) _ (runW z0 ys len0) 8 true w n0 h1 w0 hy (by omega) hI rfl htl (words_out (run_words hc.2 (code_out hc.1).2 len0 (Nat.le_refl _))).1 (by omega) ?_ ?_
      · intro W a c v d hA hV
        refine (spec_runcode a v len0 c len1 d z0 ys W n0 h1 hA hy (by omega) hV).mono ?_
        rintro e W' (⟨_, a', c', a'', c'', rfl, q0, q1, hB⟩ | ⟨h, _⟩)
        · exact ⟨a', c', a'', c'', rfl, q0, q1, hB⟩
        · rw [hcw] at h; cases h
      · intro W a c v d hA hV
        refine (impl_run a v len0 c len1 d z0 ys W n0 h1 hA hy (by omega) hV).mono ?_
        rintro e W' (⟨_, a', c', a'', c'', rfl, q0, q1, q2, hB⟩ | ⟨h, _⟩)
        · exact ⟨a', c', a'', c'', rfl, q0, q1, q2, hB⟩
        · rw [hcw] at h; cases h
  · have hs1 : (len1 : Int) ≤ 1048576 := by omega
    have hno : 1048576 < (len0 : Int) := by omega
    clear w0 w1 hI
    go_enter Try.func5, Try.ntmps5
    go_wp2_with fail
    refine (Instr_size _ _ _ _ _ (by omega) (by omega) (by omega)).mono ?_
    rw [if_neg (by omega)]
    rintro e w' ⟨rfl, rfl⟩
    go_wp2
    go_ret
    exact ⟨rfl, Below.refl _ _⟩

set_option maxRecDepth 100000 in
theorem lifted (os : Os) (started : os.Started) (H : Type) (enc : TypeId × Value → H) :
    ReturnsInHanded {} Try.checked os 5 .any (Rows.fnExactRunCodeSpec.pre6 enc Try.prog Try.f5 Rows.fnExactRunCodeRow.domain false) (Rows.fnExactRunCodeSpec.post enc Try.prog Try.f5 false true false false) := by
  refine returnsInHanded_of_change_sized (C := Try.checked) own started (by kernel_rfl) Try.func5
    (ChangeSpec.witness6 (enc := enc) (C := Try.checked) false ⟨#[], #[.slice none 0 0, .slice none 0 0], []⟩ 8 (by kernel_rfl) (by kernel_rfl) (by kernel_rfl) (by kernel_rfl)) ?_
  intro W base args ds gs before hval0 hW hcnd hsz0 _
  have hval : ∀ (j : Nat) t v, Try.f5.params[j]? = some t → args[j]? = some v → Value.okWide Try.prog W .any base t v := hval0
  have hW' := hW
  obtain ⟨p, q, hA0, hV, rfl, hfz, hnd⟩ := hW
  have hsz : (DataW.weightsEach Try.prog (Try.f5.params.toList ++ Rows.fnExactRunCodeSpec.plain.varTypes Try.prog) (ds ++ gs)).all (· ≤ reachBytes) = true := hsz0
  have hA : DataW.TrodAll enc Try.prog W 0 (fun _ => true) true Try.f5.params.toList args.toList ds p := hA0
  rw [Try.params5] at hA hval hsz
  obtain ⟨v0, vs0, d0, ds0, p0, q0, hargs, rfl, rfl, h0, r0⟩ := trodAll_cons hA
  obtain ⟨v1, vs1, d1, ds1, p1, q1, rfl, rfl, rfl, h1, r1⟩ := trodAll_cons r0
  obtain ⟨rfl, rfl, rfl⟩ := trodAll_nil r1
  obtain rfl : args = #[v0, v1] := by cases args; simp_all
  obtain ⟨rfl, rfl⟩ := trodVars_none hV
  obtain ⟨a0, len0, cap0, rfl⟩ := okWide_slice Try.underlying45 (hval 0 45 v0 rfl rfl)
  have k0 := h0
  have lt0 : ∀ x ∈ p0, x.block < W.heap.size := by obtain ⟨m, hm⟩ := k0; exact DataW.trod_lt m _ _ _ hm
  obtain ⟨z0, w0, n0, b0⟩ : ∃ zs, Ints W a0 zs ∧ zs.length = len0 * 5 ∧ len0 ≤ 140737488351232 := by
    obtain ⟨fuel, hf⟩ := h0
    rcases open_flat Try.underlying45 Try.underlying96 (show Try.prog.cellsOf 96 = 5 by kernel_rfl) rfl (by
      intro i f h
      match i, h with
      | 0, h => obtain rfl := Option.some.inj h; exact ⟨rfl, (show Try.prog.cellsOf 3 = 1 by kernel_rfl), Try.underlying3⟩
      | 1, h => obtain rfl := Option.some.inj h; exact ⟨rfl, (show Try.prog.cellsOf 3 = 1 by kernel_rfl), Try.underlying3⟩
      | 2, h => obtain rfl := Option.some.inj h; exact ⟨rfl, (show Try.prog.cellsOf 3 = 1 by kernel_rfl), Try.underlying3⟩
      | 3, h => obtain rfl := Option.some.inj h; exact ⟨rfl, (show Try.prog.cellsOf 3 = 1 by kernel_rfl), Try.underlying3⟩
      | 4, h => obtain rfl := Option.some.inj h; exact ⟨rfl, (show Try.prog.cellsOf 3 = 1 by kernel_rfl), Try.underlying3⟩
      | i + 5, h => simp at h) hf with hcs | ⟨a, l, c, m, D, E, hcs, hl, hm, hlm, hx, hcell⟩
    · simp [Value.cells] at hcs
      obtain ⟨rfl, rfl, rfl⟩ := hcs
      exact ⟨[], .inl rfl, by simp, by omega⟩
    · simp [Value.cells] at hcs
      obtain ⟨rfl, rfl, rfl⟩ := hcs
      obtain ⟨zs, hz, hi⟩ := flat_of (by decide) hlm hcell
      have hs := sized_slice hsz (j := 0) (t := 45) (e := 96) rfl (by rw [show d0 = _ from hx]; rfl) Try.underlying45
      rw [show Try.prog.bytesOf 96 = 40 by kernel_rfl] at hs
      simp only [List.length_map, List.length_range, reachBytes] at hs
      exact ⟨zs, hi, hz, by omega⟩
  obtain ⟨a1, len1, cap1, rfl⟩ := okWide_slice Try.underlying38 (hval 1 38 v1 rfl rfl)
  have k1 := h1
  have lt1 : ∀ x ∈ p1, x.block < W.heap.size := by obtain ⟨m, hm⟩ := k1; exact DataW.trod_lt m _ _ _ hm
  obtain ⟨z1, w1, b1⟩ : ∃ zs, IsRow .i64 W a1 len1 cap1 zs ∧ len1 ≤ 140737488351232 := by
    obtain ⟨fuel, hf⟩ := h1
    rcases open_ints Try.underlying38 Try.underlying3 (by kernel_rfl) hf with ⟨hcs, _⟩ | ⟨x, l, c, zs, hcs, _, hl, hm, hz, hx, hcell, hwz⟩
    · simp [Value.cells] at hcs
      obtain ⟨rfl, rfl, rfl⟩ := hcs
      exact ⟨[], .inl ⟨rfl, rfl, rfl, rfl⟩, by omega⟩
    · simp [Value.cells] at hcs
      obtain ⟨rfl, rfl, rfl⟩ := hcs
      have hz' : zs.length = cap1 := by simpa using hz
      have hd : d1 = .slice (lits .i64 (zs.take len1)) (lits .i64 (zs.drop len1)) := congrArg Prod.fst hx
      have hs := sized_slice hsz (j := 1) (t := 38) (e := 3) rfl (by rw [hd]; rfl) Try.underlying38
      rw [show Try.prog.bytesOf 3 = 8 by kernel_rfl] at hs
      simp only [lits, List.length_map, List.length_take, List.length_drop, reachBytes] at hs
      exact ⟨zs, .inr ⟨_, rfl, hl, hm, hz', hcell, hwz⟩, by omega⟩
  clear hA0 hval0
  refine (walk a0 len0 cap0 z0 a1 len1 cap1 z1 W w0 n0 b0 w1 b1).mono fun e W' ⟨he, bel⟩ => ?_
  subst he
  exact ⟨_, rfl, _, _, _, [], _, [], hW', trodAll_mk1 (shut_bool Try.underlying4 _), (trodAll_cons_mk (Below.trod laidOut (by kernel_rfl) (of_decide_eq_true (by kernel_rfl)) k0 bel lt0) (trodAll_cons_mk (Below.trod laidOut (by kernel_rfl) (of_decide_eq_true (by kernel_rfl)) k1 bel lt1) trodAll_mk0)), rfl, bel.frame _, fun h => by cases h⟩

theorem over : Rows.fnExactRunCodeRow.holds Try.pinned (OpenSpec.ofChange Rows.fnExactRunCodeSpec) :=
  OpenClaim.holds_of_wide 5 Try.f5 rfl rfl rfl rfl rfl rfl rfl ⟨rfl, rfl, rfl, rfl, rfl⟩ rfl rfl rfl rfl rfl (by kernel_rfl) Try.func5 (by kernel_rfl)
    (of_decide_eq_true (by kernel_rfl)) (by unfold Func.isWrapper; first | (rw [if_pos (by decide +kernel)]; kernel_rfl) | (rw [if_neg (by decide +kernel)]; exact ⟨rfl, rfl⟩))
    (fun os started H enc _ => lifted os started H enc)

theorem proved : Rows.FnExactRunCodeSaid :=
  over
#print axioms proved
end Go.Proofs.Ytghlgfphlgbcoaa.fnExactRunCode
