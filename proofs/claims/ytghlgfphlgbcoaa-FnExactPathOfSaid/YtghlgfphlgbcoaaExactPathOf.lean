/-
  Of every flow, every list of words and every fuel: the program tells the way that is gone as the specification does, each time in memory of its own; it writes into nothing that was there.
-/
import Derived.Test.YtghlgfphlgbcoaaRows
import Derived.WalkKit
import Derived.ProofKit
import Derived.OpenShut
import Derived.ShutString
import Derived.ChangeOld
import Derived.Below
import Derived.Carry
import Derived.SizedLaws
import Derived.Test.YtghlgfphlgbcoaaMagMath
import Derived.Test.YtghlgfphlgbcoaaCodeMath
import Derived.Test.YtghlgfphlgbcoaaRunMath
import Derived.Test.YtghlgfphlgbcoaaFlowMath
import Derived.Test.YtghlgfphlgbcoaaInts
import Derived.Test.YtghlgfphlgbcoaaRecsInstr
import Derived.Test.YtghlgfphlgbcoaaMarks
import Derived.Test.YtghlgfphlgbcoaaFlow
import Derived.Test.YtghlgfphlgbcoaaFlowEq
import Derived.Test.YtghlgfphlgbcoaaFlowMarks
import Derived.Test.YtghlgfphlgbcoaaFlowRun
import Derived.Test.YtghlgfphlgbcoaaSpecPath
import Derived.Test.YtghlgfphlgbcoaaFlowImpl2
import Derived.Test.YtghlgfphlgbcoaaOpenFlow
namespace Go.Proofs.Ytghlgfphlgbcoaa.fnExactPathOf
open Go.ChangeShapes Go.WideShapes Go.ChangeAt Go.RowKit
open Go.ChangeMaps (open_string shut_string)
open Go.Proofs.Ytghlgfphlgbcoaa.math
open Go.Proofs.Ytghlgfphlgbcoaa.ints
open Go.Proofs.Ytghlgfphlgbcoaa.walks
set_option linter.unusedVariables false

theorem own : ownKnob Try.prog.godebug = none := by kernel_rfl
theorem laidOut : laidOutB Try.prog = true := by kernel_rfl

/-- What is known of a slice of integers that came in: it is nil, or leads to a row of cells, the numbers zs, each fitting its kind. -/
def IsRow (k : IntKind) (w : World) (a : Option Addr) (len cap : Nat) (zs : List Int) : Prop :=
  (a = none ∧ len = 0 ∧ cap = 0 ∧ zs = []) ∨
  ∃ x, a = some x ∧ len ≤ cap ∧ cap ≤ maxLen ∧ zs.length = cap ∧ (∀ i, i < zs.length → w.cell? (x.add i) = some (.int k (zs.getD i 0))) ∧ ∀ n ∈ zs, (Lit.int k n).wf = true

theorem ints_of {w : World} {a : Option Addr} {len cap : Nat} {zs : List Int} (h : IsRow .i64 w a len cap zs) : ∃ ys : List Int, ys.length = len ∧ Ints w a ys := by
  rcases h with ⟨_, rfl, _, _⟩ | ⟨x, rfl, hl, hm, hz, hcell, hwz⟩
  · exact ⟨[], rfl, Or.inl rfl⟩
  · obtain ⟨b, off, spot⟩ := x
    refine ⟨zs.take len, by simp; omega, ?_⟩
    by_cases h0 : len = 0
    · left; rw [h0]; simp
    · have hc := hcell 0 (by omega)
      have hspot : spot = none := by simpa [Addr.add] using World.cell?_spot hc
      subst hspot
      have hb : b < w.heap.size := by simpa [Addr.add] using World.block_lt_of_cell? w _ hc
      refine Or.inr ⟨b, off, rfl, hb, fun i hi => ?_⟩
      simp at hi
      have ha : (⟨b, off, none⟩ : Addr).add i = ⟨b, off + i, none⟩ := by
        unfold Addr.add
        split
        · rename_i h; subst h; rfl
        · rfl
      have hc1 := hcell i (by omega)
      rw [ha] at hc1
      rw [hc1]
      have hi2 : i < len := by omega
      have e : (zs.take len).getD i 0 = zs.getD i 0 := by simp [List.getD, hi2]
      rw [e]
theorem stands_is (f : Nat → Bv) (ws : List Int) : ∀ fuel, ∃ k, Stands f ws fuel k
  | 0 => ⟨0, fun j hj => by omega, Nat.le_refl _, Or.inr rfl⟩
  | n + 1 => by
    obtain ⟨k, h1, h2, h3⟩ := stands_is f ws n
    by_cases h : (flowTo f ws k).next < 0
    · exact ⟨k, h1, by omega, Or.inl h⟩
    · have hk : k = n := by
        rcases h3 with h3 | h3
        · exact absurd h3 h
        · exact h3
      subst hk
      refine ⟨k + 1, fun j hj => ?_, Nat.le_refl _, Or.inr rfl⟩
      by_cases e : j = k
      · subst e; omega
      · exact h1 j (by omega)
def SpecTells (len0 : Nat) (f : Nat → Bv) (len1 : Nat) (y1 : List Int) (x : Int) (r0 : List Int) (t0 : Nat) (c : Bool) : Prop := ∀ (W : World) (a0 a1 : Option Addr) (cap0 cap1 : Nat), len0 ≤ 1048576 → (∀ k, k < len0 → (f k).len ≤ 1048576) → Flow W a0 len0 f → Ints W a1 y1 → Calls Try.prog 37 #[.slice a0 len0 cap0, .slice a1 len1 cap1, .int .i64 x] W fun e W' => ∃ g0 d0, e = .returned (.tuple #[.slice g0 t0 d0, .bool c]) ∧ Ints W' g0 r0 ∧ Below W.heap.size W W'
def ImplTells (len0 : Nat) (f : Nat → Bv) (len1 : Nat) (y1 : List Int) (x : Int) (r0 : List Int) (t0 : Nat) (c : Bool) : Prop := ∀ (W : World) (a0 a1 : Option Addr) (cap0 cap1 : Nat), len0 ≤ 1048576 → (∀ k, k < len0 → (f k).len ≤ 1048576) → Flow W a0 len0 f → Ints W a1 y1 → Calls Try.prog 38 #[.slice a0 len0 cap0, .slice a1 len1 cap1, .int .i64 x] W fun e W' => ∃ g0 d0, e = .returned (.tuple #[.slice g0 t0 d0, .bool c]) ∧ Mine W' W.heap.size g0 r0 ∧ Below W.heap.size W W'
set_option maxHeartbeats 16000000 in
set_option maxRecDepth 100000 in
theorem walk_of (a0 a1 : Option Addr) (cap0 cap1 : Nat) (len0 : Nat) (f : Nat → Bv) (len1 : Nat) (y1 : List Int) (x : Int) (r0 : List Int) (t0 : Nat) (c : Bool) (w : World) (w0 : Hid (Flow w a0 len0 f)) (n0 : Hid (∀ k, k < len0 → (f k).len ≤ maxLen)) (b0 : len0 ≤ 140737488351232) (hz1 : Hid (y1.length = len1)) (hl1 : len1 ≤ 1048576) (h1 : Hid (Ints w a1 y1)) (hr0 : Hid (r0.length = t0)) (ht0 : t0 ≤ 1048576) (Hs : Hid (SpecTells len0 f len1 y1 x r0 t0 c)) (Hi : Hid (ImplTells len0 f len1 y1 x r0 t0 c)) :
    Calls Try.prog 7 #[.slice a0 len0 cap0, .slice a1 len1 cap1, .int .i64 x] w fun e w' => e = .returned (.bool true) ∧ Below w.heap.size w w' := by
  have hL1 : (len1 : Int) ≤ 1048576 := by omega
  have hN1 : (0 : Int) ≤ (len1 : Int) := Int.natCast_nonneg _
  have hT0 : (t0 : Int) ≤ 1048576 := by omega
  have hU0 : (0 : Int) ≤ (t0 : Int) := Int.natCast_nonneg _
  go_enter Try.func7, Try.ntmps7
  go_wp2_with fail
  refine (flow_size a0 len0 cap0 f w b0 (fun k hk => Nat.le_trans (n0.out k hk) (by unfold maxLen; omega)) w0).mono ?_
  rintro e w1 ⟨v, rfl, hv, hB⟩
  have BW1 : Hid (Below w.heap.size w w1) := hB
  clear hB
  rcases hv with ⟨hl, hv0, hn⟩ | rfl
  rotate_left
  · go_wp2
    go_ret
    exact ⟨rfl, BW1.out⟩
  have HL : Hid (∀ k, k < len0 → (f k).len ≤ 1048576) := by
    show ∀ k, k < len0 → (f k).len ≤ 1048576
    intro k hk
    have := left_len hk (by rw [← hl]; exact hv0)
    omega
  clear hl n0
  have hL0 : (len0 : Int) ≤ 1048576 := by omega
  go_wp2_with fail
  refine (flow_list2 _ _ _ f _ hn HL (w0.out.kept BW1.out)).mono ?_
  rintro e w2 ⟨A0g, rfl, hM, hB⟩
  have A0_2 : Hid (MineB w2 w1.heap.size w2.heap.size len0 f A0g) := hM
  have BW2 : Hid (Below w.heap.size w w2) := BW1.out.trans (hB.mono BW1.out.size)
  clear hM hB
  go_wp2_with fail
  refine (to_ints _ _ _ y1 _ hz1 hl1 (h1.out.kept BW2.out)).mono ?_
  rintro e w3 ⟨rfl, hM, hB⟩
  have A1_3 : Hid (Mine w3 w2.heap.size (some ⟨w2.heap.size, 0, none⟩) y1) := hM
  have BW3 : Hid (Below w.heap.size w w3) := BW2.out.trans (hB.mono BW2.out.size)
  have A0_3 : Hid (MineB w3 w1.heap.size w2.heap.size len0 f A0g) := A0_2.out.kept hB
  clear hM hB
  go_wp2_with fail
  refine (Hs.out _ _ _ _ _ hn HL.out A0_3.out.flow A1_3.out.ints).mono ?_
  rintro e w4 ⟨sa0, sc0, rfl, hS0, hB⟩
  have S0 : Hid (Ints w4 sa0 r0) := hS0
  have BW4 : Hid (Below w.heap.size w w4) := BW3.out.trans (hB.mono BW3.out.size)
  clear hB hS0
  go_wp2_with fail
  refine (flow_list2 _ _ _ f _ hn HL (w0.out.kept BW4.out)).mono ?_
  rintro e w5 ⟨X0g, rfl, hM, hB⟩
  have X0_5 : Hid (MineB w5 w4.heap.size w5.heap.size len0 f X0g) := hM
  have BW5 : Hid (Below w.heap.size w w5) := BW4.out.trans (hB.mono BW4.out.size)
  have BS5 : Hid (Below w4.heap.size w4 w5) := hB
  have SZ5 : Hid (w4.heap.size ≤ w5.heap.size) := hB.size
  have HX0 : Hid (w4.heap.size < w5.heap.size) := hM.lt
  clear hM hB
  go_wp2_with fail
  refine (to_ints _ _ _ y1 _ hz1 hl1 (h1.out.kept BW5.out)).mono ?_
  rintro e w6 ⟨rfl, hM, hB⟩
  have X1_6 : Hid (Mine w6 w5.heap.size (some ⟨w5.heap.size, 0, none⟩) y1) := hM
  have BW6 : Hid (Below w.heap.size w w6) := BW5.out.trans (hB.mono BW5.out.size)
  have BS6 : Hid (Below w4.heap.size w4 w6) := BS5.out.trans (hB.mono BS5.out.size)
  have SZ6 : Hid (w5.heap.size ≤ w6.heap.size) := hB.size
  have X0_6 : Hid (MineB w6 w4.heap.size w5.heap.size len0 f X0g) := X0_5.out.kept hB
  have HX1 : Hid (0 < len1 → w5.heap.size < w6.heap.size) := fun h0 => mine_lt hM (by have := hz1.out; omega)
  clear hM hB
  go_wp2_with fail
  refine (Hi.out _ _ _ _ _ hn HL.out X0_6.out.flow X1_6.out.ints).mono ?_
  rintro e w7 ⟨ga0, gc0, rfl, hM0, hB⟩
  have G0_7 : Hid (Mine w7 w6.heap.size ga0 r0) := hM0
  have BW7 : Hid (Below w.heap.size w w7) := BW6.out.trans (hB.mono BW6.out.size)
  have BS7 : Hid (Below w4.heap.size w4 w7) := BS6.out.trans (hB.mono BS6.out.size)
  have SZ7 : Hid (w6.heap.size ≤ w7.heap.size) := hB.size
  have X0_7 : Hid (MineB w7 w4.heap.size w5.heap.size len0 f X0g) := X0_6.out.kept hB
  have X1_7 : Hid (Mine w7 w5.heap.size (some ⟨w5.heap.size, 0, none⟩) y1) := X1_6.out.kept hB
  clear hB hM0
  go_wp2_with fail
  refine (eq_ints _ _ _ _ _ r0 _ hr0 ht0 G0_7.out.ints (S0.out.kept BS7.out)).mono ?_
  rintro e w8 ⟨rfl, hB⟩
  have BW8 : Hid (Below w.heap.size w w8) := BW7.out.trans (hB.mono BW7.out.size)
  have BS8 : Hid (Below w4.heap.size w4 w8) := BS7.out.trans (hB.mono BS7.out.size)
  have SZ8 : Hid (w7.heap.size ≤ w8.heap.size) := hB.size
  have X0_8 : Hid (MineB w8 w4.heap.size w5.heap.size len0 f X0g) := X0_7.out.kept hB
  have X1_8 : Hid (Mine w8 w5.heap.size (some ⟨w5.heap.size, 0, none⟩) y1) := X1_7.out.kept hB
  have G0_8 : Hid (Mine w8 w6.heap.size ga0 r0) := G0_7.out.kept hB
  clear hB
  go_wp2_with fail
  refine (flow_list2 _ _ _ f _ hn HL (w0.out.kept BW8.out)).mono ?_
  rintro e w9 ⟨Z0g, rfl, hM, hB⟩
  have Z0_9 : Hid (MineB w9 w8.heap.size w9.heap.size len0 f Z0g) := hM
  have BW9 : Hid (Below w.heap.size w w9) := BW8.out.trans (hB.mono BW8.out.size)
  have BS9 : Hid (Below w4.heap.size w4 w9) := BS8.out.trans (hB.mono BS8.out.size)
  have SZ9 : Hid (w8.heap.size ≤ w9.heap.size) := hB.size
  have X0_9 : Hid (MineB w9 w4.heap.size w5.heap.size len0 f X0g) := X0_8.out.kept hB
  have X1_9 : Hid (Mine w9 w5.heap.size (some ⟨w5.heap.size, 0, none⟩) y1) := X1_8.out.kept hB
  have G0_9 : Hid (Mine w9 w6.heap.size ga0 r0) := G0_8.out.kept hB
  clear hM hB
  go_wp2_with fail
  refine (flow_same _ _ _ _ _ f _ hn HL X0_9.out.flow Z0_9.out.flow).mono ?_
  rintro e w10 ⟨rfl, hB⟩
  have BW10 : Hid (Below w.heap.size w w10) := BW9.out.trans (hB.mono BW9.out.size)
  have BS10 : Hid (Below w4.heap.size w4 w10) := BS9.out.trans (hB.mono BS9.out.size)
  have SZ10 : Hid (w9.heap.size ≤ w10.heap.size) := hB.size
  have X0_10 : Hid (MineB w10 w4.heap.size w5.heap.size len0 f X0g) := X0_9.out.kept hB
  have X1_10 : Hid (Mine w10 w5.heap.size (some ⟨w5.heap.size, 0, none⟩) y1) := X1_9.out.kept hB
  have G0_10 : Hid (Mine w10 w6.heap.size ga0 r0) := G0_9.out.kept hB
  have Z0_10 : Hid (MineB w10 w8.heap.size w9.heap.size len0 f Z0g) := Z0_9.out.kept hB
  clear hB
  go_wp2_with fail
  refine (to_ints _ _ _ y1 _ hz1 hl1 (h1.out.kept BW10.out)).mono ?_
  rintro e w11 ⟨rfl, hM, hB⟩
  have Z1_11 : Hid (Mine w11 w10.heap.size (some ⟨w10.heap.size, 0, none⟩) y1) := hM
  have BW11 : Hid (Below w.heap.size w w11) := BW10.out.trans (hB.mono BW10.out.size)
  have BS11 : Hid (Below w4.heap.size w4 w11) := BS10.out.trans (hB.mono BS10.out.size)
  have SZ11 : Hid (w10.heap.size ≤ w11.heap.size) := hB.size
  have X0_11 : Hid (MineB w11 w4.heap.size w5.heap.size len0 f X0g) := X0_10.out.kept hB
  have X1_11 : Hid (Mine w11 w5.heap.size (some ⟨w5.heap.size, 0, none⟩) y1) := X1_10.out.kept hB
  have G0_11 : Hid (Mine w11 w6.heap.size ga0 r0) := G0_10.out.kept hB
  clear hM hB
  go_wp2_with fail
  refine (eq_ints _ _ _ _ _ y1 _ hz1 hl1 X1_11.out.ints Z1_11.out.ints).mono ?_
  rintro e w12 ⟨rfl, hB⟩
  have BW12 : Hid (Below w.heap.size w w12) := BW11.out.trans (hB.mono BW11.out.size)
  have BS12 : Hid (Below w4.heap.size w4 w12) := BS11.out.trans (hB.mono BS11.out.size)
  have SZ12 : Hid (w11.heap.size ≤ w12.heap.size) := hB.size
  have X0_12 : Hid (MineB w12 w4.heap.size w5.heap.size len0 f X0g) := X0_11.out.kept hB
  have X1_12 : Hid (Mine w12 w5.heap.size (some ⟨w5.heap.size, 0, none⟩) y1) := X1_11.out.kept hB
  have G0_12 : Hid (Mine w12 w6.heap.size ga0 r0) := G0_11.out.kept hB
  have Z1_12 : Hid (Mine w12 w10.heap.size (some ⟨w10.heap.size, 0, none⟩) y1) := Z1_11.out.kept hB
  clear hB
  go_wp2_with fail
  refine (flow_mark _ _ _ _ _ _ _ hn HL HX0.out X0_12.out.mark).mono ?_
  rintro e w13 ⟨s, rfl, hs0, hs1, hO⟩
  have BW13 : Hid (Below w.heap.size w w13) := BW12.out.trans (hO.below.mono BW4.out.size)
  have BS13 : Hid (Below w4.heap.size w4 w13) := BS12.out.trans (hO.below.mono (Nat.le_refl _))
  have X1_13 : Hid (Mine w13 w5.heap.size (some ⟨w5.heap.size, 0, none⟩) y1) := hO.mine (by  omega) X1_12.out
  have G0_13 : Hid (Mine w13 w6.heap.size ga0 r0) := hO.mine (by have q6 := SZ6.out; omega) G0_12.out
  clear hO
  go_wp2_with fail
  refine (mark_from s (by omega) (by omega) _ _ _ y1 _ _ hz1 hl1 X1_13).mono ?_
  rintro e w14 ⟨rfl, _, hO⟩
  have BW14 : Hid (Below w.heap.size w w14) := BW13.out.trans (hO.below.mono BW5.out.size)
  have BS14 : Hid (Below w4.heap.size w4 w14) := BS13.out.trans (hO.below.mono BS5.out.size)
  have G0_14 : Hid (Mine w14 w6.heap.size ga0 r0) := hO.new (fun h0 => by have q := HX1.out h0;  omega) G0_13.out
  clear hO
  have hk : (0 : Int) ≤ s + (len1 : Int) := by omega
  go_wp2_with fail
  refine (eq_ints _ _ _ _ _ r0 _ hr0 ht0 G0_14.out.ints (S0.out.kept BS14.out)).mono ?_
  rintro e w15 ⟨rfl, hB⟩
  have BW15 : Hid (Below w.heap.size w w15) := BW14.out.trans (hB.mono BW14.out.size)
  have BS15 : Hid (Below w4.heap.size w4 w15) := BS14.out.trans (hB.mono BS14.out.size)
  have SZ15 : Hid (w14.heap.size ≤ w15.heap.size) := hB.size
  have G0_15 : Hid (Mine w15 w6.heap.size ga0 r0) := G0_14.out.kept hB
  clear hB
  go_wp2_with fail
  refine (mark_from 1 (by omega) (by omega) _ _ _ r0 _ _ hr0 ht0 G0_15).mono ?_
  rintro e w16 ⟨rfl, hM, hO⟩
  have BW16 : Hid (Below w.heap.size w w16) := BW15.out.trans (hO.below.mono BW6.out.size)
  have BS16 : Hid (Below w4.heap.size w4 w16) := BS15.out.trans (hO.below.mono BS6.out.size)
  have G0_16 : Hid (Mine w16 w6.heap.size ga0 (upFrom 1 t0)) := hM
  clear hM hO
  go_wp2_with fail
  refine (held_from 1 (by omega) (by omega) _ _ _ _ ht0 G0_16.out.ints).mono ?_
  rintro e w' ⟨rfl, hw⟩
  rw [hw]
  clear hw w'
  have hq16_0 : (0 : Int) ≤ (1 + (t0 : Int)) := by omega
  go_wp2_with fail
  refine (flow_list2 _ _ _ f _ hn HL (w0.out.kept BW16.out)).mono ?_
  rintro e w17 ⟨A0g, rfl, hM, hB⟩
  have A0_17 : Hid (MineB w17 w16.heap.size w17.heap.size len0 f A0g) := hM
  have BW17 : Hid (Below w.heap.size w w17) := BW16.out.trans (hB.mono BW16.out.size)
  have BS17 : Hid (Below w4.heap.size w4 w17) := BS16.out.trans (hB.mono BS16.out.size)
  have SZ17 : Hid (w16.heap.size ≤ w17.heap.size) := hB.size
  have G0_17 : Hid (Mine w17 w6.heap.size ga0 (upFrom 1 t0)) := G0_16.out.kept hB
  clear hM hB
  go_wp2_with fail
  refine (to_ints _ _ _ y1 _ hz1 hl1 (h1.out.kept BW17.out)).mono ?_
  rintro e w18 ⟨rfl, hM, hB⟩
  have A1_18 : Hid (Mine w18 w17.heap.size (some ⟨w17.heap.size, 0, none⟩) y1) := hM
  have BW18 : Hid (Below w.heap.size w w18) := BW17.out.trans (hB.mono BW17.out.size)
  have BS18 : Hid (Below w4.heap.size w4 w18) := BS17.out.trans (hB.mono BS17.out.size)
  have SZ18 : Hid (w17.heap.size ≤ w18.heap.size) := hB.size
  have G0_18 : Hid (Mine w18 w6.heap.size ga0 (upFrom 1 t0)) := G0_17.out.kept hB
  have A0_18 : Hid (MineB w18 w16.heap.size w17.heap.size len0 f A0g) := A0_17.out.kept hB
  clear hM hB
  go_wp2_with fail
  refine (Hi.out _ _ _ _ _ hn HL.out A0_18.out.flow A1_18.out.ints).mono ?_
  rintro e w19 ⟨ha0, hc0, rfl, hM0, hB⟩
  have H0_19 : Hid (Mine w19 w18.heap.size ha0 r0) := hM0
  have BW19 : Hid (Below w.heap.size w w19) := BW18.out.trans (hB.mono BW18.out.size)
  have BS19 : Hid (Below w4.heap.size w4 w19) := BS18.out.trans (hB.mono BS18.out.size)
  have SZ19 : Hid (w18.heap.size ≤ w19.heap.size) := hB.size
  have G0_19 : Hid (Mine w19 w6.heap.size ga0 (upFrom 1 t0)) := G0_18.out.kept hB
  have A0_19 : Hid (MineB w19 w16.heap.size w17.heap.size len0 f A0g) := A0_18.out.kept hB
  have A1_19 : Hid (Mine w19 w17.heap.size (some ⟨w17.heap.size, 0, none⟩) y1) := A1_18.out.kept hB
  clear hB hM0
  go_wp2_with fail
  refine (eq_ints _ _ _ _ _ r0 _ hr0 ht0 H0_19.out.ints (S0.out.kept BS19.out)).mono ?_
  rintro e w20 ⟨rfl, hB⟩
  have BW20 : Hid (Below w.heap.size w w20) := BW19.out.trans (hB.mono BW19.out.size)
  have BS20 : Hid (Below w4.heap.size w4 w20) := BS19.out.trans (hB.mono BS19.out.size)
  have SZ20 : Hid (w19.heap.size ≤ w20.heap.size) := hB.size
  have G0_20 : Hid (Mine w20 w6.heap.size ga0 (upFrom 1 t0)) := G0_19.out.kept hB
  have H0_20 : Hid (Mine w20 w18.heap.size ha0 r0) := H0_19.out.kept hB
  clear hB
  go_wp2_with fail
  refine (held_from 1 (by omega) (by omega) _ _ _ _ ht0 G0_20.out.ints).mono ?_
  rintro e w' ⟨rfl, hw⟩
  rw [hw]
  clear hw w'
  have hq20_0 : (0 : Int) ≤ (1 + (t0 : Int)) := by omega
  go_wp2
  go_ret
  exact ⟨rfl, BW20.out⟩
theorem walk (a0 : Option Addr) (len0 cap0 : Nat) (f0 : Nat → Bv) (a1 : Option Addr) (len1 cap1 : Nat) (z1 : List Int) (a2 : Int) (w2 : (Lit.int .i64 a2).wf = true) (w : World) (w0 : Flow w a0 len0 f0) (n0 : ∀ k, k < len0 → (f0 k).len ≤ maxLen) (b0 : len0 ≤ 140737488351232) (w1 : IsRow .i64 w a1 len1 cap1 z1) (b1 : len1 ≤ 140737488351232) :
    Calls Try.prog 7 #[.slice a0 len0 cap0, .slice a1 len1 cap1, .int .i64 a2] w fun e w' => e = .returned (.bool true) ∧ Below w.heap.size w w' := by
  by_cases hbig : 1048576 < len1
  · have hb1 : (1048576 : Int) < (len1 : Int) := by omega
    have hm1 : len1 ≤ 9223372036854775807 := by omega
    clear hbig w0 w1
    go_enter Try.func7, Try.ntmps7
    go_wp2
    go_ret
    exact ⟨rfl, Below.refl _ _⟩
  obtain ⟨ys, hy, hI⟩ := ints_of w1
  cases ho : okRun f0 len0 ys a2
  · refine walk_of a0 a1 cap0 cap1 len0 f0 len1 ys a2 [] 0 false w w0 n0 b0 hy (by omega) hI rfl (by omega) ?_ ?_
    · intro W a v c d hn HL hA hV
      refine (spec_pathof a v len0 c len1 d a2 f0 ys W hn HL hA hy (by omega) hV).mono ?_
      rintro e W' (⟨h, _⟩ | ⟨_, rfl, hB⟩)
      · rw [ho] at h; cases h
      · exact ⟨none, 0, rfl, Or.inl rfl, hB⟩
    · intro W a v c d hn HL hA hV
      refine (impl_pathof a v len0 c len1 d a2 f0 ys W hn HL hA hy (by omega) hV).mono ?_
      rintro e W' (⟨h, _⟩ | ⟨_, rfl, hB⟩)
      · rw [ho] at h; cases h
      · exact ⟨none, 0, rfl, Or.inl rfl, hB⟩
  · obtain ⟨k, hk⟩ : ∃ k, Stands f0 ys a2.toNat k := stands_is f0 ys a2.toNat
    have h300 : k ≤ 300 := by
      have h1 := hk.2.1
      simp only [okRun, Bool.and_eq_true] at ho
      have h2 := inR_out ho.2
      omega
    refine walk_of a0 a1 cap0 cap1 len0 f0 len1 ys a2 (flowTo f0 ys k).path k true w w0 n0 b0 hy (by omega) hI (path_len _ _ _) (by omega) ?_ ?_
    · intro W a v c d hn HL hA hV
      refine (spec_pathof a v len0 c len1 d a2 f0 ys W hn HL hA hy (by omega) hV).mono ?_
      rintro e W' (⟨_, k', g, d', hk', rfl, hM, hB⟩ | ⟨h, _⟩)
      · obtain rfl := stands_one hk hk'
        exact ⟨g, d', rfl, hM, hB⟩
      · rw [ho] at h; cases h
    · intro W a v c d hn HL hA hV
      refine (impl_pathof a v len0 c len1 d a2 f0 ys W hn HL hA hy (by omega) hV).mono ?_
      rintro e W' (⟨_, k', g, d', hk', rfl, hM, hB⟩ | ⟨h, _⟩)
      · obtain rfl := stands_one hk hk'
        exact ⟨g, d', rfl, hM, hB⟩
      · rw [ho] at h; cases h

set_option maxRecDepth 100000 in
theorem lifted (os : Os) (started : os.Started) (H : Type) (enc : TypeId × Value → H) :
    ReturnsInHanded {} Try.checked os 7 .any (Rows.fnExactPathOfSpec.pre6 enc Try.prog Try.f7 Rows.fnExactPathOfRow.domain false) (Rows.fnExactPathOfSpec.post enc Try.prog Try.f7 false true false false) := by
  refine returnsInHanded_of_change_sized (C := Try.checked) own started (by kernel_rfl) Try.func7
    (ChangeSpec.witness6 (enc := enc) (C := Try.checked) false ⟨#[], #[.slice none 0 0, .slice none 0 0, .int .i64 0], []⟩ 8 (by kernel_rfl) (by kernel_rfl) (by kernel_rfl) (by kernel_rfl)) ?_
  intro W base args ds gs before hval0 hW hcnd hsz0 _
  have hval : ∀ (j : Nat) t v, Try.f7.params[j]? = some t → args[j]? = some v → Value.okWide Try.prog W .any base t v := hval0
  have hW' := hW
  obtain ⟨p, q, hA0, hV, rfl, hfz, hnd⟩ := hW
  have hsz : (DataW.weightsEach Try.prog (Try.f7.params.toList ++ Rows.fnExactPathOfSpec.plain.varTypes Try.prog) (ds ++ gs)).all (· ≤ reachBytes) = true := hsz0
  have hA : DataW.TrodAll enc Try.prog W 0 (fun _ => true) true Try.f7.params.toList args.toList ds p := hA0
  rw [Try.params7] at hA hval hsz
  obtain ⟨v0, vs0, d0, ds0, p0, q0, hargs, rfl, rfl, h0, r0⟩ := trodAll_cons hA
  obtain ⟨v1, vs1, d1, ds1, p1, q1, rfl, rfl, rfl, h1, r1⟩ := trodAll_cons r0
  obtain ⟨v2, vs2, d2, ds2, p2, q2, rfl, rfl, rfl, h2, r2⟩ := trodAll_cons r1
  obtain ⟨rfl, rfl, rfl⟩ := trodAll_nil r2
  obtain rfl : args = #[v0, v1, v2] := by cases args; simp_all
  obtain ⟨rfl, rfl⟩ := trodVars_none hV
  obtain ⟨a0, len0, cap0, rfl⟩ := okWide_slice Try.underlying22 (hval 0 22 v0 rfl rfl)
  have k0 := h0
  have lt0 : ∀ x ∈ p0, x.block < W.heap.size := by obtain ⟨m, hm⟩ := k0; exact DataW.trod_lt m _ _ _ hm
  obtain ⟨f0, w0, n0, b0⟩ : ∃ f, Flow W a0 len0 f ∧ (∀ k, k < len0 → (f k).len ≤ maxLen) ∧ len0 ≤ 140737488351232 := by
    obtain ⟨fuel, hf⟩ := h0
    rcases open_flow Try.underlying22 Try.underlying64 (show Try.prog.cellsOf 64 = 4 by kernel_rfl) ⟨rfl, (show Try.prog.cellsOf 45 = 1 by kernel_rfl), Try.underlying45⟩ ⟨rfl, (show Try.prog.cellsOf 3 = 1 by kernel_rfl), Try.underlying3⟩ ⟨rfl, (show Try.prog.cellsOf 3 = 1 by kernel_rfl), Try.underlying3⟩ ⟨rfl, (show Try.prog.cellsOf 3 = 1 by kernel_rfl), Try.underlying3⟩ Try.underlying96 (show Try.prog.cellsOf 96 = 5 by kernel_rfl) rfl (by
      intro i f h
      match i, h with
      | 0, h => obtain rfl := Option.some.inj h; exact ⟨rfl, (show Try.prog.cellsOf 3 = 1 by kernel_rfl), Try.underlying3⟩
      | 1, h => obtain rfl := Option.some.inj h; exact ⟨rfl, (show Try.prog.cellsOf 3 = 1 by kernel_rfl), Try.underlying3⟩
      | 2, h => obtain rfl := Option.some.inj h; exact ⟨rfl, (show Try.prog.cellsOf 3 = 1 by kernel_rfl), Try.underlying3⟩
      | 3, h => obtain rfl := Option.some.inj h; exact ⟨rfl, (show Try.prog.cellsOf 3 = 1 by kernel_rfl), Try.underlying3⟩
      | 4, h => obtain rfl := Option.some.inj h; exact ⟨rfl, (show Try.prog.cellsOf 3 = 1 by kernel_rfl), Try.underlying3⟩
      | i + 5, h => simp at h) hf with hcs | ⟨a, l, c, m, D, E, hcs, hl, hm, hlm, hx, hcell⟩
    · simp [Value.cells] at hcs
      obtain ⟨rfl, rfl, rfl⟩ := hcs
      exact ⟨noBs, .inl rfl, fun k hk => by omega, by omega⟩
    · simp [Value.cells] at hcs
      obtain ⟨rfl, rfl, rfl⟩ := hcs
      obtain ⟨f, hf1, hf2⟩ := flow_of hlm hcell
      have hs := sized_slice hsz (j := 0) (t := 22) (e := 64) rfl (by rw [show d0 = _ from hx]; rfl) Try.underlying22
      rw [show Try.prog.bytesOf 64 = 48 by kernel_rfl] at hs
      simp only [List.length_map, List.length_range, reachBytes] at hs
      exact ⟨f, hf1, hf2, by omega⟩
  obtain ⟨a1, len1, cap1, rfl⟩ := okWide_slice Try.underlying38 (hval 1 38 v1 rfl rfl)
  have k1 := h1
  have lt1 : ∀ x ∈ p1, x.block < W.heap.size := by obtain ⟨m, hm⟩ := k1; exact DataW.trod_lt m _ _ _ hm
  obtain ⟨z1, w1, b1⟩ : ∃ zs, IsRow .i64 W a1 len1 cap1 zs ∧ len1 ≤ 140737488351232 := by
    obtain ⟨fuel, hf⟩ := h1
    rcases open_ints Try.underlying38 Try.underlying3 (by kernel_rfl) hf with ⟨hcs, _⟩ | ⟨x, l, c, zs, hcs, _, hl, hm, hz, hx, hcell, hwz⟩
    · simp [Value.cells] at hcs
      obtain ⟨rfl, rfl, rfl⟩ := hcs
      exact ⟨[], .inl ⟨rfl, rfl, rfl, rfl⟩, by omega⟩
    · simp [Value.cells] at hcs
      obtain ⟨rfl, rfl, rfl⟩ := hcs
      have hz' : zs.length = cap1 := by simpa using hz
      have hd : d1 = .slice (lits .i64 (zs.take len1)) (lits .i64 (zs.drop len1)) := congrArg Prod.fst hx
      have hs := sized_slice hsz (j := 1) (t := 38) (e := 3) rfl (by rw [hd]; rfl) Try.underlying38
      rw [show Try.prog.bytesOf 3 = 8 by kernel_rfl] at hs
      simp only [lits, List.length_map, List.length_take, List.length_drop, reachBytes] at hs
      exact ⟨zs, .inr ⟨_, rfl, hl, hm, hz', hcell, hwz⟩, by omega⟩
  have k2 := h2
  have lt2 : ∀ x ∈ p2, x.block < W.heap.size := by obtain ⟨m, hm⟩ := k2; exact DataW.trod_lt m _ _ _ hm
  obtain ⟨a2, rfl, rfl, rfl, w2⟩ := open_int Try.underlying3 (hval 2 3 v2 rfl rfl) h2
  clear hA0 hval0
  refine (walk a0 len0 cap0 f0 a1 len1 cap1 z1 a2 w2 W w0 n0 b0 w1 b1).mono fun e W' ⟨he, bel⟩ => ?_
  subst he
  exact ⟨_, rfl, _, _, _, [], _, [], hW', trodAll_mk1 (shut_bool Try.underlying4 _), (trodAll_cons_mk (Below.trod laidOut (by kernel_rfl) (of_decide_eq_true (by kernel_rfl)) k0 bel lt0) (trodAll_cons_mk (Below.trod laidOut (by kernel_rfl) (of_decide_eq_true (by kernel_rfl)) k1 bel lt1) (trodAll_cons_mk (Below.trod laidOut (by kernel_rfl) (of_decide_eq_true (by kernel_rfl)) k2 bel lt2) trodAll_mk0))), rfl, bel.frame _, fun h => by cases h⟩

theorem over : Rows.fnExactPathOfRow.holds Try.pinned (OpenSpec.ofChange Rows.fnExactPathOfSpec) :=
  OpenClaim.holds_of_wide 7 Try.f7 rfl rfl rfl rfl rfl rfl rfl ⟨rfl, rfl, rfl, rfl, rfl⟩ rfl rfl rfl rfl rfl (by kernel_rfl) Try.func7 (by kernel_rfl)
    (of_decide_eq_true (by kernel_rfl)) (by unfold Func.isWrapper; first | (rw [if_pos (by decide +kernel)]; kernel_rfl) | (rw [if_neg (by decide +kernel)]; exact ⟨rfl, rfl⟩))
    (fun os started H enc _ => lifted os started H enc)

theorem proved : Rows.FnExactPathOfSaid :=
  over
#print axioms proved
end Go.Proofs.Ytghlgfphlgbcoaa.fnExactPathOf
