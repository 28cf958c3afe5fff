/-
  Of every list of moves: the program lays them out in a row as the specification does, each time in memory of its own; it writes into nothing that was there.
-/
import Derived.Test.YthjcgnldlhjjmaaRows
import Derived.WalkKit
import Derived.ProofKit
import Derived.OpenShut
import Derived.ShutString
import Derived.ChangeOld
import Derived.Below
import Derived.Carry
import Derived.SizedLaws
import Derived.Test.YthjcgnldlhjjmaaOpenFlat
import Derived.Test.YthjcgnldlhjjmaaMagMath
import Derived.Test.YthjcgnldlhjjmaaMoveMath
import Derived.Test.YthjcgnldlhjjmaaRingMath
import Derived.Test.YthjcgnldlhjjmaaRowMath
import Derived.Test.YthjcgnldlhjjmaaLeftMath
import Derived.Test.YthjcgnldlhjjmaaInts
import Derived.Test.YthjcgnldlhjjmaaOwnInts
import Derived.Test.YthjcgnldlhjjmaaOwnMoves
import Derived.Test.YthjcgnldlhjjmaaArrs
import Derived.Test.YthjcgnldlhjjmaaRecsMove
import Derived.Test.YthjcgnldlhjjmaaMarks
import Derived.Test.YthjcgnldlhjjmaaMarksM
import Derived.Test.YthjcgnldlhjjmaaMoveBase
import Derived.Test.YthjcgnldlhjjmaaGoodSpec
import Derived.Test.YthjcgnldlhjjmaaSources
import Derived.Test.YthjcgnldlhjjmaaRingSpec
import Derived.Test.YthjcgnldlhjjmaaRingsSpec
import Derived.Test.YthjcgnldlhjjmaaRowsImpl
import Derived.Test.YthjcgnldlhjjmaaLaySpec
import Derived.Test.YthjcgnldlhjjmaaLayMovesS
import Derived.Test.YthjcgnldlhjjmaaLayImpl
namespace Go.Proofs.Ythjcgnldlhjjmaa.fnExactLayMoves
open Go.ChangeShapes Go.WideShapes Go.ChangeAt Go.RowKit
open Go.ChangeMaps (open_string shut_string)
open Go.Proofs.Ythjcgnldlhjjmaa.math
open Go.Proofs.Ythjcgnldlhjjmaa.ints
open Go.Proofs.Ythjcgnldlhjjmaa.walks
set_option linter.unusedVariables false

theorem own : ownKnob Try.prog.godebug = none := by kernel_rfl
theorem laidOut : laidOutB Try.prog = true := by kernel_rfl

theorem laid_size (z : List Int) (n : Nat) : ∃ m, m ≤ 120 ∧ (laidL z n).length = m * 2 := by
  obtain ⟨m, hm, e⟩ := row_even z n 10
  have hn := rings_len (rowS z n 10) 10
  have h1 := layN_len (Z := ringZ (rowS z n 10)) e (ringsTo (rowS z n 10) 10).length (fun j hj => (ring_at_all hj).1)
  have h2 := cntN_le (m := m) (Z := ringZ (rowS z n 10)) (ringsTo (rowS z n 10) 10).length (fun j hj => (ring_at_all hj).2)
  exact ⟨_, by omega, h1⟩
def SpecTells (len0 : Nat) (y0 : List Int) (r0 : List Int) (t0 : Nat) (c : Bool) : Prop := ∀ (W : World) (a0 : Option Addr) (cap0 : Nat), Ints W a0 y0 → len0 ≤ cap0 → cap0 ≤ 1048576 → Calls Try.prog 23 #[.slice a0 len0 cap0] W fun e W' => ∃ g0 d0, e = .returned (.tuple #[.slice g0 t0 d0, .bool c]) ∧ Ints W' g0 r0 ∧ Below W.heap.size W W'
def ImplTells (len0 : Nat) (y0 : List Int) (r0 : List Int) (t0 : Nat) (c : Bool) : Prop := ∀ (W : World) (a0 : Option Addr) (cap0 : Nat), Ints W a0 y0 → len0 ≤ cap0 → cap0 ≤ 1048576 → Calls Try.prog 24 #[.slice a0 len0 cap0] W fun e W' => ∃ g0 d0, e = .returned (.tuple #[.slice g0 t0 d0, .bool c]) ∧ Mine W' W.heap.size g0 r0 ∧ Below W.heap.size W W'
set_option maxHeartbeats 16000000 in
set_option maxRecDepth 100000 in
theorem walk_of (a0 : Option Addr) (cap0 : Nat) (len0 : Nat) (y0 : List Int) (r0 : List Int) (t0 : Nat) (c : Bool) (w : World) (hz0 : Hid (y0.length = len0 * 2)) (hl0 : len0 ≤ 1048576) (h0 : Hid (Ints w a0 y0)) (hr0 : Hid (r0.length = t0 * 2)) (ht0 : t0 ≤ 1048576) (Hs : Hid (SpecTells len0 y0 r0 t0 c)) (Hi : Hid (ImplTells len0 y0 r0 t0 c)) :
    Calls Try.prog 6 #[.slice a0 len0 cap0] w fun e w' => e = .returned (.bool true) ∧ Below w.heap.size w w' := by
  have hL0 : (len0 : Int) ≤ 1048576 := by omega
  have hN0 : (0 : Int) ≤ (len0 : Int) := Int.natCast_nonneg _
  have hT0 : (t0 : Int) ≤ 1048576 := by omega
  have hU0 : (0 : Int) ≤ (t0 : Int) := Int.natCast_nonneg _
  go_enter Try.func6, Try.ntmps6
  go_wp2_with fail
  refine (Move_size _ _ _ _ _ (by omega) (by omega) (by omega)).mono ?_
  rw [if_pos (by omega)]
  rintro e w' ⟨rfl, hw⟩
  rw [hw]
  clear hw w'
  have hleft0 : 0 ≤ (1048576 : Int) - (len0 : Int) := by omega
  go_wp2_with fail
  refine (Move_list _ _ _ y0 _ hz0 hl0 h0).mono ?_
  rintro e w1 ⟨rfl, hM, hB⟩
  have A0_1 : Hid (Mine w1 w.heap.size (some ⟨w.heap.size, 0, none⟩) y0) := hM
  have BW1 : Hid (Below w.heap.size w w1) := hB
  clear hM hB
  go_wp2_with fail
  refine (Hs.out _ _ _ A0_1.out.ints (Nat.le_refl _) hl0).mono ?_
  rintro e w2 ⟨sa0, sc0, rfl, hS0, hB⟩
  have S0 : Hid (Ints w2 sa0 r0) := hS0
  have BW2 : Hid (Below w.heap.size w w2) := BW1.out.trans (hB.mono BW1.out.size)
  clear hB hS0
  go_wp2_with fail
  refine (Move_list _ _ _ y0 _ hz0 hl0 (h0.out.kept BW2.out)).mono ?_
  rintro e w3 ⟨rfl, hM, hB⟩
  have X0_3 : Hid (Mine w3 w2.heap.size (some ⟨w2.heap.size, 0, none⟩) y0) := hM
  have BW3 : Hid (Below w.heap.size w w3) := BW2.out.trans (hB.mono BW2.out.size)
  have BS3 : Hid (Below w2.heap.size w2 w3) := hB
  have SZ3 : Hid (w2.heap.size ≤ w3.heap.size) := hB.size
  have HX0 : Hid (0 < len0 → w2.heap.size < w3.heap.size) := fun h0 => mine_lt hM (by have := hz0.out; omega)
  clear hM hB
  go_wp2_with fail
  refine (Hi.out _ _ _ X0_3.out.ints (Nat.le_refl _) hl0).mono ?_
  rintro e w4 ⟨ga0, gc0, rfl, hM0, hB⟩
  have G0_4 : Hid (Mine w4 w3.heap.size ga0 r0) := hM0
  have BW4 : Hid (Below w.heap.size w w4) := BW3.out.trans (hB.mono BW3.out.size)
  have BS4 : Hid (Below w2.heap.size w2 w4) := BS3.out.trans (hB.mono BS3.out.size)
  have SZ4 : Hid (w3.heap.size ≤ w4.heap.size) := hB.size
  have X0_4 : Hid (Mine w4 w2.heap.size (some ⟨w2.heap.size, 0, none⟩) y0) := X0_3.out.kept hB
  clear hB hM0
  go_wp2_with fail
  refine (Move_same _ _ _ _ _ r0 _ hr0 ht0 G0_4.out.ints (S0.out.kept BS4.out)).mono ?_
  rintro e w5 ⟨rfl, hB⟩
  have BW5 : Hid (Below w.heap.size w w5) := BW4.out.trans (hB.mono BW4.out.size)
  have BS5 : Hid (Below w2.heap.size w2 w5) := BS4.out.trans (hB.mono BS4.out.size)
  have SZ5 : Hid (w4.heap.size ≤ w5.heap.size) := hB.size
  have X0_5 : Hid (Mine w5 w2.heap.size (some ⟨w2.heap.size, 0, none⟩) y0) := X0_4.out.kept hB
  have G0_5 : Hid (Mine w5 w3.heap.size ga0 r0) := G0_4.out.kept hB
  clear hB
  go_wp2_with fail
  refine (Move_list _ _ _ y0 _ hz0 hl0 (h0.out.kept BW5.out)).mono ?_
  rintro e w6 ⟨rfl, hM, hB⟩
  have Z0_6 : Hid (Mine w6 w5.heap.size (some ⟨w5.heap.size, 0, none⟩) y0) := hM
  have BW6 : Hid (Below w.heap.size w w6) := BW5.out.trans (hB.mono BW5.out.size)
  have BS6 : Hid (Below w2.heap.size w2 w6) := BS5.out.trans (hB.mono BS5.out.size)
  have SZ6 : Hid (w5.heap.size ≤ w6.heap.size) := hB.size
  have X0_6 : Hid (Mine w6 w2.heap.size (some ⟨w2.heap.size, 0, none⟩) y0) := X0_5.out.kept hB
  have G0_6 : Hid (Mine w6 w3.heap.size ga0 r0) := G0_5.out.kept hB
  clear hM hB
  go_wp2_with fail
  refine (Move_same _ _ _ _ _ y0 _ hz0 hl0 X0_6.out.ints Z0_6.out.ints).mono ?_
  rintro e w7 ⟨rfl, hB⟩
  have BW7 : Hid (Below w.heap.size w w7) := BW6.out.trans (hB.mono BW6.out.size)
  have BS7 : Hid (Below w2.heap.size w2 w7) := BS6.out.trans (hB.mono BS6.out.size)
  have SZ7 : Hid (w6.heap.size ≤ w7.heap.size) := hB.size
  have X0_7 : Hid (Mine w7 w2.heap.size (some ⟨w2.heap.size, 0, none⟩) y0) := X0_6.out.kept hB
  have G0_7 : Hid (Mine w7 w3.heap.size ga0 r0) := G0_6.out.kept hB
  have Z0_7 : Hid (Mine w7 w5.heap.size (some ⟨w5.heap.size, 0, none⟩) y0) := Z0_6.out.kept hB
  clear hB
  go_wp2_with fail
  refine (Move_mark2 _ _ _ y0 _ _ hz0 hl0 X0_7).mono ?_
  rintro e w8 ⟨rfl, _, hO⟩
  have BW8 : Hid (Below w.heap.size w w8) := BW7.out.trans (hO.below.mono BW2.out.size)
  have BS8 : Hid (Below w2.heap.size w2 w8) := BS7.out.trans (hO.below.mono (Nat.le_refl _))
  have G0_8 : Hid (Mine w8 w3.heap.size ga0 r0) := hO.new (fun h0 => by have q := HX0.out h0;  omega) G0_7.out
  clear hO
  have hk : (0 : Int) ≤ ((len0 : Int) * 2 + 1) := by omega
  go_wp2_with fail
  refine (Move_same _ _ _ _ _ r0 _ hr0 ht0 G0_8.out.ints (S0.out.kept BS8.out)).mono ?_
  rintro e w9 ⟨rfl, hB⟩
  have BW9 : Hid (Below w.heap.size w w9) := BW8.out.trans (hB.mono BW8.out.size)
  have BS9 : Hid (Below w2.heap.size w2 w9) := BS8.out.trans (hB.mono BS8.out.size)
  have SZ9 : Hid (w8.heap.size ≤ w9.heap.size) := hB.size
  have G0_9 : Hid (Mine w9 w3.heap.size ga0 r0) := G0_8.out.kept hB
  clear hB
  go_wp2_with fail
  refine (Move_mark2 _ _ _ r0 _ _ hr0 ht0 G0_9).mono ?_
  rintro e w10 ⟨rfl, hM, hO⟩
  have BW10 : Hid (Below w.heap.size w w10) := BW9.out.trans (hO.below.mono BW3.out.size)
  have BS10 : Hid (Below w2.heap.size w2 w10) := BS9.out.trans (hO.below.mono BS3.out.size)
  have G0_10 : Hid (Mine w10 w3.heap.size ga0 (upFrom 1 (t0 * 2))) := hM
  clear hM hO
  go_wp2_with fail
  refine (Move_held _ _ _ _ ht0 G0_10.out.ints).mono ?_
  rintro e w' ⟨rfl, hw⟩
  rw [hw]
  clear hw w'
  have hq10_0 : (0 : Int) ≤ ((t0 : Int) * 2 + 1) := by omega
  go_wp2_with fail
  refine (Move_list _ _ _ y0 _ hz0 hl0 (h0.out.kept BW10.out)).mono ?_
  rintro e w11 ⟨rfl, hM, hB⟩
  have A0_11 : Hid (Mine w11 w10.heap.size (some ⟨w10.heap.size, 0, none⟩) y0) := hM
  have BW11 : Hid (Below w.heap.size w w11) := BW10.out.trans (hB.mono BW10.out.size)
  have BS11 : Hid (Below w2.heap.size w2 w11) := BS10.out.trans (hB.mono BS10.out.size)
  have SZ11 : Hid (w10.heap.size ≤ w11.heap.size) := hB.size
  have G0_11 : Hid (Mine w11 w3.heap.size ga0 (upFrom 1 (t0 * 2))) := G0_10.out.kept hB
  clear hM hB
  go_wp2_with fail
  refine (Hi.out _ _ _ A0_11.out.ints (Nat.le_refl _) hl0).mono ?_
  rintro e w12 ⟨ha0, hc0, rfl, hM0, hB⟩
  have H0_12 : Hid (Mine w12 w11.heap.size ha0 r0) := hM0
  have BW12 : Hid (Below w.heap.size w w12) := BW11.out.trans (hB.mono BW11.out.size)
  have BS12 : Hid (Below w2.heap.size w2 w12) := BS11.out.trans (hB.mono BS11.out.size)
  have SZ12 : Hid (w11.heap.size ≤ w12.heap.size) := hB.size
  have G0_12 : Hid (Mine w12 w3.heap.size ga0 (upFrom 1 (t0 * 2))) := G0_11.out.kept hB
  have A0_12 : Hid (Mine w12 w10.heap.size (some ⟨w10.heap.size, 0, none⟩) y0) := A0_11.out.kept hB
  clear hB hM0
  go_wp2_with fail
  refine (Move_same _ _ _ _ _ r0 _ hr0 ht0 H0_12.out.ints (S0.out.kept BS12.out)).mono ?_
  rintro e w13 ⟨rfl, hB⟩
  have BW13 : Hid (Below w.heap.size w w13) := BW12.out.trans (hB.mono BW12.out.size)
  have BS13 : Hid (Below w2.heap.size w2 w13) := BS12.out.trans (hB.mono BS12.out.size)
  have SZ13 : Hid (w12.heap.size ≤ w13.heap.size) := hB.size
  have G0_13 : Hid (Mine w13 w3.heap.size ga0 (upFrom 1 (t0 * 2))) := G0_12.out.kept hB
  have H0_13 : Hid (Mine w13 w11.heap.size ha0 r0) := H0_12.out.kept hB
  clear hB
  go_wp2_with fail
  refine (Move_held _ _ _ _ ht0 G0_13.out.ints).mono ?_
  rintro e w' ⟨rfl, hw⟩
  rw [hw]
  clear hw w'
  have hq13_0 : (0 : Int) ≤ ((t0 : Int) * 2 + 1) := by omega
  go_wp2
  go_ret
  exact ⟨rfl, BW13.out⟩
theorem walk (a0 : Option Addr) (len0 cap0 : Nat) (z0 : List Int) (w : World) (w0 : Ints w a0 z0) (n0 : z0.length = len0 * 2) (b0 : len0 ≤ 140737488351232) :
    Calls Try.prog 6 #[.slice a0 len0 cap0] w fun e w' => e = .returned (.bool true) ∧ Below w.heap.size w w' := by
  by_cases h1 : len0 ≤ 1048576
  · cases hcw : movesB z0 len0
    · refine walk_of a0 cap0 len0 z0 [] 0 false w n0 h1 w0 rfl (by omega) ?_ ?_
      · intro W a c hA q0 q1
        refine (spec_laymoves a len0 c z0 W n0 h1 q0 (Nat.le_trans q1 (by unfold maxLen; omega)) hA).mono ?_
        rintro e W' ⟨hB, (⟨h, _⟩ | ⟨_, rfl⟩)⟩
        · rw [hcw] at h; cases h
        · exact ⟨none, 0, rfl, Or.inl rfl, hB⟩
      · intro W a c hA q0 q1
        refine (impl_laymoves a len0 c z0 W n0 h1 hA).mono ?_
        rintro e W' ⟨hB, (⟨h, _⟩ | ⟨_, rfl⟩)⟩
        · rw [hcw] at h; cases h
        · exact ⟨none, 0, rfl, Or.inl rfl, hB⟩
    · obtain ⟨m, hm, he⟩ := laid_size z0 len0
      refine walk_of a0 cap0 len0 z0 (laidL z0 len0) (m) true w n0 h1 w0 (he) (by omega) ?_ ?_
      · intro W a c hA q0 q1
        refine (spec_laymoves a len0 c z0 W n0 h1 q0 (Nat.le_trans q1 (by unfold maxLen; omega)) hA).mono ?_
        rintro e W' ⟨hB, (⟨_, v, m2, rfl, hO⟩ | ⟨h, _⟩)⟩
        · obtain ⟨g, d, rfl, _, _, hM⟩ := hO.mine
          have hl := hO.len
          obtain rfl : m = m2 := by omega
          exact ⟨g, d, rfl, hM.ints, hB⟩
        · rw [hcw] at h; cases h
      · intro W a c hA q0 q1
        refine (impl_laymoves a len0 c z0 W n0 h1 hA).mono ?_
        rintro e W' ⟨hB, (⟨_, v, m2, rfl, hO⟩ | ⟨h, _⟩)⟩
        · obtain ⟨g, d, rfl, _, _, hM⟩ := hO.mine
          have hl := hO.len
          obtain rfl : m = m2 := by omega
          exact ⟨g, d, rfl, hM, hB⟩
        · rw [hcw] at h; cases h
  · have hno : 1048576 < (len0 : Int) := by omega
    go_enter Try.func6, Try.ntmps6
    go_wp2_with fail
    refine (Move_size _ _ _ _ _ (by omega) (by omega) (by omega)).mono ?_
    rw [if_neg (by omega)]
    rintro e w' ⟨rfl, rfl⟩
    go_wp2
    go_ret
    exact ⟨rfl, Below.refl _ _⟩

set_option maxRecDepth 100000 in
theorem lifted (os : Os) (started : os.Started) (H : Type) (enc : TypeId × Value → H) :
    ReturnsInHanded {} Try.checked os 6 .any (Rows.fnExactLayMovesSpec.pre6 enc Try.prog Try.f6 Rows.fnExactLayMovesRow.domain false) (Rows.fnExactLayMovesSpec.post enc Try.prog Try.f6 false true false false) := by
  refine returnsInHanded_of_change_sized (C := Try.checked) own started (by kernel_rfl) Try.func6
    (ChangeSpec.witness6 (enc := enc) (C := Try.checked) false ⟨#[], #[.slice none 0 0], []⟩ 8 (by kernel_rfl) (by kernel_rfl) (by kernel_rfl) (by kernel_rfl)) ?_
  intro W base args ds gs before hval0 hW hcnd hsz0 _
  have hval : ∀ (j : Nat) t v, Try.f6.params[j]? = some t → args[j]? = some v → Value.okWide Try.prog W .any base t v := hval0
  have hW' := hW
  obtain ⟨p, q, hA0, hV, rfl, hfz, hnd⟩ := hW
  have hsz : (DataW.weightsEach Try.prog (Try.f6.params.toList ++ Rows.fnExactLayMovesSpec.plain.varTypes Try.prog) (ds ++ gs)).all (· ≤ reachBytes) = true := hsz0
  have hA : DataW.TrodAll enc Try.prog W 0 (fun _ => true) true Try.f6.params.toList args.toList ds p := hA0
  rw [Try.params6] at hA hval hsz
  obtain ⟨v0, vs0, d0, ds0, p0, q0, hargs, rfl, rfl, h0, r0⟩ := trodAll_cons hA
  obtain ⟨rfl, rfl, rfl⟩ := trodAll_nil r0
  obtain rfl : args = #[v0] := by cases args; simp_all
  obtain ⟨rfl, rfl⟩ := trodVars_none hV
  obtain ⟨a0, len0, cap0, rfl⟩ := okWide_slice Try.underlying22 (hval 0 22 v0 rfl rfl)
  have k0 := h0
  have lt0 : ∀ x ∈ p0, x.block < W.heap.size := by obtain ⟨m, hm⟩ := k0; exact DataW.trod_lt m _ _ _ hm
  obtain ⟨z0, w0, n0, b0⟩ : ∃ zs, Ints W a0 zs ∧ zs.length = len0 * 2 ∧ len0 ≤ 140737488351232 := by
    obtain ⟨fuel, hf⟩ := h0
    rcases open_flat Try.underlying22 Try.underlying50 (show Try.prog.cellsOf 50 = 2 by kernel_rfl) rfl (by
      intro i f h
      match i, h with
      | 0, h => obtain rfl := Option.some.inj h; exact ⟨rfl, (show Try.prog.cellsOf 3 = 1 by kernel_rfl), Try.underlying3⟩
      | 1, h => obtain rfl := Option.some.inj h; exact ⟨rfl, (show Try.prog.cellsOf 3 = 1 by kernel_rfl), Try.underlying3⟩
      | i + 2, h => simp at h) hf with hcs | ⟨a, l, c, m, D, E, hcs, hl, hm, hlm, hx, hcell⟩
    · simp [Value.cells] at hcs
      obtain ⟨rfl, rfl, rfl⟩ := hcs
      exact ⟨[], .inl rfl, by simp, by omega⟩
    · simp [Value.cells] at hcs
      obtain ⟨rfl, rfl, rfl⟩ := hcs
      obtain ⟨zs, hz, hi⟩ := flat_of (by decide) hlm hcell
      have hs := sized_slice hsz (j := 0) (t := 22) (e := 50) rfl (by rw [show d0 = _ from hx]; rfl) Try.underlying22
      rw [show Try.prog.bytesOf 50 = 16 by kernel_rfl] at hs
      simp only [List.length_map, List.length_range, reachBytes] at hs
      exact ⟨zs, hi, hz, by omega⟩
  clear hA0 hval0
  refine (walk a0 len0 cap0 z0 W w0 n0 b0).mono fun e W' ⟨he, bel⟩ => ?_
  subst he
  exact ⟨_, rfl, _, _, _, [], _, [], hW', trodAll_mk1 (shut_bool Try.underlying4 _), (trodAll_cons_mk (Below.trod laidOut (by kernel_rfl) (of_decide_eq_true (by kernel_rfl)) k0 bel lt0) trodAll_mk0), rfl, bel.frame _, fun h => by cases h⟩

theorem over : Rows.fnExactLayMovesRow.holds Try.pinned (OpenSpec.ofChange Rows.fnExactLayMovesSpec) :=
  OpenClaim.holds_of_wide 6 Try.f6 rfl rfl rfl rfl rfl rfl rfl ⟨rfl, rfl, rfl, rfl, rfl⟩ rfl rfl rfl rfl rfl (by kernel_rfl) Try.func6 (by kernel_rfl)
    (of_decide_eq_true (by kernel_rfl)) (by unfold Func.isWrapper; first | (rw [if_pos (by decide +kernel)]; kernel_rfl) | (rw [if_neg (by decide +kernel)]; exact ⟨rfl, rfl⟩))
    (fun os started H enc _ => lifted os started H enc)

theorem proved : Rows.FnExactLayMovesSaid :=
  over
#print axioms proved
end Go.Proofs.Ythjcgnldlhjjmaa.fnExactLayMoves
