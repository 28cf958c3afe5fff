/-
  Of every number of blocks and all edges: the program tells whether they are good as the specification does, and writes into nothing that was there.
-/
import Derived.Test.YtaepabaabngdiaaRows
import Derived.WalkKit
import Derived.ProofKit
import Derived.OpenShut
import Derived.ShutString
import Derived.ChangeOld
import Derived.Below
import Derived.Carry
import Derived.SizedLaws
import Derived.Test.YtaepabaabngdiaaOpenFlat
import Derived.Test.YtaepabaabngdiaaMagMath
import Derived.Test.YtaepabaabngdiaaEdgeMath
import Derived.Test.YtaepabaabngdiaaInts
import Derived.Test.YtaepabaabngdiaaRecsEdge
import Derived.Test.YtaepabaabngdiaaEdgeSpec
import Derived.Test.YtaepabaabngdiaaEdgeImpl
import Derived.Test.YtaepabaabngdiaaGoodImpl
namespace Go.Proofs.Ytaepabaabngdiaa.fnExactGoodEdges
open Go.ChangeShapes Go.WideShapes Go.ChangeAt Go.RowKit
open Go.ChangeMaps (open_string shut_string)
open Go.Proofs.Ytaepabaabngdiaa.math
open Go.Proofs.Ytaepabaabngdiaa.ints
open Go.Proofs.Ytaepabaabngdiaa.walks
set_option linter.unusedVariables false

theorem own : ownKnob Try.prog.godebug = none := by kernel_rfl
theorem laidOut : laidOutB Try.prog = true := by kernel_rfl

def SpecTells (u0 : Int) (len1 : Nat) (y1 : List Int) (p0 : Bool) : Prop := ∀ (W : World) (a1 : Option Addr) (cap1 : Nat), Ints W a1 y1 → len1 ≤ cap1 → cap1 ≤ 1048576 → Calls Try.prog 10 #[.int .i64 u0, .slice a1 len1 cap1] W fun e W' => e = .returned (.bool p0) ∧ Below W.heap.size W W'
def ImplTells (u0 : Int) (len1 : Nat) (y1 : List Int) (p0 : Bool) : Prop := ∀ (W : World) (a1 : Option Addr) (cap1 : Nat), Ints W a1 y1 → len1 ≤ cap1 → cap1 ≤ 1048576 → Calls Try.prog 12 #[.int .i64 u0, .slice a1 len1 cap1] W fun e W' => e = .returned (.bool p0) ∧ Below W.heap.size W W'
set_option maxHeartbeats 16000000 in
set_option maxRecDepth 100000 in
theorem walk_of (a1 : Option Addr) (cap1 : Nat) (u0 : Int) (len1 : Nat) (y1 : List Int) (p0 : Bool) (w : World) (hz1 : Hid (y1.length = len1 * 3)) (hl1 : len1 ≤ 1048576) (h1 : Hid (Ints w a1 y1)) (Hs : Hid (SpecTells u0 len1 y1 p0)) (Hi : Hid (ImplTells u0 len1 y1 p0)) :
    Calls Try.prog 3 #[.int .i64 u0, .slice a1 len1 cap1] w fun e w' => e = .returned (.bool true) ∧ Below w.heap.size w w' := by
  have hL1 : (len1 : Int) ≤ 1048576 := by omega
  have hN1 : (0 : Int) ≤ (len1 : Int) := Int.natCast_nonneg _
  have hpe0 : (p0 != p0) = false := by cases p0 <;> rfl
  go_enter Try.func3, Try.ntmps3
  go_wp2_with fail
  refine (Edge_size _ _ _ _ _ (by omega) (by omega) (by omega)).mono ?_
  rw [if_pos (by omega)]
  rintro e w' ⟨rfl, hw⟩
  rw [hw]
  clear hw w'
  have hleft1 : 0 ≤ (1048576 : Int) - (len1 : Int) := by omega
  go_wp2_with fail
  refine (Edge_list _ _ _ y1 _ hz1 hl1 h1).mono ?_
  rintro e w1 ⟨rfl, hM, hB⟩
  have A1_1 : Hid (Mine w1 w.heap.size (some ⟨w.heap.size, 0, none⟩) y1) := hM
  have BW1 : Hid (Below w.heap.size w w1) := hB
  clear hM hB
  go_wp2_with fail
  refine (Hs.out _ _ _ A1_1.out.ints (Nat.le_refl _) hl1).mono ?_
  rintro e w2 ⟨rfl, hB⟩
  have BW2 : Hid (Below w.heap.size w w2) := BW1.out.trans (hB.mono BW1.out.size)
  clear hB
  go_wp2_with fail
  refine (Edge_list _ _ _ y1 _ hz1 hl1 (h1.out.kept BW2.out)).mono ?_
  rintro e w3 ⟨rfl, hM, hB⟩
  have X1_3 : Hid (Mine w3 w2.heap.size (some ⟨w2.heap.size, 0, none⟩) y1) := hM
  have BW3 : Hid (Below w.heap.size w w3) := BW2.out.trans (hB.mono BW2.out.size)
  have BS3 : Hid (Below w2.heap.size w2 w3) := hB
  have SZ3 : Hid (w2.heap.size ≤ w3.heap.size) := hB.size
  clear hM hB
  go_wp2_with fail
  refine (Hi.out _ _ _ X1_3.out.ints (Nat.le_refl _) hl1).mono ?_
  rintro e w4 ⟨rfl, hB⟩
  have BW4 : Hid (Below w.heap.size w w4) := BW3.out.trans (hB.mono BW3.out.size)
  have BS4 : Hid (Below w2.heap.size w2 w4) := BS3.out.trans (hB.mono BS3.out.size)
  have SZ4 : Hid (w3.heap.size ≤ w4.heap.size) := hB.size
  have X1_4 : Hid (Mine w4 w2.heap.size (some ⟨w2.heap.size, 0, none⟩) y1) := X1_3.out.kept hB
  clear hB
  go_wp2_with fail
  refine (Edge_list _ _ _ y1 _ hz1 hl1 (h1.out.kept BW4.out)).mono ?_
  rintro e w5 ⟨rfl, hM, hB⟩
  have Z1_5 : Hid (Mine w5 w4.heap.size (some ⟨w4.heap.size, 0, none⟩) y1) := hM
  have BW5 : Hid (Below w.heap.size w w5) := BW4.out.trans (hB.mono BW4.out.size)
  have BS5 : Hid (Below w2.heap.size w2 w5) := BS4.out.trans (hB.mono BS4.out.size)
  have SZ5 : Hid (w4.heap.size ≤ w5.heap.size) := hB.size
  have X1_5 : Hid (Mine w5 w2.heap.size (some ⟨w2.heap.size, 0, none⟩) y1) := X1_4.out.kept hB
  clear hM hB
  go_wp2_with fail
  refine (Edge_same _ _ _ _ _ y1 _ hz1 hl1 X1_5.out.ints Z1_5.out.ints).mono ?_
  rintro e w6 ⟨rfl, hB⟩
  have BW6 : Hid (Below w.heap.size w w6) := BW5.out.trans (hB.mono BW5.out.size)
  have BS6 : Hid (Below w2.heap.size w2 w6) := BS5.out.trans (hB.mono BS5.out.size)
  have SZ6 : Hid (w5.heap.size ≤ w6.heap.size) := hB.size
  have X1_6 : Hid (Mine w6 w2.heap.size (some ⟨w2.heap.size, 0, none⟩) y1) := X1_5.out.kept hB
  have Z1_6 : Hid (Mine w6 w4.heap.size (some ⟨w4.heap.size, 0, none⟩) y1) := Z1_5.out.kept hB
  clear hB
  go_wp2
  go_ret
  exact ⟨rfl, BW6.out⟩
theorem walk (a0 : Int) (w0 : (Lit.int .i64 a0).wf = true) (a1 : Option Addr) (len1 cap1 : Nat) (z1 : List Int) (w : World) (w1 : Ints w a1 z1) (n1 : z1.length = len1 * 3) (b1 : len1 ≤ 140737488351232) :
    Calls Try.prog 3 #[.int .i64 a0, .slice a1 len1 cap1] w fun e w' => e = .returned (.bool true) ∧ Below w.heap.size w w' := by
  by_cases hl1 : len1 ≤ 1048576
  rotate_left
  · have hb1 : (1048576 : Int) < (len1 : Int) := by omega
    go_enter Try.func3, Try.ntmps3
    go_wp2_with fail
    refine (Edge_size _ _ _ _ _ (by omega) (by omega) (by omega)).mono ?_
    rw [if_neg (by omega)]
    rintro e w' ⟨rfl, rfl⟩
    go_wp2
    go_ret
    exact ⟨rfl, Below.refl _ _⟩
  exact walk_of a1 cap1 a0 len1 z1 (edgesB z1 a0 len1) w n1 hl1 w1
    (fun W a c hA q0 q1 => (spec_edges a len1 c a0 z1 W n1 hl1 q0 q1 hA).mono fun e W' hh => ⟨hh.1, hh.2⟩)
    (fun W a c hA q0 q1 => (impl_edges a len1 c a0 z1 W n1 hl1 hA).mono fun e W' hh => ⟨hh.1, hh.2⟩)

set_option maxRecDepth 100000 in
theorem lifted (os : Os) (started : os.Started) (H : Type) (enc : TypeId × Value → H) :
    ReturnsInHanded {} Try.checked os 3 .any (Rows.fnExactGoodEdgesSpec.pre6 enc Try.prog Try.f3 Rows.fnExactGoodEdgesRow.domain false) (Rows.fnExactGoodEdgesSpec.post enc Try.prog Try.f3 false true false false) := by
  refine returnsInHanded_of_change_sized (C := Try.checked) own started (by kernel_rfl) Try.func3
    (ChangeSpec.witness6 (enc := enc) (C := Try.checked) false ⟨#[], #[.int .i64 0, .slice none 0 0], []⟩ 8 (by kernel_rfl) (by kernel_rfl) (by kernel_rfl) (by kernel_rfl)) ?_
  intro W base args ds gs before hval0 hW hcnd hsz0 _
  have hval : ∀ (j : Nat) t v, Try.f3.params[j]? = some t → args[j]? = some v → Value.okWide Try.prog W .any base t v := hval0
  have hW' := hW
  obtain ⟨p, q, hA0, hV, rfl, hfz, hnd⟩ := hW
  have hsz : (DataW.weightsEach Try.prog (Try.f3.params.toList ++ Rows.fnExactGoodEdgesSpec.plain.varTypes Try.prog) (ds ++ gs)).all (· ≤ reachBytes) = true := hsz0
  have hA : DataW.TrodAll enc Try.prog W 0 (fun _ => true) true Try.f3.params.toList args.toList ds p := hA0
  rw [Try.params3] at hA hval hsz
  obtain ⟨v0, vs0, d0, ds0, p0, q0, hargs, rfl, rfl, h0, r0⟩ := trodAll_cons hA
  obtain ⟨v1, vs1, d1, ds1, p1, q1, rfl, rfl, rfl, h1, r1⟩ := trodAll_cons r0
  obtain ⟨rfl, rfl, rfl⟩ := trodAll_nil r1
  obtain rfl : args = #[v0, v1] := by cases args; simp_all
  obtain ⟨rfl, rfl⟩ := trodVars_none hV
  have k0 := h0
  have lt0 : ∀ x ∈ p0, x.block < W.heap.size := by obtain ⟨m, hm⟩ := k0; exact DataW.trod_lt m _ _ _ hm
  obtain ⟨a0, rfl, rfl, rfl, w0⟩ := open_int Try.underlying3 (hval 0 3 v0 rfl rfl) h0
  obtain ⟨a1, len1, cap1, rfl⟩ := okWide_slice Try.underlying22 (hval 1 22 v1 rfl rfl)
  have k1 := h1
  have lt1 : ∀ x ∈ p1, x.block < W.heap.size := by obtain ⟨m, hm⟩ := k1; exact DataW.trod_lt m _ _ _ hm
  obtain ⟨z1, w1, n1, b1⟩ : ∃ zs, Ints W a1 zs ∧ zs.length = len1 * 3 ∧ len1 ≤ 140737488351232 := by
    obtain ⟨fuel, hf⟩ := h1
    rcases open_flat Try.underlying22 Try.underlying50 (show Try.prog.cellsOf 50 = 3 by kernel_rfl) rfl (by
      intro i f h
      match i, h with
      | 0, h => obtain rfl := Option.some.inj h; exact ⟨rfl, (show Try.prog.cellsOf 3 = 1 by kernel_rfl), Try.underlying3⟩
      | 1, h => obtain rfl := Option.some.inj h; exact ⟨rfl, (show Try.prog.cellsOf 3 = 1 by kernel_rfl), Try.underlying3⟩
      | 2, h => obtain rfl := Option.some.inj h; exact ⟨rfl, (show Try.prog.cellsOf 3 = 1 by kernel_rfl), Try.underlying3⟩
      | i + 3, h => simp at h) hf with hcs | ⟨a, l, c, m, D, E, hcs, hl, hm, hlm, hx, hcell⟩
    · simp [Value.cells] at hcs
      obtain ⟨rfl, rfl, rfl⟩ := hcs
      exact ⟨[], .inl rfl, by simp, by omega⟩
    · simp [Value.cells] at hcs
      obtain ⟨rfl, rfl, rfl⟩ := hcs
      obtain ⟨zs, hz, hi⟩ := flat_of (by decide) hlm hcell
      have hs := sized_slice hsz (j := 1) (t := 22) (e := 50) rfl (by rw [show d1 = _ from hx]; rfl) Try.underlying22
      rw [show Try.prog.bytesOf 50 = 24 by kernel_rfl] at hs
      simp only [List.length_map, List.length_range, reachBytes] at hs
      exact ⟨zs, hi, hz, by omega⟩
  clear hA0 hval0
  refine (walk a0 w0 a1 len1 cap1 z1 W w1 n1 b1).mono fun e W' ⟨he, bel⟩ => ?_
  subst he
  exact ⟨_, rfl, _, _, _, [], _, [], hW', trodAll_mk1 (shut_bool Try.underlying4 _), (trodAll_cons_mk (Below.trod laidOut (by kernel_rfl) (of_decide_eq_true (by kernel_rfl)) k0 bel lt0) (trodAll_cons_mk (Below.trod laidOut (by kernel_rfl) (of_decide_eq_true (by kernel_rfl)) k1 bel lt1) trodAll_mk0)), rfl, bel.frame _, fun h => by cases h⟩

theorem over : Rows.fnExactGoodEdgesRow.holds Try.pinned (OpenSpec.ofChange Rows.fnExactGoodEdgesSpec) :=
  OpenClaim.holds_of_wide 3 Try.f3 rfl rfl rfl rfl rfl rfl rfl ⟨rfl, rfl, rfl, rfl, rfl⟩ rfl rfl rfl rfl rfl (by kernel_rfl) Try.func3 (by kernel_rfl)
    (of_decide_eq_true (by kernel_rfl)) (by unfold Func.isWrapper; first | (rw [if_pos (by decide +kernel)]; kernel_rfl) | (rw [if_neg (by decide +kernel)]; exact ⟨rfl, rfl⟩))
    (fun os started H enc _ => lifted os started H enc)

theorem proved : Rows.FnExactGoodEdgesSaid :=
  over
#print axioms proved
end Go.Proofs.Ytaepabaabngdiaa.fnExactGoodEdges
