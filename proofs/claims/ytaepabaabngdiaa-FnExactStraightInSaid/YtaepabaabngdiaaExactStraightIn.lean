/-
  Of every number of blocks, all edges and every order: the program tells what goes straight on as the specification does, and writes into nothing that was there.
-/
import Derived.Test.YtaepabaabngdiaaRows
import Derived.WalkKit
import Derived.ProofKit
import Derived.OpenShut
import Derived.ShutString
import Derived.ChangeOld
import Derived.Below
import Derived.Carry
import Derived.SizedLaws
import Derived.Test.YtaepabaabngdiaaOpenFlat
import Derived.Test.YtaepabaabngdiaaMagMath
import Derived.Test.YtaepabaabngdiaaEdgeMath
import Derived.Test.YtaepabaabngdiaaGoneMath
import Derived.Test.YtaepabaabngdiaaInts
import Derived.Test.YtaepabaabngdiaaRecsEdge
import Derived.Test.YtaepabaabngdiaaEdgeSpec
import Derived.Test.YtaepabaabngdiaaEdgeImpl
import Derived.Test.YtaepabaabngdiaaGoodImpl
import Derived.Test.YtaepabaabngdiaaGone
namespace Go.Proofs.Ytaepabaabngdiaa.fnExactStraightIn
open Go.ChangeShapes Go.WideShapes Go.ChangeAt Go.RowKit
open Go.ChangeMaps (open_string shut_string)
open Go.Proofs.Ytaepabaabngdiaa.math
open Go.Proofs.Ytaepabaabngdiaa.ints
open Go.Proofs.Ytaepabaabngdiaa.walks
set_option linter.unusedVariables false

theorem own : ownKnob Try.prog.godebug = none := by kernel_rfl
theorem laidOut : laidOutB Try.prog = true := by kernel_rfl

/-- What is known of a slice of integers that came in: it is nil, or leads to a row of cells, the numbers zs, each fitting its kind. -/
def IsRow (k : IntKind) (w : World) (a : Option Addr) (len cap : Nat) (zs : List Int) : Prop :=
  (a = none ∧ len = 0 ∧ cap = 0 ∧ zs = []) ∨
  ∃ x, a = some x ∧ len ≤ cap ∧ cap ≤ maxLen ∧ zs.length = cap ∧ (∀ i, i < zs.length → w.cell? (x.add i) = some (.int k (zs.getD i 0))) ∧ ∀ n ∈ zs, (Lit.int k n).wf = true

theorem row_ints {W : World} {a : Option Addr} {len cap : Nat} {z : List Int} (h : IsRow .i64 W a len cap z) : ∃ zs : List Int, zs.length = len ∧ Ints W a zs := by
  rcases h with ⟨rfl, rfl, rfl, rfl⟩ | ⟨x, rfl, hl, hm, hz, hc, _⟩
  · exact ⟨[], rfl, Or.inl rfl⟩
  · refine ⟨z.take len, by rw [List.length_take]; omega, ?_⟩
    by_cases h0 : len = 0
    · subst h0; exact Or.inl (by simp)
    · obtain ⟨b, off, spot⟩ := x
      have c0 := hc 0 (by omega)
      have hs : spot = none := by simpa [Addr.add] using World.cell?_spot c0
      subst hs
      have ha : ∀ i, (⟨b, off, none⟩ : Addr).add i = ⟨b, off + i, none⟩ := fun i => by
        unfold Addr.add
        split
        · rename_i h; subst h; rfl
        · rfl
      have hb : b < W.heap.size := by simpa [Addr.add] using World.block_lt_of_cell? W _ c0
      refine Or.inr ⟨b, off, rfl, hb, fun i hi => ?_⟩
      rw [List.length_take] at hi
      rw [← ha, hc i (by omega)]
      simp [List.getD, show i < len by omega]
def SpecTells (u0 : Int) (len1 : Nat) (y1 : List Int) (len2 : Nat) (y2 : List Int) (p0 : Int) (p1 : Bool) : Prop := ∀ (W : World) (a1 : Option Addr) (cap1 : Nat) (a2 : Option Addr) (cap2 : Nat), Ints W a1 y1 → len1 ≤ cap1 → cap1 ≤ 1048576 → Ints W a2 y2 → len2 ≤ cap2 → cap2 ≤ 1048576 → Calls Try.prog 25 #[.int .i64 u0, .slice a1 len1 cap1, .slice a2 len2 cap2] W fun e W' => e = .returned (.tuple #[.int .i64 p0, .bool p1]) ∧ Below W.heap.size W W'
def ImplTells (u0 : Int) (len1 : Nat) (y1 : List Int) (len2 : Nat) (y2 : List Int) (p0 : Int) (p1 : Bool) : Prop := ∀ (W : World) (a1 : Option Addr) (cap1 : Nat) (a2 : Option Addr) (cap2 : Nat), Ints W a1 y1 → len1 ≤ cap1 → cap1 ≤ 1048576 → Ints W a2 y2 → len2 ≤ cap2 → cap2 ≤ 1048576 → Calls Try.prog 27 #[.int .i64 u0, .slice a1 len1 cap1, .slice a2 len2 cap2] W fun e W' => e = .returned (.tuple #[.int .i64 p0, .bool p1]) ∧ Below W.heap.size W W'
set_option maxHeartbeats 16000000 in
set_option maxRecDepth 100000 in
theorem walk_of (a1 : Option Addr) (cap1 : Nat) (a2 : Option Addr) (cap2 : Nat) (u0 : Int) (len1 : Nat) (y1 : List Int) (len2 : Nat) (y2 : List Int) (p0 : Int) (p1 : Bool) (w : World) (hz1 : Hid (y1.length = len1 * 3)) (hl1 : len1 ≤ 1048576) (h1 : Hid (Ints w a1 y1)) (hz2 : Hid (y2.length = len2)) (hl2 : len2 ≤ 1048576) (h2 : Hid (Ints w a2 y2)) (Hs : Hid (SpecTells u0 len1 y1 len2 y2 p0 p1)) (Hi : Hid (ImplTells u0 len1 y1 len2 y2 p0 p1)) :
    Calls Try.prog 6 #[.int .i64 u0, .slice a1 len1 cap1, .slice a2 len2 cap2] w fun e w' => e = .returned (.bool true) ∧ Below w.heap.size w w' := by
  have hL1 : (len1 : Int) ≤ 1048576 := by omega
  have hN1 : (0 : Int) ≤ (len1 : Int) := Int.natCast_nonneg _
  have hL2 : (len2 : Int) ≤ 1048576 := by omega
  have hN2 : (0 : Int) ≤ (len2 : Int) := Int.natCast_nonneg _
  have hpe0 : (p0 != p0) = false := by simp
  have hpe1 : (p1 != p1) = false := by cases p1 <;> rfl
  go_enter Try.func6, Try.ntmps6
  go_wp2_with fail
  refine (Edge_size _ _ _ _ _ (by omega) (by omega) (by omega)).mono ?_
  rw [if_pos (by omega)]
  rintro e w' ⟨rfl, hw⟩
  rw [hw]
  clear hw w'
  have hleft1 : 0 ≤ (1048576 : Int) - (len1 : Int) := by omega
  go_wp2_with fail
  refine (Edge_list _ _ _ y1 _ hz1 hl1 h1).mono ?_
  rintro e w1 ⟨rfl, hM, hB⟩
  have A1_1 : Hid (Mine w1 w.heap.size (some ⟨w.heap.size, 0, none⟩) y1) := hM
  have BW1 : Hid (Below w.heap.size w w1) := hB
  clear hM hB
  go_wp2_with fail
  refine (to_ints _ _ _ y2 _ hz2 hl2 (h2.out.kept BW1.out)).mono ?_
  rintro e w2 ⟨rfl, hM, hB⟩
  have A2_2 : Hid (Mine w2 w1.heap.size (some ⟨w1.heap.size, 0, none⟩) y2) := hM
  have BW2 : Hid (Below w.heap.size w w2) := BW1.out.trans (hB.mono BW1.out.size)
  have A1_2 : Hid (Mine w2 w.heap.size (some ⟨w.heap.size, 0, none⟩) y1) := A1_1.out.kept hB
  clear hM hB
  go_wp2_with fail
  refine (Hs.out _ _ _ _ _ A1_2.out.ints (Nat.le_refl _) hl1 A2_2.out.ints (Nat.le_refl _) hl2).mono ?_
  rintro e w3 ⟨rfl, hB⟩
  have BW3 : Hid (Below w.heap.size w w3) := BW2.out.trans (hB.mono BW2.out.size)
  clear hB
  go_wp2_with fail
  refine (Edge_list _ _ _ y1 _ hz1 hl1 (h1.out.kept BW3.out)).mono ?_
  rintro e w4 ⟨rfl, hM, hB⟩
  have X1_4 : Hid (Mine w4 w3.heap.size (some ⟨w3.heap.size, 0, none⟩) y1) := hM
  have BW4 : Hid (Below w.heap.size w w4) := BW3.out.trans (hB.mono BW3.out.size)
  have BS4 : Hid (Below w3.heap.size w3 w4) := hB
  have SZ4 : Hid (w3.heap.size ≤ w4.heap.size) := hB.size
  clear hM hB
  go_wp2_with fail
  refine (to_ints _ _ _ y2 _ hz2 hl2 (h2.out.kept BW4.out)).mono ?_
  rintro e w5 ⟨rfl, hM, hB⟩
  have X2_5 : Hid (Mine w5 w4.heap.size (some ⟨w4.heap.size, 0, none⟩) y2) := hM
  have BW5 : Hid (Below w.heap.size w w5) := BW4.out.trans (hB.mono BW4.out.size)
  have BS5 : Hid (Below w3.heap.size w3 w5) := BS4.out.trans (hB.mono BS4.out.size)
  have SZ5 : Hid (w4.heap.size ≤ w5.heap.size) := hB.size
  have X1_5 : Hid (Mine w5 w3.heap.size (some ⟨w3.heap.size, 0, none⟩) y1) := X1_4.out.kept hB
  clear hM hB
  go_wp2_with fail
  refine (Hi.out _ _ _ _ _ X1_5.out.ints (Nat.le_refl _) hl1 X2_5.out.ints (Nat.le_refl _) hl2).mono ?_
  rintro e w6 ⟨rfl, hB⟩
  have BW6 : Hid (Below w.heap.size w w6) := BW5.out.trans (hB.mono BW5.out.size)
  have BS6 : Hid (Below w3.heap.size w3 w6) := BS5.out.trans (hB.mono BS5.out.size)
  have SZ6 : Hid (w5.heap.size ≤ w6.heap.size) := hB.size
  have X1_6 : Hid (Mine w6 w3.heap.size (some ⟨w3.heap.size, 0, none⟩) y1) := X1_5.out.kept hB
  have X2_6 : Hid (Mine w6 w4.heap.size (some ⟨w4.heap.size, 0, none⟩) y2) := X2_5.out.kept hB
  clear hB
  go_wp2_with fail
  refine (Edge_list _ _ _ y1 _ hz1 hl1 (h1.out.kept BW6.out)).mono ?_
  rintro e w7 ⟨rfl, hM, hB⟩
  have Z1_7 : Hid (Mine w7 w6.heap.size (some ⟨w6.heap.size, 0, none⟩) y1) := hM
  have BW7 : Hid (Below w.heap.size w w7) := BW6.out.trans (hB.mono BW6.out.size)
  have BS7 : Hid (Below w3.heap.size w3 w7) := BS6.out.trans (hB.mono BS6.out.size)
  have SZ7 : Hid (w6.heap.size ≤ w7.heap.size) := hB.size
  have X1_7 : Hid (Mine w7 w3.heap.size (some ⟨w3.heap.size, 0, none⟩) y1) := X1_6.out.kept hB
  have X2_7 : Hid (Mine w7 w4.heap.size (some ⟨w4.heap.size, 0, none⟩) y2) := X2_6.out.kept hB
  clear hM hB
  go_wp2_with fail
  refine (Edge_same _ _ _ _ _ y1 _ hz1 hl1 X1_7.out.ints Z1_7.out.ints).mono ?_
  rintro e w8 ⟨rfl, hB⟩
  have BW8 : Hid (Below w.heap.size w w8) := BW7.out.trans (hB.mono BW7.out.size)
  have BS8 : Hid (Below w3.heap.size w3 w8) := BS7.out.trans (hB.mono BS7.out.size)
  have SZ8 : Hid (w7.heap.size ≤ w8.heap.size) := hB.size
  have X1_8 : Hid (Mine w8 w3.heap.size (some ⟨w3.heap.size, 0, none⟩) y1) := X1_7.out.kept hB
  have X2_8 : Hid (Mine w8 w4.heap.size (some ⟨w4.heap.size, 0, none⟩) y2) := X2_7.out.kept hB
  have Z1_8 : Hid (Mine w8 w6.heap.size (some ⟨w6.heap.size, 0, none⟩) y1) := Z1_7.out.kept hB
  clear hB
  go_wp2_with fail
  refine (to_ints _ _ _ y2 _ hz2 hl2 (h2.out.kept BW8.out)).mono ?_
  rintro e w9 ⟨rfl, hM, hB⟩
  have Z2_9 : Hid (Mine w9 w8.heap.size (some ⟨w8.heap.size, 0, none⟩) y2) := hM
  have BW9 : Hid (Below w.heap.size w w9) := BW8.out.trans (hB.mono BW8.out.size)
  have BS9 : Hid (Below w3.heap.size w3 w9) := BS8.out.trans (hB.mono BS8.out.size)
  have SZ9 : Hid (w8.heap.size ≤ w9.heap.size) := hB.size
  have X1_9 : Hid (Mine w9 w3.heap.size (some ⟨w3.heap.size, 0, none⟩) y1) := X1_8.out.kept hB
  have X2_9 : Hid (Mine w9 w4.heap.size (some ⟨w4.heap.size, 0, none⟩) y2) := X2_8.out.kept hB
  clear hM hB
  go_wp2_with fail
  refine (eq_ints _ _ _ _ _ y2 _ hz2 hl2 X2_9.out.ints Z2_9.out.ints).mono ?_
  rintro e w10 ⟨rfl, hB⟩
  have BW10 : Hid (Below w.heap.size w w10) := BW9.out.trans (hB.mono BW9.out.size)
  have BS10 : Hid (Below w3.heap.size w3 w10) := BS9.out.trans (hB.mono BS9.out.size)
  have SZ10 : Hid (w9.heap.size ≤ w10.heap.size) := hB.size
  have X1_10 : Hid (Mine w10 w3.heap.size (some ⟨w3.heap.size, 0, none⟩) y1) := X1_9.out.kept hB
  have X2_10 : Hid (Mine w10 w4.heap.size (some ⟨w4.heap.size, 0, none⟩) y2) := X2_9.out.kept hB
  have Z2_10 : Hid (Mine w10 w8.heap.size (some ⟨w8.heap.size, 0, none⟩) y2) := Z2_9.out.kept hB
  clear hB
  go_wp2
  go_ret
  exact ⟨rfl, BW10.out⟩
theorem walk (a0 : Int) (w0 : (Lit.int .i64 a0).wf = true) (a1 : Option Addr) (len1 cap1 : Nat) (z1 : List Int) (a2 : Option Addr) (len2 cap2 : Nat) (z2 : List Int) (w : World) (w1 : Ints w a1 z1) (n1 : z1.length = len1 * 3) (b1 : len1 ≤ 140737488351232) (w2 : IsRow .i64 w a2 len2 cap2 z2) (b2 : len2 ≤ 140737488351232) :
    Calls Try.prog 6 #[.int .i64 a0, .slice a1 len1 cap1, .slice a2 len2 cap2] w fun e w' => e = .returned (.bool true) ∧ Below w.heap.size w w' := by
  obtain ⟨t2, hz2, hI2⟩ := row_ints w2
  by_cases hl2 : len2 ≤ 1048576
  rotate_left
  · have hb2 : (1048576 : Int) < (len2 : Int) := by omega
    clear hl2
    go_enter Try.func6, Try.ntmps6
    go_wp2
    go_ret
    exact ⟨rfl, Below.refl _ _⟩
  by_cases hl1 : len1 ≤ 1048576
  rotate_left
  · have hb1 : (1048576 : Int) < (len1 : Int) := by omega
    have hs2 : (len2 : Int) ≤ 1048576 := by omega
    go_enter Try.func6, Try.ntmps6
    go_wp2_with fail
    refine (Edge_size _ _ _ _ _ (by omega) (by omega) (by omega)).mono ?_
    rw [if_neg (by omega)]
    rintro e w' ⟨rfl, rfl⟩
    go_wp2
    go_ret
    exact ⟨rfl, Below.refl _ _⟩
  exact walk_of a1 cap1 a2 cap2 a0 len1 z1 len2 t2 (strV z1 t2 a0 len1) (okG z1 t2 a0 len1) w n1 hl1 w1 hz2 hl2 hI2
    (fun W a c a' c' hA q0 q1 hA' q2 q3 => (spec_straightin a a' len1 c len2 c' a0 z1 t2 W n1 hl1 q0 q1 hz2 hl2 q2 q3 hA hA').mono fun e W' hh => ⟨hh.1, hh.2⟩)
    (fun W a c a' c' hA q0 q1 hA' q2 q3 => (impl_straightin a a' len1 c len2 c' a0 z1 t2 W n1 hl1 hz2 hl2 hA hA').mono fun e W' hh => ⟨hh.1, hh.2⟩)

set_option maxRecDepth 100000 in
theorem lifted (os : Os) (started : os.Started) (H : Type) (enc : TypeId × Value → H) :
    ReturnsInHanded {} Try.checked os 6 .any (Rows.fnExactStraightInSpec.pre6 enc Try.prog Try.f6 Rows.fnExactStraightInRow.domain false) (Rows.fnExactStraightInSpec.post enc Try.prog Try.f6 false true false false) := by
  refine returnsInHanded_of_change_sized (C := Try.checked) own started (by kernel_rfl) Try.func6
    (ChangeSpec.witness6 (enc := enc) (C := Try.checked) false ⟨#[], #[.int .i64 0, .slice none 0 0, .slice none 0 0], []⟩ 8 (by kernel_rfl) (by kernel_rfl) (by kernel_rfl) (by kernel_rfl)) ?_
  intro W base args ds gs before hval0 hW hcnd hsz0 _
  have hval : ∀ (j : Nat) t v, Try.f6.params[j]? = some t → args[j]? = some v → Value.okWide Try.prog W .any base t v := hval0
  have hW' := hW
  obtain ⟨p, q, hA0, hV, rfl, hfz, hnd⟩ := hW
  have hsz : (DataW.weightsEach Try.prog (Try.f6.params.toList ++ Rows.fnExactStraightInSpec.plain.varTypes Try.prog) (ds ++ gs)).all (· ≤ reachBytes) = true := hsz0
  have hA : DataW.TrodAll enc Try.prog W 0 (fun _ => true) true Try.f6.params.toList args.toList ds p := hA0
  rw [Try.params6] at hA hval hsz
  obtain ⟨v0, vs0, d0, ds0, p0, q0, hargs, rfl, rfl, h0, r0⟩ := trodAll_cons hA
  obtain ⟨v1, vs1, d1, ds1, p1, q1, rfl, rfl, rfl, h1, r1⟩ := trodAll_cons r0
  obtain ⟨v2, vs2, d2, ds2, p2, q2, rfl, rfl, rfl, h2, r2⟩ := trodAll_cons r1
  obtain ⟨rfl, rfl, rfl⟩ := trodAll_nil r2
  obtain rfl : args = #[v0, v1, v2] := by cases args; simp_all
  obtain ⟨rfl, rfl⟩ := trodVars_none hV
  have k0 := h0
  have lt0 : ∀ x ∈ p0, x.block < W.heap.size := by obtain ⟨m, hm⟩ := k0; exact DataW.trod_lt m _ _ _ hm
  obtain ⟨a0, rfl, rfl, rfl, w0⟩ := open_int Try.underlying3 (hval 0 3 v0 rfl rfl) h0
  obtain ⟨a1, len1, cap1, rfl⟩ := okWide_slice Try.underlying22 (hval 1 22 v1 rfl rfl)
  have k1 := h1
  have lt1 : ∀ x ∈ p1, x.block < W.heap.size := by obtain ⟨m, hm⟩ := k1; exact DataW.trod_lt m _ _ _ hm
  obtain ⟨z1, w1, n1, b1⟩ : ∃ zs, Ints W a1 zs ∧ zs.length = len1 * 3 ∧ len1 ≤ 140737488351232 := by
    obtain ⟨fuel, hf⟩ := h1
    rcases open_flat Try.underlying22 Try.underlying50 (show Try.prog.cellsOf 50 = 3 by kernel_rfl) rfl (by
      intro i f h
      match i, h with
      | 0, h => obtain rfl := Option.some.inj h; exact ⟨rfl, (show Try.prog.cellsOf 3 = 1 by kernel_rfl), Try.underlying3⟩
      | 1, h => obtain rfl := Option.some.inj h; exact ⟨rfl, (show Try.prog.cellsOf 3 = 1 by kernel_rfl), Try.underlying3⟩
      | 2, h => obtain rfl := Option.some.inj h; exact ⟨rfl, (show Try.prog.cellsOf 3 = 1 by kernel_rfl), Try.underlying3⟩
      | i + 3, h => simp at h) hf with hcs | ⟨a, l, c, m, D, E, hcs, hl, hm, hlm, hx, hcell⟩
    · simp [Value.cells] at hcs
      obtain ⟨rfl, rfl, rfl⟩ := hcs
      exact ⟨[], .inl rfl, by simp, by omega⟩
    · simp [Value.cells] at hcs
      obtain ⟨rfl, rfl, rfl⟩ := hcs
      obtain ⟨zs, hz, hi⟩ := flat_of (by decide) hlm hcell
      have hs := sized_slice hsz (j := 1) (t := 22) (e := 50) rfl (by rw [show d1 = _ from hx]; rfl) Try.underlying22
      rw [show Try.prog.bytesOf 50 = 24 by kernel_rfl] at hs
      simp only [List.length_map, List.length_range, reachBytes] at hs
      exact ⟨zs, hi, hz, by omega⟩
  obtain ⟨a2, len2, cap2, rfl⟩ := okWide_slice Try.underlying35 (hval 2 35 v2 rfl rfl)
  have k2 := h2
  have lt2 : ∀ x ∈ p2, x.block < W.heap.size := by obtain ⟨m, hm⟩ := k2; exact DataW.trod_lt m _ _ _ hm
  obtain ⟨z2, w2, b2⟩ : ∃ zs, IsRow .i64 W a2 len2 cap2 zs ∧ len2 ≤ 140737488351232 := by
    obtain ⟨fuel, hf⟩ := h2
    rcases open_ints Try.underlying35 Try.underlying3 (by kernel_rfl) hf with ⟨hcs, _⟩ | ⟨x, l, c, zs, hcs, _, hl, hm, hz, hx, hcell, hwz⟩
    · simp [Value.cells] at hcs
      obtain ⟨rfl, rfl, rfl⟩ := hcs
      exact ⟨[], .inl ⟨rfl, rfl, rfl, rfl⟩, by omega⟩
    · simp [Value.cells] at hcs
      obtain ⟨rfl, rfl, rfl⟩ := hcs
      have hz' : zs.length = cap2 := by simpa using hz
      have hd : d2 = .slice (lits .i64 (zs.take len2)) (lits .i64 (zs.drop len2)) := congrArg Prod.fst hx
      have hs := sized_slice hsz (j := 2) (t := 35) (e := 3) rfl (by rw [hd]; rfl) Try.underlying35
      rw [show Try.prog.bytesOf 3 = 8 by kernel_rfl] at hs
      simp only [lits, List.length_map, List.length_take, List.length_drop, reachBytes] at hs
      exact ⟨zs, .inr ⟨_, rfl, hl, hm, hz', hcell, hwz⟩, by omega⟩
  clear hA0 hval0
  refine (walk a0 w0 a1 len1 cap1 z1 a2 len2 cap2 z2 W w1 n1 b1 w2 b2).mono fun e W' ⟨he, bel⟩ => ?_
  subst he
  exact ⟨_, rfl, _, _, _, [], _, [], hW', trodAll_mk1 (shut_bool Try.underlying4 _), (trodAll_cons_mk (Below.trod laidOut (by kernel_rfl) (of_decide_eq_true (by kernel_rfl)) k0 bel lt0) (trodAll_cons_mk (Below.trod laidOut (by kernel_rfl) (of_decide_eq_true (by kernel_rfl)) k1 bel lt1) (trodAll_cons_mk (Below.trod laidOut (by kernel_rfl) (of_decide_eq_true (by kernel_rfl)) k2 bel lt2) trodAll_mk0))), rfl, bel.frame _, fun h => by cases h⟩

theorem over : Rows.fnExactStraightInRow.holds Try.pinned (OpenSpec.ofChange Rows.fnExactStraightInSpec) :=
  OpenClaim.holds_of_wide 6 Try.f6 rfl rfl rfl rfl rfl rfl rfl ⟨rfl, rfl, rfl, rfl, rfl⟩ rfl rfl rfl rfl rfl (by kernel_rfl) Try.func6 (by kernel_rfl)
    (of_decide_eq_true (by kernel_rfl)) (by unfold Func.isWrapper; first | (rw [if_pos (by decide +kernel)]; kernel_rfl) | (rw [if_neg (by decide +kernel)]; exact ⟨rfl, rfl⟩))
    (fun os started H enc _ => lifted os started H enc)

theorem proved : Rows.FnExactStraightInSaid :=
  over
#print axioms proved
end Go.Proofs.Ytaepabaabngdiaa.fnExactStraightIn
