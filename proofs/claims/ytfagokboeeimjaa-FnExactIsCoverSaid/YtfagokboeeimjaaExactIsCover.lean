/-
  Of every tree, patterns and pieces: the program tells whether they are a cover, and their costs, as the specification does, and writes into nothing that was there.
-/
import Derived.Test.YtfagokboeeimjaaRows
import Derived.WalkKit
import Derived.ProofKit
import Derived.OpenShut
import Derived.ShutString
import Derived.ChangeOld
import Derived.Below
import Derived.Carry
import Derived.SizedLaws
import Derived.Test.YtfagokboeeimjaaOpenFlat
import Derived.Test.YtfagokboeeimjaaMagMath
import Derived.Test.YtfagokboeeimjaaTreeMath
import Derived.Test.YtfagokboeeimjaaCoverMath
import Derived.Test.YtfagokboeeimjaaInts
import Derived.Test.YtfagokboeeimjaaPats
import Derived.Test.YtfagokboeeimjaaOpenPats
import Derived.Test.YtfagokboeeimjaaRecsPiece
import Derived.Test.YtfagokboeeimjaaCoverSpec
import Derived.Test.YtfagokboeeimjaaIsCoverSpec
import Derived.Test.YtfagokboeeimjaaIsCoverImpl
namespace Go.Proofs.Ytfagokboeeimjaa.fnExactIsCover
open Go.ChangeShapes Go.WideShapes Go.ChangeAt Go.RowKit
open Go.ChangeMaps (open_string shut_string)
open Go.Proofs.Ytfagokboeeimjaa.math
open Go.Proofs.Ytfagokboeeimjaa.ints
open Go.Proofs.Ytfagokboeeimjaa.walks
set_option linter.unusedVariables false

theorem own : ownKnob Try.prog.godebug = none := by kernel_rfl
theorem laidOut : laidOutB Try.prog = true := by kernel_rfl

/-- What is known of a slice of integers that came in: it is nil, or leads to a row of cells, the numbers zs, each fitting its kind. -/
def IsRow (k : IntKind) (w : World) (a : Option Addr) (len cap : Nat) (zs : List Int) : Prop :=
  (a = none ∧ len = 0 ∧ cap = 0 ∧ zs = []) ∨
  ∃ x, a = some x ∧ len ≤ cap ∧ cap ≤ maxLen ∧ zs.length = cap ∧ (∀ i, i < zs.length → w.cell? (x.add i) = some (.int k (zs.getD i 0))) ∧ ∀ n ∈ zs, (Lit.int k n).wf = true

theorem row_ints {W : World} {a : Option Addr} {len cap : Nat} {z : List Int} (h : IsRow .i64 W a len cap z) : ∃ zs : List Int, zs.length = len ∧ Ints W a zs := by
  rcases h with ⟨rfl, rfl, rfl, rfl⟩ | ⟨x, rfl, hl, hm, hz, hc, _⟩
  · exact ⟨[], rfl, Or.inl rfl⟩
  · refine ⟨z.take len, by rw [List.length_take]; omega, ?_⟩
    by_cases h0 : len = 0
    · subst h0; exact Or.inl (by simp)
    · obtain ⟨b, off, spot⟩ := x
      have c0 := hc 0 (by omega)
      have hs : spot = none := by simpa [Addr.add] using World.cell?_spot c0
      subst hs
      have ha : ∀ i, (⟨b, off, none⟩ : Addr).add i = ⟨b, off + i, none⟩ := fun i => by
        unfold Addr.add
        split
        · rename_i h; subst h; rfl
        · rfl
      have hb : b < W.heap.size := by simpa [Addr.add] using World.block_lt_of_cell? W _ c0
      refine Or.inr ⟨b, off, rfl, hb, fun i hi => ?_⟩
      rw [List.length_take] at hi
      rw [← ha, hc i (by omega)]
      simp [List.getD, show i < len by omega]
theorem cov_of {w : World} {ta : Option Addr} {t : List Int} {la : Option Addr} {n : Nat} {f : Nat → Pv} {B len : Nat} {z : List Int} (h1 : Ints w ta t) (h2 : Pats w la n f) (h3 : Ints w (some ⟨B, 0, none⟩) z) (hz : z.length = len * 2) : CovM w ta t la n f B 0 len z := by
  refine ⟨h1, h2, fun h0 => ?_, fun q hq => ?_⟩
  · rcases h3 with h | ⟨b, off, e, hl, _⟩
    · rw [h] at hz; simp at hz; omega
    · simp only [Option.some.injEq, Addr.mk.injEq] at e
      omega
  · rcases h3 with h | ⟨b, off, e, hl, hc⟩
    · rw [h] at hz; simp at hz; omega
    · simp only [Option.some.injEq, Addr.mk.injEq] at e
      obtain ⟨rfl, rfl, _⟩ := e
      exact hc q (by omega)
set_option maxHeartbeats 8000000 in
theorem walk_of (a0 : Option Addr) (len0 cap0 : Nat) (t : List Int) (a1 : Option Addr) (len1 cap1 : Nat) (f : Nat → Pv) (a2 : Option Addr) (len2 cap2 : Nat) (z : List Int) (w : World) (hz : Hid (t.length = len0)) (hlen : len0 ≤ 1048576) (h : Hid (Ints w a0 t)) (hp : Hid (Pats w a1 len1 f)) (n1 : Hid (∀ k, k < len1 → (f k).zs.length ≤ maxLen)) (b1 : len1 ≤ 140737488351232) (hq : Hid (Ints w a2 z)) (HZ2 : Hid (z.length = len2 * 2)) (b2 : len2 ≤ 140737488351232) :
    Calls Try.prog 7 #[.slice a0 len0 cap0, .slice a1 len1 cap1, .slice a2 len2 cap2] w fun e w' => e = .returned (.bool true) ∧ Below w.heap.size w w' := by
  have hl1 : (len0 : Int) ≤ 1048576 := by omega
  go_enter Try.func7, Try.ntmps7
  go_wp2_with fail
  refine (pats_size a1 len1 cap1 f w b1 (fun k hk => Nat.le_trans (n1.out k hk) (by unfold maxLen; omega)) hp).mono ?_
  rintro e w1 ⟨v, rfl, hv, hB⟩
  have B1 : Hid (Below w.heap.size w w1) := hB
  clear hB
  rcases hv with ⟨v0, v1, hn, hl⟩ | rfl
  rotate_left
  · go_wp2
    go_ret
    exact ⟨rfl, B1.out⟩
  have HL : Hid (∀ k, k < len1 → (f k).zs.length ≤ 1048576) := hl
  clear hl n1
  go_wp2_with fail
  refine (Piece_size _ _ _ _ _ v0 v1 b2).mono ?_
  by_cases h2 : (len2 : Int) ≤ v
  rotate_left
  · rw [if_neg h2]
    rintro e w' ⟨rfl, hw⟩
    rw [hw]
    clear hw w'
    go_wp2
    go_ret
    exact ⟨rfl, B1.out⟩
  rw [if_pos h2]
  rintro e w' ⟨rfl, hw⟩
  rw [hw]
  clear hw w'
  have h2l : len2 ≤ 1048576 := by omega
  have hleft : 0 ≤ v - (len2 : Int) := by omega
  obtain ⟨⟨rc, rv, rg⟩, HR⟩ : ∃ r, Hid (isR t f len1 z len2 = r) := ⟨_, rfl⟩
  go_wp2_with fail
  refine (to_ints _ _ _ t _ hz hlen (h.out.kept B1.out)).mono ?_
  rintro e w2 ⟨rfl, hM, hB⟩
  have B2 : Hid (Below w.heap.size w w2) := B1.out.trans (hB.mono B1.out.size)
  have A0_2 : Hid (Ints w2 (some ⟨w1.heap.size, 0, none⟩) t) := hM.ints
  clear hM hB
  go_wp2_with fail
  refine (pats_list _ _ _ f _ hn HL (hp.out.kept B2.out)).mono ?_
  rintro e w3 ⟨G3, rfl, hF, hB⟩
  have B3 : Hid (Below w.heap.size w w3) := B2.out.trans (hB.mono B2.out.size)
  have A0_3 : Hid (Ints w3 (some ⟨w1.heap.size, 0, none⟩) t) := A0_2.out.kept hB
  have A1_3 : Hid (Pats w3 (some ⟨w2.heap.size, 0, none⟩) len1 f) := hF.pats
  clear hF hB
  go_wp2_with fail
  refine (Piece_list _ _ _ z _ HZ2 h2l (hq.out.kept B3.out)).mono ?_
  rintro e w4 ⟨rfl, hM, hB⟩
  have B4 : Hid (Below w.heap.size w w4) := B3.out.trans (hB.mono B3.out.size)
  have M4 : Hid (CovM w4 (some ⟨w1.heap.size, 0, none⟩) t (some ⟨w2.heap.size, 0, none⟩) len1 f w3.heap.size 0 len2 z) := cov_of (A0_3.out.kept hB) (A1_3.out.kept hB) hM.ints HZ2.out
  clear hM hB
  go_wp2_with fail
  refine (spec_iscover _ _ _ t _ _ _ f _ w3.heap.size 0 _ _ z _ hz hlen hn HL h2l (Nat.le_refl _) (by omega) M4 (fun _ => rfl)).mono ?_
  rw [HR.out]
  rintro e w5 ⟨rfl, hB⟩
  have B5 : Hid (Below w.heap.size w w5) := B4.out.trans (hB.mono B4.out.size)
  clear hB M4
  go_wp2_with fail
  refine (to_ints _ _ _ t _ hz hlen (h.out.kept B5.out)).mono ?_
  rintro e w6 ⟨rfl, hM, hB⟩
  have B6 : Hid (Below w.heap.size w w6) := B5.out.trans (hB.mono B5.out.size)
  have X0_6 : Hid (Ints w6 (some ⟨w5.heap.size, 0, none⟩) t) := hM.ints
  clear hM hB
  go_wp2_with fail
  refine (pats_list _ _ _ f _ hn HL (hp.out.kept B6.out)).mono ?_
  rintro e w7 ⟨G7, rfl, hF, hB⟩
  have B7 : Hid (Below w.heap.size w w7) := B6.out.trans (hB.mono B6.out.size)
  have X0_7 : Hid (Ints w7 (some ⟨w5.heap.size, 0, none⟩) t) := X0_6.out.kept hB
  have X1_7 : Hid (Pats w7 (some ⟨w6.heap.size, 0, none⟩) len1 f) := hF.pats
  clear hF hB
  go_wp2_with fail
  refine (Piece_list _ _ _ z _ HZ2 h2l (hq.out.kept B7.out)).mono ?_
  rintro e w8 ⟨rfl, hM, hB⟩
  have B8 : Hid (Below w.heap.size w w8) := B7.out.trans (hB.mono B7.out.size)
  have X0_8 : Hid (Ints w8 (some ⟨w5.heap.size, 0, none⟩) t) := X0_7.out.kept hB
  have X1_8 : Hid (Pats w8 (some ⟨w6.heap.size, 0, none⟩) len1 f) := X1_7.out.kept hB
  have X2_8 : Hid (Ints w8 (some ⟨w7.heap.size, 0, none⟩) z) := hM.ints
  have M8 : Hid (CovM w8 (some ⟨w5.heap.size, 0, none⟩) t (some ⟨w6.heap.size, 0, none⟩) len1 f w7.heap.size 0 len2 z) := cov_of X0_8.out X1_8.out X2_8.out HZ2.out
  clear hM hB
  go_wp2_with fail
  refine (impl_iscover _ _ _ t _ _ _ f _ w7.heap.size 0 _ _ z _ hz hlen (Nat.le_refl _) (by unfold maxLen; omega) hn HL h2l M8 (fun _ => rfl)).mono ?_
  rw [HR.out]
  rintro e w9 ⟨rfl, hB⟩
  have B9 : Hid (Below w.heap.size w w9) := B8.out.trans (hB.mono B8.out.size)
  have X0_9 : Hid (Ints w9 (some ⟨w5.heap.size, 0, none⟩) t) := X0_8.out.kept hB
  have X1_9 : Hid (Pats w9 (some ⟨w6.heap.size, 0, none⟩) len1 f) := X1_8.out.kept hB
  have X2_9 : Hid (Ints w9 (some ⟨w7.heap.size, 0, none⟩) z) := X2_8.out.kept hB
  clear hB M8
  have e0 : ∀ b : Bool, (b != b) = false := fun b => by cases b <;> rfl
  have e1 := e0 rv
  have e2 := e0 rg
  have e3 : (rc != rc) = false := by simp
  clear e0
  go_wp2_with fail
  refine (to_ints _ _ _ t _ hz hlen (h.out.kept B9.out)).mono ?_
  rintro e w10 ⟨rfl, hM, hB⟩
  have B10 : Hid (Below w.heap.size w w10) := B9.out.trans (hB.mono B9.out.size)
  have Z0 : Hid (Ints w10 (some ⟨w9.heap.size, 0, none⟩) t) := hM.ints
  have X0_10 : Hid (Ints w10 (some ⟨w5.heap.size, 0, none⟩) t) := X0_9.out.kept hB
  have X1_10 : Hid (Pats w10 (some ⟨w6.heap.size, 0, none⟩) len1 f) := X1_9.out.kept hB
  have X2_10 : Hid (Ints w10 (some ⟨w7.heap.size, 0, none⟩) z) := X2_9.out.kept hB
  clear hM hB
  go_wp2_with fail
  refine (eq_ints _ _ _ _ _ t _ hz hlen X0_10 Z0).mono ?_
  rintro e w11 ⟨rfl, hB⟩
  have B11 : Hid (Below w.heap.size w w11) := B10.out.trans (hB.mono B10.out.size)
  have X1_11 : Hid (Pats w11 (some ⟨w6.heap.size, 0, none⟩) len1 f) := X1_10.out.kept hB
  have X2_11 : Hid (Ints w11 (some ⟨w7.heap.size, 0, none⟩) z) := X2_10.out.kept hB
  clear hB
  go_wp2_with fail
  refine (pats_list _ _ _ f _ hn HL (hp.out.kept B11.out)).mono ?_
  rintro e w12 ⟨G12, rfl, hF, hB⟩
  have B12 : Hid (Below w.heap.size w w12) := B11.out.trans (hB.mono B11.out.size)
  have Z1 : Hid (Pats w12 (some ⟨w11.heap.size, 0, none⟩) len1 f) := hF.pats
  have X1_12 : Hid (Pats w12 (some ⟨w6.heap.size, 0, none⟩) len1 f) := X1_11.out.kept hB
  have X2_12 : Hid (Ints w12 (some ⟨w7.heap.size, 0, none⟩) z) := X2_11.out.kept hB
  clear hF hB
  go_wp2_with fail
  refine (pats_same _ _ _ _ _ f _ hn HL X1_12 Z1).mono ?_
  rintro e w13 ⟨rfl, hB⟩
  have B13 : Hid (Below w.heap.size w w13) := B12.out.trans (hB.mono B12.out.size)
  have X2_13 : Hid (Ints w13 (some ⟨w7.heap.size, 0, none⟩) z) := X2_12.out.kept hB
  clear hB
  go_wp2_with fail
  refine (Piece_list _ _ _ z _ HZ2 h2l (hq.out.kept B13.out)).mono ?_
  rintro e w14 ⟨rfl, hM, hB⟩
  have B14 : Hid (Below w.heap.size w w14) := B13.out.trans (hB.mono B13.out.size)
  have Z2 : Hid (Ints w14 (some ⟨w13.heap.size, 0, none⟩) z) := hM.ints
  have X2_14 : Hid (Ints w14 (some ⟨w7.heap.size, 0, none⟩) z) := X2_13.out.kept hB
  clear hM hB
  go_wp2_with fail
  refine (Piece_same _ _ _ _ _ z _ HZ2 h2l X2_14 Z2).mono ?_
  rintro e w15 ⟨rfl, hB⟩
  have B15 : Hid (Below w.heap.size w w15) := B14.out.trans (hB.mono B14.out.size)
  clear hB
  go_wp2
  go_ret
  exact ⟨rfl, B15.out⟩
theorem walk (a0 : Option Addr) (len0 cap0 : Nat) (z0 : List Int) (a1 : Option Addr) (len1 cap1 : Nat) (f1 : Nat → Pv) (a2 : Option Addr) (len2 cap2 : Nat) (z2 : List Int) (w : World) (w0 : IsRow .i64 w a0 len0 cap0 z0) (b0 : len0 ≤ 140737488351232) (w1 : Pats w a1 len1 f1) (n1 : ∀ k, k < len1 → (f1 k).zs.length ≤ maxLen) (b1 : len1 ≤ 140737488351232) (w2 : Ints w a2 z2) (n2 : z2.length = len2 * 2) (b2 : len2 ≤ 140737488351232) :
    Calls Try.prog 7 #[.slice a0 len0 cap0, .slice a1 len1 cap1, .slice a2 len2 cap2] w fun e w' => e = .returned (.bool true) ∧ Below w.heap.size w w' := by
  by_cases h1 : len0 ≤ 1048576
  · obtain ⟨zs, hz, hi⟩ := row_ints w0
    exact walk_of a0 len0 cap0 zs a1 len1 cap1 f1 a2 len2 cap2 z2 w hz h1 hi w1 n1 b1 w2 n2 b2
  · have hno : 1048576 < (len0 : Int) := by omega
    go_enter Try.func7, Try.ntmps7
    go_wp2
    go_ret
    exact ⟨rfl, Below.refl _ _⟩

set_option maxRecDepth 100000 in
theorem lifted (os : Os) (started : os.Started) (H : Type) (enc : TypeId × Value → H) :
    ReturnsInHanded {} Try.checked os 7 .any (Rows.fnExactIsCoverSpec.pre6 enc Try.prog Try.f7 Rows.fnExactIsCoverRow.domain false) (Rows.fnExactIsCoverSpec.post enc Try.prog Try.f7 false true false false) := by
  refine returnsInHanded_of_change_sized (C := Try.checked) own started (by kernel_rfl) Try.func7
    (ChangeSpec.witness6 (enc := enc) (C := Try.checked) false ⟨#[], #[.slice none 0 0, .slice none 0 0, .slice none 0 0], []⟩ 8 (by kernel_rfl) (by kernel_rfl) (by kernel_rfl) (by kernel_rfl)) ?_
  intro W base args ds gs before hval0 hW hcnd hsz0 _
  have hval : ∀ (j : Nat) t v, Try.f7.params[j]? = some t → args[j]? = some v → Value.okWide Try.prog W .any base t v := hval0
  have hW' := hW
  obtain ⟨p, q, hA0, hV, rfl, hfz, hnd⟩ := hW
  have hsz : (DataW.weightsEach Try.prog (Try.f7.params.toList ++ Rows.fnExactIsCoverSpec.plain.varTypes Try.prog) (ds ++ gs)).all (· ≤ reachBytes) = true := hsz0
  have hA : DataW.TrodAll enc Try.prog W 0 (fun _ => true) true Try.f7.params.toList args.toList ds p := hA0
  rw [Try.params7] at hA hval hsz
  obtain ⟨v0, vs0, d0, ds0, p0, q0, hargs, rfl, rfl, h0, r0⟩ := trodAll_cons hA
  obtain ⟨v1, vs1, d1, ds1, p1, q1, rfl, rfl, rfl, h1, r1⟩ := trodAll_cons r0
  obtain ⟨v2, vs2, d2, ds2, p2, q2, rfl, rfl, rfl, h2, r2⟩ := trodAll_cons r1
  obtain ⟨rfl, rfl, rfl⟩ := trodAll_nil r2
  obtain rfl : args = #[v0, v1, v2] := by cases args; simp_all
  obtain ⟨rfl, rfl⟩ := trodVars_none hV
  obtain ⟨a0, len0, cap0, rfl⟩ := okWide_slice Try.underlying22 (hval 0 22 v0 rfl rfl)
  have k0 := h0
  have lt0 : ∀ x ∈ p0, x.block < W.heap.size := by obtain ⟨m, hm⟩ := k0; exact DataW.trod_lt m _ _ _ hm
  obtain ⟨z0, w0, b0⟩ : ∃ zs, IsRow .i64 W a0 len0 cap0 zs ∧ len0 ≤ 140737488351232 := by
    obtain ⟨fuel, hf⟩ := h0
    rcases open_ints Try.underlying22 Try.underlying3 (by kernel_rfl) hf with ⟨hcs, _⟩ | ⟨x, l, c, zs, hcs, _, hl, hm, hz, hx, hcell, hwz⟩
    · simp [Value.cells] at hcs
      obtain ⟨rfl, rfl, rfl⟩ := hcs
      exact ⟨[], .inl ⟨rfl, rfl, rfl, rfl⟩, by omega⟩
    · simp [Value.cells] at hcs
      obtain ⟨rfl, rfl, rfl⟩ := hcs
      have hz' : zs.length = cap0 := by simpa using hz
      have hd : d0 = .slice (lits .i64 (zs.take len0)) (lits .i64 (zs.drop len0)) := congrArg Prod.fst hx
      have hs := sized_slice hsz (j := 0) (t := 22) (e := 3) rfl (by rw [hd]; rfl) Try.underlying22
      rw [show Try.prog.bytesOf 3 = 8 by kernel_rfl] at hs
      simp only [lits, List.length_map, List.length_take, List.length_drop, reachBytes] at hs
      exact ⟨zs, .inr ⟨_, rfl, hl, hm, hz', hcell, hwz⟩, by omega⟩
  obtain ⟨a1, len1, cap1, rfl⟩ := okWide_slice Try.underlying26 (hval 1 26 v1 rfl rfl)
  have k1 := h1
  have lt1 : ∀ x ∈ p1, x.block < W.heap.size := by obtain ⟨m, hm⟩ := k1; exact DataW.trod_lt m _ _ _ hm
  obtain ⟨f1, w1, n1, b1⟩ : ∃ f, Pats W a1 len1 f ∧ (∀ k, k < len1 → (f k).zs.length ≤ maxLen) ∧ len1 ≤ 140737488351232 := by
    obtain ⟨fuel, hf⟩ := h1
    rcases open_pats Try.underlying26 Try.underlying34 (show Try.prog.cellsOf 34 = 2 by kernel_rfl) ⟨rfl, (show Try.prog.cellsOf 22 = 1 by kernel_rfl), Try.underlying22⟩ ⟨rfl, (show Try.prog.cellsOf 3 = 1 by kernel_rfl), Try.underlying3⟩ Try.underlying3 (show Try.prog.cellsOf 3 = 1 by kernel_rfl) hf with hcs | ⟨a, l, c, m, D, E, hcs, hl, hm, hlm, hx, hcell⟩
    · simp [Value.cells] at hcs
      obtain ⟨rfl, rfl, rfl⟩ := hcs
      exact ⟨noPs, .inl rfl, fun k hk => by omega, by omega⟩
    · simp [Value.cells] at hcs
      obtain ⟨rfl, rfl, rfl⟩ := hcs
      obtain ⟨f, hf1, hf2⟩ := pats_of hlm hcell
      have hs := sized_slice hsz (j := 1) (t := 26) (e := 34) rfl (by rw [show d1 = _ from hx]; rfl) Try.underlying26
      rw [show Try.prog.bytesOf 34 = 32 by kernel_rfl] at hs
      simp only [List.length_map, List.length_range, reachBytes] at hs
      exact ⟨f, hf1, hf2, by omega⟩
  obtain ⟨a2, len2, cap2, rfl⟩ := okWide_slice Try.underlying51 (hval 2 51 v2 rfl rfl)
  have k2 := h2
  have lt2 : ∀ x ∈ p2, x.block < W.heap.size := by obtain ⟨m, hm⟩ := k2; exact DataW.trod_lt m _ _ _ hm
  obtain ⟨z2, w2, n2, b2⟩ : ∃ zs, Ints W a2 zs ∧ zs.length = len2 * 2 ∧ len2 ≤ 140737488351232 := by
    obtain ⟨fuel, hf⟩ := h2
    rcases open_flat Try.underlying51 Try.underlying97 (show Try.prog.cellsOf 97 = 2 by kernel_rfl) rfl (by
      intro i f h
      match i, h with
      | 0, h => obtain rfl := Option.some.inj h; exact ⟨rfl, (show Try.prog.cellsOf 3 = 1 by kernel_rfl), Try.underlying3⟩
      | 1, h => obtain rfl := Option.some.inj h; exact ⟨rfl, (show Try.prog.cellsOf 3 = 1 by kernel_rfl), Try.underlying3⟩
      | i + 2, h => simp at h) hf with hcs | ⟨a, l, c, m, D, E, hcs, hl, hm, hlm, hx, hcell⟩
    · simp [Value.cells] at hcs
      obtain ⟨rfl, rfl, rfl⟩ := hcs
      exact ⟨[], .inl rfl, by simp, by omega⟩
    · simp [Value.cells] at hcs
      obtain ⟨rfl, rfl, rfl⟩ := hcs
      obtain ⟨zs, hz, hi⟩ := flat_of (by decide) hlm hcell
      have hs := sized_slice hsz (j := 2) (t := 51) (e := 97) rfl (by rw [show d2 = _ from hx]; rfl) Try.underlying51
      rw [show Try.prog.bytesOf 97 = 16 by kernel_rfl] at hs
      simp only [List.length_map, List.length_range, reachBytes] at hs
      exact ⟨zs, hi, hz, by omega⟩
  clear hA0 hval0
  refine (walk a0 len0 cap0 z0 a1 len1 cap1 f1 a2 len2 cap2 z2 W w0 b0 w1 n1 b1 w2 n2 b2).mono fun e W' ⟨he, bel⟩ => ?_
  subst he
  exact ⟨_, rfl, _, _, _, [], _, [], hW', trodAll_mk1 (shut_bool Try.underlying4 _), (trodAll_cons_mk (Below.trod laidOut (by kernel_rfl) (of_decide_eq_true (by kernel_rfl)) k0 bel lt0) (trodAll_cons_mk (Below.trod laidOut (by kernel_rfl) (of_decide_eq_true (by kernel_rfl)) k1 bel lt1) (trodAll_cons_mk (Below.trod laidOut (by kernel_rfl) (of_decide_eq_true (by kernel_rfl)) k2 bel lt2) trodAll_mk0))), rfl, bel.frame _, fun h => by cases h⟩

theorem over : Rows.fnExactIsCoverRow.holds Try.pinned (OpenSpec.ofChange Rows.fnExactIsCoverSpec) :=
  OpenClaim.holds_of_wide 7 Try.f7 rfl rfl rfl rfl rfl rfl rfl ⟨rfl, rfl, rfl, rfl, rfl⟩ rfl rfl rfl rfl rfl (by kernel_rfl) Try.func7 (by kernel_rfl)
    (of_decide_eq_true (by kernel_rfl)) (by unfold Func.isWrapper; first | (rw [if_pos (by decide +kernel)]; kernel_rfl) | (rw [if_neg (by decide +kernel)]; exact ⟨rfl, rfl⟩))
    (fun os started H enc _ => lifted os started H enc)

theorem proved : Rows.FnExactIsCoverSaid :=
  over
#print axioms proved
end Go.Proofs.Ytfagokboeeimjaa.fnExactIsCover
