/-
  Of every tree, place and patterns: the program tells the least costs at the place as the specification does, and writes into nothing that was there.
-/
import Derived.Test.YtapbfoooflpejaaRows
import Derived.WalkKit
import Derived.ProofKit
import Derived.OpenShut
import Derived.ShutString
import Derived.ChangeOld
import Derived.Below
import Derived.Carry
import Derived.SizedLaws
import Derived.Test.YtapbfoooflpejaaMagMath
import Derived.Test.YtapbfoooflpejaaTreeMath
import Derived.Test.YtapbfoooflpejaaCoverMath
import Derived.Test.YtapbfoooflpejaaBestMath
import Derived.Test.YtapbfoooflpejaaInts
import Derived.Test.YtapbfoooflpejaaPats
import Derived.Test.YtapbfoooflpejaaOpenPats
import Derived.Test.YtapbfoooflpejaaLeastImpl
import Derived.Test.YtapbfoooflpejaaBestSpec
import Derived.Test.YtapbfoooflpejaaCostAt9
namespace Go.Proofs.Ytapbfoooflpejaa.fnExactCostAt
open Go.ChangeShapes Go.WideShapes Go.ChangeAt Go.RowKit
open Go.ChangeMaps (open_string shut_string)
open Go.Proofs.Ytapbfoooflpejaa.math
open Go.Proofs.Ytapbfoooflpejaa.ints
open Go.Proofs.Ytapbfoooflpejaa.walks
set_option linter.unusedVariables false

theorem own : ownKnob Try.prog.godebug = none := by kernel_rfl
theorem laidOut : laidOutB Try.prog = true := by kernel_rfl

/-- What is known of a slice of integers that came in: it is nil, or leads to a row of cells, the numbers zs, each fitting its kind. -/
def IsRow (k : IntKind) (w : World) (a : Option Addr) (len cap : Nat) (zs : List Int) : Prop :=
  (a = none ∧ len = 0 ∧ cap = 0 ∧ zs = []) ∨
  ∃ x, a = some x ∧ len ≤ cap ∧ cap ≤ maxLen ∧ zs.length = cap ∧ (∀ i, i < zs.length → w.cell? (x.add i) = some (.int k (zs.getD i 0))) ∧ ∀ n ∈ zs, (Lit.int k n).wf = true

theorem row_ints {W : World} {a : Option Addr} {len cap : Nat} {z : List Int} (h : IsRow .i64 W a len cap z) : ∃ zs : List Int, zs.length = len ∧ Ints W a zs := by
  rcases h with ⟨rfl, rfl, rfl, rfl⟩ | ⟨x, rfl, hl, hm, hz, hc, _⟩
  · exact ⟨[], rfl, Or.inl rfl⟩
  · refine ⟨z.take len, by rw [List.length_take]; omega, ?_⟩
    by_cases h0 : len = 0
    · subst h0; exact Or.inl (by simp)
    · obtain ⟨b, off, spot⟩ := x
      have c0 := hc 0 (by omega)
      have hs : spot = none := by simpa [Addr.add] using World.cell?_spot c0
      subst hs
      have ha : ∀ i, (⟨b, off, none⟩ : Addr).add i = ⟨b, off + i, none⟩ := fun i => by
        unfold Addr.add
        split
        · rename_i h; subst h; rfl
        · rfl
      have hb : b < W.heap.size := by simpa [Addr.add] using World.block_lt_of_cell? W _ c0
      refine Or.inr ⟨b, off, rfl, hb, fun i hi => ?_⟩
      rw [List.length_take] at hi
      rw [← ha, hc i (by omega)]
      simp [List.getD, show i < len by omega]
set_option maxHeartbeats 8000000 in
theorem walk_of (a0 : Option Addr) (len0 cap0 : Nat) (t : List Int) (u : Int) (a2 : Option Addr) (len2 cap2 : Nat) (f : Nat → Pv) (w : World) (hp : Hid (Pats w a2 len2 f)) (n1 : Hid (∀ k, k < len2 → (f k).zs.length ≤ maxLen)) (b1 : len2 ≤ 140737488351232) (hz : Hid (t.length = len0)) (hlen : len0 ≤ 1048576) (h : Hid (Ints w a0 t)) :
    Calls Try.prog 4 #[.slice a0 len0 cap0, .int .i64 u, .slice a2 len2 cap2] w fun e w' => e = .returned (.bool true) ∧ Below w.heap.size w w' := by
  have hl1 : (len0 : Int) ≤ 1048576 := by omega
  go_enter Try.func4, Try.ntmps4
  go_wp2_with fail
  refine (pats_size a2 len2 cap2 f w b1 (fun k hk => Nat.le_trans (n1.out k hk) (by unfold maxLen; omega)) hp).mono ?_
  rintro e w1 ⟨v, rfl, hv, hB⟩
  have B1 : Hid (Below w.heap.size w w1) := hB
  clear hB
  rcases hv with ⟨v0, v1, hn, hl⟩ | rfl
  rotate_left
  · go_wp2
    go_ret
    exact ⟨rfl, B1.out⟩
  have HL : Hid (∀ k, k < len2 → (f k).zs.length ≤ 1048576) := hl
  clear hl n1
  obtain ⟨p0, hp0⟩ : ∃ p, Hid (costV t f len2 u = p) := ⟨_, rfl⟩
  have q0 : (p0 != p0) = false := by simp
  obtain ⟨p1, hp1⟩ : ∃ p, Hid (costIs t f len2 u = p) := ⟨_, rfl⟩
  have q1 : (p1 != p1) = false := by cases p1 <;> rfl
  go_wp2_with fail
  refine (to_ints _ _ _ t _ hz hlen (h.out.kept B1.out)).mono ?_
  rintro e w2 ⟨rfl, hM, hB⟩
  have B2 : Hid (Below w.heap.size w w2) := B1.out.trans (hB.mono B1.out.size)
  have A0_2 : Hid (Ints w2 (some ⟨w1.heap.size, 0, none⟩) t) := hM.ints
  clear hM hB
  go_wp2_with fail
  refine (pats_list _ _ _ f _ hn HL (hp.out.kept B2.out)).mono ?_
  rintro e w3 ⟨G3, rfl, hF, hB⟩
  have B3 : Hid (Below w.heap.size w w3) := B2.out.trans (hB.mono B2.out.size)
  have A0_3 : Hid (Ints w3 (some ⟨w1.heap.size, 0, none⟩) t) := A0_2.out.kept hB
  have A2_3 : Hid (Pats w3 (some ⟨w2.heap.size, 0, none⟩) len2 f) := hF.pats
  clear hF hB
  go_wp2_with fail
  refine ((spec_costat _ _ _ u t _ _ _ f _ hz hlen hn HL A0_3 A2_3).mono (fun e W' hh => cost_told hh)).mono ?_
  rw [hp0.out, hp1.out]
  rintro e w4 ⟨rfl, hB⟩
  have B4 : Hid (Below w.heap.size w w4) := B3.out.trans (hB.mono B3.out.size)
  have A0_4 : Hid (Ints w4 (some ⟨w1.heap.size, 0, none⟩) t) := A0_3.out.kept hB
  have A2_4 : Hid (Pats w4 (some ⟨w2.heap.size, 0, none⟩) len2 f) := A2_3.out.kept hB
  clear hB
  go_wp2_with fail
  refine (to_ints _ _ _ t _ hz hlen (h.out.kept B4.out)).mono ?_
  rintro e w5 ⟨rfl, hM, hB⟩
  have B5 : Hid (Below w.heap.size w w5) := B4.out.trans (hB.mono B4.out.size)
  have X0_5 : Hid (Mine w5 w4.heap.size (some ⟨w4.heap.size, 0, none⟩) t) := hM
  have hx0a : 0 < len0 → w4.heap.size < w5.heap.size := fun q => mineP_lt hM (by rw [hz.out]; exact q)
  have hx0b : w4.heap.size ≤ w5.heap.size := hB.size
  clear hM hB
  go_wp2_with fail
  refine (pats_list _ _ _ f _ hn HL (hp.out.kept B5.out)).mono ?_
  rintro e w6 ⟨G6, rfl, hF, hB⟩
  have B6 : Hid (Below w.heap.size w w6) := B5.out.trans (hB.mono B5.out.size)
  have X0_6 : Hid (Mine w6 w4.heap.size (some ⟨w4.heap.size, 0, none⟩) t) := X0_5.out.kept hB
  have X2_6 : Hid (MineP w6 w5.heap.size w6.heap.size len2 f G6) := hF
  have hx2a : w5.heap.size < w6.heap.size := hF.lt
  clear hF hB
  go_wp2_with fail
  refine ((impl_costat _ _ _ u t _ _ _ f _ hz hlen (Nat.le_refl _) (by unfold maxLen; omega) hn HL X0_6.out.ints X2_6.out.pats).mono (fun e W' hh => cost_told hh)).mono ?_
  rw [hp0.out, hp1.out]
  rintro e w7 ⟨rfl, hB⟩
  have B7 : Hid (Below w.heap.size w w7) := B6.out.trans (hB.mono B6.out.size)
  have X0_7 : Hid (Mine w7 w4.heap.size (some ⟨w4.heap.size, 0, none⟩) t) := X0_6.out.kept hB
  have X2_7 : Hid (MineP w7 w5.heap.size w6.heap.size len2 f G6) := X2_6.out.kept hB
  clear hB
  go_wp2_with fail
  refine (to_ints _ _ _ t _ hz hlen (h.out.kept B7.out)).mono ?_
  rintro e w8 ⟨rfl, hM, hB⟩
  have B8 : Hid (Below w.heap.size w w8) := B7.out.trans (hB.mono B7.out.size)
  have X0_8 : Hid (Mine w8 w4.heap.size (some ⟨w4.heap.size, 0, none⟩) t) := X0_7.out.kept hB
  have X2_8 : Hid (MineP w8 w5.heap.size w6.heap.size len2 f G6) := X2_7.out.kept hB
  have Z_8 : Hid (Ints w8 (some ⟨w7.heap.size, 0, none⟩) t) := hM.ints
  clear hM hB
  go_wp2_with fail
  refine (eq_ints _ _ _ _ _ t _ hz hlen X0_8.out.ints Z_8).mono ?_
  rintro e w9 ⟨rfl, hB⟩
  have B9 : Hid (Below w.heap.size w w9) := B8.out.trans (hB.mono B8.out.size)
  have X0_9 : Hid (Mine w9 w4.heap.size (some ⟨w4.heap.size, 0, none⟩) t) := X0_8.out.kept hB
  have X2_9 : Hid (MineP w9 w5.heap.size w6.heap.size len2 f G6) := X2_8.out.kept hB
  clear hB
  go_wp2_with fail
  refine (pats_list _ _ _ f _ hn HL (hp.out.kept B9.out)).mono ?_
  rintro e w10 ⟨G10, rfl, hF, hB⟩
  have B10 : Hid (Below w.heap.size w w10) := B9.out.trans (hB.mono B9.out.size)
  have X0_10 : Hid (Mine w10 w4.heap.size (some ⟨w4.heap.size, 0, none⟩) t) := X0_9.out.kept hB
  have X2_10 : Hid (MineP w10 w5.heap.size w6.heap.size len2 f G6) := X2_9.out.kept hB
  have Z_10 : Hid (Pats w10 (some ⟨w9.heap.size, 0, none⟩) len2 f) := hF.pats
  clear hF hB
  go_wp2_with fail
  refine (pats_same _ _ _ _ _ f _ hn HL X2_10.out.pats Z_10).mono ?_
  rintro e w11 ⟨rfl, hB⟩
  have B11 : Hid (Below w.heap.size w w11) := B10.out.trans (hB.mono B10.out.size)
  have X0_11 : Hid (Mine w11 w4.heap.size (some ⟨w4.heap.size, 0, none⟩) t) := X0_10.out.kept hB
  have X2_11 : Hid (MineP w11 w5.heap.size w6.heap.size len2 f G6) := X2_10.out.kept hB
  clear hB
  go_wp2
  go_ret
  exact ⟨rfl, B11.out⟩
theorem walk (a0 : Option Addr) (len0 cap0 : Nat) (z0 : List Int) (a1 : Int) (w1 : (Lit.int .i64 a1).wf = true) (a2 : Option Addr) (len2 cap2 : Nat) (f2 : Nat → Pv) (w : World) (w0 : IsRow .i64 w a0 len0 cap0 z0) (b0 : len0 ≤ 140737488351232) (w2 : Pats w a2 len2 f2) (n2 : ∀ k, k < len2 → (f2 k).zs.length ≤ maxLen) (b2 : len2 ≤ 140737488351232) :
    Calls Try.prog 4 #[.slice a0 len0 cap0, .int .i64 a1, .slice a2 len2 cap2] w fun e w' => e = .returned (.bool true) ∧ Below w.heap.size w w' := by
  obtain ⟨t, hz, hI⟩ := row_ints w0
  by_cases hl : len0 ≤ 1048576
  · exact walk_of a0 len0 cap0 t a1 a2 len2 cap2 f2 w w2 n2 b2 hz hl hI
  · have hl1 : (1048576 : Int) < (len0 : Int) := by omega
    clear hl
    go_enter Try.func4, Try.ntmps4
    go_wp2
    go_ret
    exact ⟨rfl, Below.refl _ _⟩

set_option maxRecDepth 100000 in
theorem lifted (os : Os) (started : os.Started) (H : Type) (enc : TypeId × Value → H) :
    ReturnsInHanded {} Try.checked os 4 .any (Rows.fnExactCostAtSpec.pre6 enc Try.prog Try.f4 Rows.fnExactCostAtRow.domain false) (Rows.fnExactCostAtSpec.post enc Try.prog Try.f4 false true false false) := by
  refine returnsInHanded_of_change_sized (C := Try.checked) own started (by kernel_rfl) Try.func4
    (ChangeSpec.witness6 (enc := enc) (C := Try.checked) false ⟨#[], #[.slice none 0 0, .int .i64 0, .slice none 0 0], []⟩ 8 (by kernel_rfl) (by kernel_rfl) (by kernel_rfl) (by kernel_rfl)) ?_
  intro W base args ds gs before hval0 hW hcnd hsz0 _
  have hval : ∀ (j : Nat) t v, Try.f4.params[j]? = some t → args[j]? = some v → Value.okWide Try.prog W .any base t v := hval0
  have hW' := hW
  obtain ⟨p, q, hA0, hV, rfl, hfz, hnd⟩ := hW
  have hsz : (DataW.weightsEach Try.prog (Try.f4.params.toList ++ Rows.fnExactCostAtSpec.plain.varTypes Try.prog) (ds ++ gs)).all (· ≤ reachBytes) = true := hsz0
  have hA : DataW.TrodAll enc Try.prog W 0 (fun _ => true) true Try.f4.params.toList args.toList ds p := hA0
  rw [Try.params4] at hA hval hsz
  obtain ⟨v0, vs0, d0, ds0, p0, q0, hargs, rfl, rfl, h0, r0⟩ := trodAll_cons hA
  obtain ⟨v1, vs1, d1, ds1, p1, q1, rfl, rfl, rfl, h1, r1⟩ := trodAll_cons r0
  obtain ⟨v2, vs2, d2, ds2, p2, q2, rfl, rfl, rfl, h2, r2⟩ := trodAll_cons r1
  obtain ⟨rfl, rfl, rfl⟩ := trodAll_nil r2
  obtain rfl : args = #[v0, v1, v2] := by cases args; simp_all
  obtain ⟨rfl, rfl⟩ := trodVars_none hV
  obtain ⟨a0, len0, cap0, rfl⟩ := okWide_slice Try.underlying22 (hval 0 22 v0 rfl rfl)
  have k0 := h0
  have lt0 : ∀ x ∈ p0, x.block < W.heap.size := by obtain ⟨m, hm⟩ := k0; exact DataW.trod_lt m _ _ _ hm
  obtain ⟨z0, w0, b0⟩ : ∃ zs, IsRow .i64 W a0 len0 cap0 zs ∧ len0 ≤ 140737488351232 := by
    obtain ⟨fuel, hf⟩ := h0
    rcases open_ints Try.underlying22 Try.underlying3 (by kernel_rfl) hf with ⟨hcs, _⟩ | ⟨x, l, c, zs, hcs, _, hl, hm, hz, hx, hcell, hwz⟩
    · simp [Value.cells] at hcs
      obtain ⟨rfl, rfl, rfl⟩ := hcs
      exact ⟨[], .inl ⟨rfl, rfl, rfl, rfl⟩, by omega⟩
    · simp [Value.cells] at hcs
      obtain ⟨rfl, rfl, rfl⟩ := hcs
      have hz' : zs.length = cap0 := by simpa using hz
      have hd : d0 = .slice (lits .i64 (zs.take len0)) (lits .i64 (zs.drop len0)) := congrArg Prod.fst hx
      have hs := sized_slice hsz (j := 0) (t := 22) (e := 3) rfl (by rw [hd]; rfl) Try.underlying22
      rw [show Try.prog.bytesOf 3 = 8 by kernel_rfl] at hs
      simp only [lits, List.length_map, List.length_take, List.length_drop, reachBytes] at hs
      exact ⟨zs, .inr ⟨_, rfl, hl, hm, hz', hcell, hwz⟩, by omega⟩
  have k1 := h1
  have lt1 : ∀ x ∈ p1, x.block < W.heap.size := by obtain ⟨m, hm⟩ := k1; exact DataW.trod_lt m _ _ _ hm
  obtain ⟨a1, rfl, rfl, rfl, w1⟩ := open_int Try.underlying3 (hval 1 3 v1 rfl rfl) h1
  obtain ⟨a2, len2, cap2, rfl⟩ := okWide_slice Try.underlying23 (hval 2 23 v2 rfl rfl)
  have k2 := h2
  have lt2 : ∀ x ∈ p2, x.block < W.heap.size := by obtain ⟨m, hm⟩ := k2; exact DataW.trod_lt m _ _ _ hm
  obtain ⟨f2, w2, n2, b2⟩ : ∃ f, Pats W a2 len2 f ∧ (∀ k, k < len2 → (f k).zs.length ≤ maxLen) ∧ len2 ≤ 140737488351232 := by
    obtain ⟨fuel, hf⟩ := h2
    rcases open_pats Try.underlying23 Try.underlying43 (show Try.prog.cellsOf 43 = 2 by kernel_rfl) ⟨rfl, (show Try.prog.cellsOf 22 = 1 by kernel_rfl), Try.underlying22⟩ ⟨rfl, (show Try.prog.cellsOf 3 = 1 by kernel_rfl), Try.underlying3⟩ Try.underlying3 (show Try.prog.cellsOf 3 = 1 by kernel_rfl) hf with hcs | ⟨a, l, c, m, D, E, hcs, hl, hm, hlm, hx, hcell⟩
    · simp [Value.cells] at hcs
      obtain ⟨rfl, rfl, rfl⟩ := hcs
      exact ⟨noPs, .inl rfl, fun k hk => by omega, by omega⟩
    · simp [Value.cells] at hcs
      obtain ⟨rfl, rfl, rfl⟩ := hcs
      obtain ⟨f, hf1, hf2⟩ := pats_of hlm hcell
      have hs := sized_slice hsz (j := 2) (t := 23) (e := 43) rfl (by rw [show d2 = _ from hx]; rfl) Try.underlying23
      rw [show Try.prog.bytesOf 43 = 32 by kernel_rfl] at hs
      simp only [List.length_map, List.length_range, reachBytes] at hs
      exact ⟨f, hf1, hf2, by omega⟩
  clear hA0 hval0
  refine (walk a0 len0 cap0 z0 a1 w1 a2 len2 cap2 f2 W w0 b0 w2 n2 b2).mono fun e W' ⟨he, bel⟩ => ?_
  subst he
  exact ⟨_, rfl, _, _, _, [], _, [], hW', trodAll_mk1 (shut_bool Try.underlying4 _), (trodAll_cons_mk (Below.trod laidOut (by kernel_rfl) (of_decide_eq_true (by kernel_rfl)) k0 bel lt0) (trodAll_cons_mk (Below.trod laidOut (by kernel_rfl) (of_decide_eq_true (by kernel_rfl)) k1 bel lt1) (trodAll_cons_mk (Below.trod laidOut (by kernel_rfl) (of_decide_eq_true (by kernel_rfl)) k2 bel lt2) trodAll_mk0))), rfl, bel.frame _, fun h => by cases h⟩

theorem over : Rows.fnExactCostAtRow.holds Try.pinned (OpenSpec.ofChange Rows.fnExactCostAtSpec) :=
  OpenClaim.holds_of_wide 4 Try.f4 rfl rfl rfl rfl rfl rfl rfl ⟨rfl, rfl, rfl, rfl, rfl⟩ rfl rfl rfl rfl rfl (by kernel_rfl) Try.func4 (by kernel_rfl)
    (of_decide_eq_true (by kernel_rfl)) (by unfold Func.isWrapper; first | (rw [if_pos (by decide +kernel)]; kernel_rfl) | (rw [if_neg (by decide +kernel)]; exact ⟨rfl, rfl⟩))
    (fun os started H enc _ => lifted os started H enc)

theorem proved : Rows.FnExactCostAtSaid :=
  over
#print axioms proved
end Go.Proofs.Ytapbfoooflpejaa.fnExactCostAt
