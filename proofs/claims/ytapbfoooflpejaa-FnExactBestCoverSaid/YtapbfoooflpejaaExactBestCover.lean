/-
  Of every tree and patterns: the program lays the cover, and tells its costs, as the specification does, in new memory, and writes into nothing that was there.
-/
import Derived.Test.YtapbfoooflpejaaRows
import Derived.WalkKit
import Derived.ProofKit
import Derived.OpenShut
import Derived.ShutString
import Derived.ChangeOld
import Derived.Below
import Derived.Carry
import Derived.SizedLaws
import Derived.Test.YtapbfoooflpejaaMagMath
import Derived.Test.YtapbfoooflpejaaTreeMath
import Derived.Test.YtapbfoooflpejaaCoverMath
import Derived.Test.YtapbfoooflpejaaPiecesMath
import Derived.Test.YtapbfoooflpejaaInts
import Derived.Test.YtapbfoooflpejaaMarks
import Derived.Test.YtapbfoooflpejaaPats
import Derived.Test.YtapbfoooflpejaaOpenPats
import Derived.Test.YtapbfoooflpejaaPatsMark
import Derived.Test.YtapbfoooflpejaaRecsPiece
import Derived.Test.YtapbfoooflpejaaPiecesSpec
import Derived.Test.YtapbfoooflpejaaPiecesFlat
import Derived.Test.YtapbfoooflpejaaCoverBy
import Derived.Test.YtapbfoooflpejaaGreedyImpl
import Derived.Test.YtapbfoooflpejaaBestMath
import Derived.Test.YtapbfoooflpejaaBestSpec
import Derived.Test.YtapbfoooflpejaaBestPieces
import Derived.Test.YtapbfoooflpejaaCoverBest
import Derived.Test.YtapbfoooflpejaaBestCov
namespace Go.Proofs.Ytapbfoooflpejaa.fnExactBestCover
open Go.ChangeShapes Go.WideShapes Go.ChangeAt Go.RowKit
open Go.ChangeMaps (open_string shut_string)
open Go.Proofs.Ytapbfoooflpejaa.math
open Go.Proofs.Ytapbfoooflpejaa.ints
open Go.Proofs.Ytapbfoooflpejaa.walks
set_option linter.unusedVariables false

theorem own : ownKnob Try.prog.godebug = none := by kernel_rfl
theorem laidOut : laidOutB Try.prog = true := by kernel_rfl

/-- What is known of a slice of integers that came in: it is nil, or leads to a row of cells, the numbers zs, each fitting its kind. -/
def IsRow (k : IntKind) (w : World) (a : Option Addr) (len cap : Nat) (zs : List Int) : Prop :=
  (a = none ∧ len = 0 ∧ cap = 0 ∧ zs = []) ∨
  ∃ x, a = some x ∧ len ≤ cap ∧ cap ≤ maxLen ∧ zs.length = cap ∧ (∀ i, i < zs.length → w.cell? (x.add i) = some (.int k (zs.getD i 0))) ∧ ∀ n ∈ zs, (Lit.int k n).wf = true

theorem row_ints {W : World} {a : Option Addr} {len cap : Nat} {z : List Int} (h : IsRow .i64 W a len cap z) : ∃ zs : List Int, zs.length = len ∧ Ints W a zs := by
  rcases h with ⟨rfl, rfl, rfl, rfl⟩ | ⟨x, rfl, hl, hm, hz, hc, _⟩
  · exact ⟨[], rfl, Or.inl rfl⟩
  · refine ⟨z.take len, by rw [List.length_take]; omega, ?_⟩
    by_cases h0 : len = 0
    · subst h0; exact Or.inl (by simp)
    · obtain ⟨b, off, spot⟩ := x
      have c0 := hc 0 (by omega)
      have hs : spot = none := by simpa [Addr.add] using World.cell?_spot c0
      subst hs
      have ha : ∀ i, (⟨b, off, none⟩ : Addr).add i = ⟨b, off + i, none⟩ := fun i => by
        unfold Addr.add
        split
        · rename_i h; subst h; rfl
        · rfl
      have hb : b < W.heap.size := by simpa [Addr.add] using World.block_lt_of_cell? W _ c0
      refine Or.inr ⟨b, off, rfl, hb, fun i hi => ?_⟩
      rw [List.length_take] at hi
      rw [← ha, hc i (by omega)]
      simp [List.getD, show i < len by omega]
theorem gr_told {f : Nat → Pv} {o : Option (List (Nat × Nat))} {W W' : World} {e : Ending} (h : GrAns f o W e W') : ∃ pa pc, e = .returned (.tuple #[.slice pa (o.getD []).length pc, .int .i64 (costP f (o.getD [])), .bool o.isSome]) ∧ Mine W' W.heap.size pa (flZ (o.getD [])) ∧ Below W.heap.size W W' := by
  obtain ⟨hB, ⟨rfl, rfl⟩ | ⟨ps, v, rfl, rfl, hO⟩⟩ := h
  · exact ⟨none, 0, rfl, Or.inl rfl, hB⟩
  · obtain ⟨pa, pc, rfl, _, hM⟩ := OwnQ.mine hO
    exact ⟨pa, pc, rfl, hM, hB⟩
theorem gr_len (t : List Int) (f : Nat → Pv) (n : Nat) : ((bestO t f n).getD []).length ≤ 1048576 := by
  cases q : bestO t f n with
  | none => simp
  | some ps =>
    unfold bestO at q
    split at q
    · rename_i hb
      simp at hb
      have hw := hb.1
      unfold treeB at hw
      simp at hw
      have h1 := (whole_iff.1 hw.2).1
      have h2 := (sz_le (whole_each hw.2 (i := 0) h1) (by omega)).2
      have h3 := pcs_len q
      rw [szS_cons, szS_nil] at h3
      simp
      omega
    · cases q
set_option maxHeartbeats 8000000 in
theorem walk_of (a0 : Option Addr) (len0 cap0 : Nat) (t : List Int) (a1 : Option Addr) (len1 cap1 : Nat) (f : Nat → Pv) (w : World) (hz : Hid (t.length = len0)) (hlen : len0 ≤ 1048576) (h : Hid (Ints w a0 t)) (hp : Hid (Pats w a1 len1 f)) (n1 : Hid (∀ k, k < len1 → (f k).zs.length ≤ maxLen)) (b1 : len1 ≤ 140737488351232) (hlo : ((bestO t f len1).getD []).length ≤ 1048576) :
    Calls Try.prog 3 #[.slice a0 len0 cap0, .slice a1 len1 cap1] w fun e w' => e = .returned (.bool true) ∧ Below w.heap.size w w' := by
  have hl1 : (len0 : Int) ≤ 1048576 := by omega
  go_enter Try.func3, Try.ntmps3
  go_wp2_with fail
  refine (pats_size a1 len1 cap1 f w b1 (fun k hk => Nat.le_trans (n1.out k hk) (by unfold maxLen; omega)) hp).mono ?_
  rintro e w1 ⟨v, rfl, hv, hB⟩
  have B1 : Hid (Below w.heap.size w w1) := hB
  clear hB
  rcases hv with ⟨v0, v1, hn, hl⟩ | rfl
  rotate_left
  · go_wp2
    go_ret
    exact ⟨rfl, B1.out⟩
  have HL : Hid (∀ k, k < len1 → (f k).zs.length ≤ 1048576) := hl
  clear hl n1
  obtain ⟨ps, hps⟩ : ∃ ps, Hid ((bestO t f len1).getD [] = ps) := ⟨_, rfl⟩
  obtain ⟨gd, hgd⟩ : ∃ gd, Hid ((bestO t f len1).isSome = gd) := ⟨_, rfl⟩
  obtain ⟨z, hzz⟩ : ∃ z, Hid (flZ ps = z) := ⟨_, rfl⟩
  obtain ⟨L, hLL⟩ : ∃ L, Hid (ps.length = L) := ⟨_, rfl⟩
  obtain ⟨cst, hcc⟩ : ∃ cst, Hid (costP f ps = cst) := ⟨_, rfl⟩
  have HZL : Hid (z.length = L * 2) := by show _ = _; rw [← hzz.out, flZ_len, hLL.out]
  have hL : L ≤ 1048576 := by rw [hps.out, hLL.out] at hlo; exact hlo
  have hLI : (L : Int) ≤ 1048576 := by omega
  have hLI0 : (0 : Int) ≤ (L : Int) := Int.natCast_nonneg _
  have e1 : ∀ b : Bool, (b != b) = false := fun b => by cases b <;> rfl
  have e2 := e1 gd
  have e3 : (cst != cst) = false := by simp
  clear e1 hlo
  go_wp2_with fail
  refine (to_ints _ _ _ t _ hz hlen (h.out.kept B1.out)).mono ?_
  rintro e w2 ⟨rfl, hM, hB⟩
  have B2 : Hid (Below w.heap.size w w2) := B1.out.trans (hB.mono B1.out.size)
  have A0_2 : Hid (Ints w2 (some ⟨w1.heap.size, 0, none⟩) t) := hM.ints
  clear hM hB
  go_wp2_with fail
  refine (pats_list _ _ _ f _ hn HL (hp.out.kept B2.out)).mono ?_
  rintro e w3 ⟨G3, rfl, hF, hB⟩
  have B3 : Hid (Below w.heap.size w w3) := B2.out.trans (hB.mono B2.out.size)
  have A0_3 : Hid (Ints w3 (some ⟨w1.heap.size, 0, none⟩) t) := A0_2.out.kept hB
  have A1_3 : Hid (Pats w3 (some ⟨w2.heap.size, 0, none⟩) len1 f) := hF.pats
  clear hF hB
  go_wp2_with fail
  refine ((spec_bestcover _ _ _ t _ _ _ f _ hz hlen hn HL A0_3 A1_3).mono (fun e W' hh => gr_told hh)).mono ?_
  rw [hps.out, hgd.out, hLL.out, hcc.out, hzz.out]
  rintro e w4 ⟨sa, sc, rfl, hM, hB⟩
  have B4 : Hid (Below w.heap.size w w4) := B3.out.trans (hB.mono B3.out.size)
  have WI : Hid (Ints w4 sa z) := hM.ints
  clear hM hB A0_2 A0_3 A1_3
  go_wp2_with fail
  refine (to_ints _ _ _ t _ hz hlen (h.out.kept B4.out)).mono ?_
  rintro e w5 ⟨rfl, hM, hB⟩
  have B5 : Hid (Below w.heap.size w w5) := B4.out.trans (hB.mono B4.out.size)
  have C5 : Hid (Below w4.heap.size w4 w5) := hB
  have X0_5 : Hid (Mine w5 w4.heap.size (some ⟨w4.heap.size, 0, none⟩) t) := hM
  have hx5 : 0 < len0 → w4.heap.size < w5.heap.size := fun q => mineP_lt hM (by rw [hz.out]; exact q)
  clear hM hB
  go_wp2_with fail
  refine (pats_list _ _ _ f _ hn HL (hp.out.kept B5.out)).mono ?_
  rintro e w6 ⟨G, rfl, hF, hB⟩
  have B6 : Hid (Below w.heap.size w w6) := B5.out.trans (hB.mono B5.out.size)
  have C6 : Hid (Below w4.heap.size w4 w6) := C5.out.trans (hB.mono C5.out.size)
  have X0_6 : Hid (Mine w6 w4.heap.size (some ⟨w4.heap.size, 0, none⟩) t) := X0_5.out.kept hB
  have X1_6 : Hid (MineP w6 w5.heap.size w6.heap.size len1 f G) := hF
  have h56 : w5.heap.size < w6.heap.size := hF.lt
  have h45 : w4.heap.size ≤ w5.heap.size := C5.out.size
  clear hF hB
  go_wp2_with fail
  refine ((impl_bestcover _ _ _ t _ _ _ f _ hz hlen (Nat.le_refl _) (by unfold maxLen; omega) hn HL X0_6.out.ints X1_6.out.pats).mono (fun e W' hh => gr_told hh)).mono ?_
  rw [hps.out, hgd.out, hLL.out, hcc.out, hzz.out]
  rintro e w7 ⟨ga, gc, rfl, hM, hB⟩
  have B7 : Hid (Below w.heap.size w w7) := B6.out.trans (hB.mono B6.out.size)
  have C7 : Hid (Below w4.heap.size w4 w7) := C6.out.trans (hB.mono C6.out.size)
  have X0_7 : Hid (Mine w7 w4.heap.size (some ⟨w4.heap.size, 0, none⟩) t) := X0_6.out.kept hB
  have X1_7 : Hid (MineP w7 w5.heap.size w6.heap.size len1 f G) := X1_6.out.kept hB
  have G0_7 : Hid (Mine w7 w6.heap.size ga z) := hM
  clear hM hB
  go_wp2_with fail
  refine (Piece_same _ _ _ _ _ z _ HZL hL G0_7.out.ints (WI.out.kept C7.out)).mono ?_
  rintro e w8 ⟨rfl, hB⟩
  have B8 : Hid (Below w.heap.size w w8) := B7.out.trans (hB.mono B7.out.size)
  have C8 : Hid (Below w4.heap.size w4 w8) := C7.out.trans (hB.mono C7.out.size)
  have X0_8 : Hid (Mine w8 w4.heap.size (some ⟨w4.heap.size, 0, none⟩) t) := X0_7.out.kept hB
  have X1_8 : Hid (MineP w8 w5.heap.size w6.heap.size len1 f G) := X1_7.out.kept hB
  have G0_8 : Hid (Mine w8 w6.heap.size ga z) := G0_7.out.kept hB
  clear hB
  go_wp2_with fail
  refine (to_ints _ _ _ t _ hz hlen (h.out.kept B8.out)).mono ?_
  rintro e w9 ⟨rfl, hM, hB⟩
  have B9 : Hid (Below w.heap.size w w9) := B8.out.trans (hB.mono B8.out.size)
  have C9 : Hid (Below w4.heap.size w4 w9) := C8.out.trans (hB.mono C8.out.size)
  have X0_9 : Hid (Mine w9 w4.heap.size (some ⟨w4.heap.size, 0, none⟩) t) := X0_8.out.kept hB
  have X1_9 : Hid (MineP w9 w5.heap.size w6.heap.size len1 f G) := X1_8.out.kept hB
  have G0_9 : Hid (Mine w9 w6.heap.size ga z) := G0_8.out.kept hB
  have Z0 : Hid (Ints w9 (some ⟨w8.heap.size, 0, none⟩) t) := hM.ints
  clear hM hB
  go_wp2_with fail
  refine (eq_ints _ _ _ _ _ t _ hz hlen X0_9.out.ints Z0).mono ?_
  rintro e w10 ⟨rfl, hB⟩
  have B10 : Hid (Below w.heap.size w w10) := B9.out.trans (hB.mono B9.out.size)
  have C10 : Hid (Below w4.heap.size w4 w10) := C9.out.trans (hB.mono C9.out.size)
  have X0_10 : Hid (Mine w10 w4.heap.size (some ⟨w4.heap.size, 0, none⟩) t) := X0_9.out.kept hB
  have X1_10 : Hid (MineP w10 w5.heap.size w6.heap.size len1 f G) := X1_9.out.kept hB
  have G0_10 : Hid (Mine w10 w6.heap.size ga z) := G0_9.out.kept hB
  clear hB Z0
  go_wp2_with fail
  refine (pats_list _ _ _ f _ hn HL (hp.out.kept B10.out)).mono ?_
  rintro e w11 ⟨G11, rfl, hF, hB⟩
  have B11 : Hid (Below w.heap.size w w11) := B10.out.trans (hB.mono B10.out.size)
  have C11 : Hid (Below w4.heap.size w4 w11) := C10.out.trans (hB.mono C10.out.size)
  have X0_11 : Hid (Mine w11 w4.heap.size (some ⟨w4.heap.size, 0, none⟩) t) := X0_10.out.kept hB
  have X1_11 : Hid (MineP w11 w5.heap.size w6.heap.size len1 f G) := X1_10.out.kept hB
  have G0_11 : Hid (Mine w11 w6.heap.size ga z) := G0_10.out.kept hB
  have Z1 : Hid (Pats w11 (some ⟨w10.heap.size, 0, none⟩) len1 f) := hF.pats
  clear hF hB
  go_wp2_with fail
  refine (pats_same _ _ _ _ _ f _ hn HL X1_11.out.pats Z1).mono ?_
  rintro e w12 ⟨rfl, hB⟩
  have B12 : Hid (Below w.heap.size w w12) := B11.out.trans (hB.mono B11.out.size)
  have C12 : Hid (Below w4.heap.size w4 w12) := C11.out.trans (hB.mono C11.out.size)
  have X0_12 : Hid (Mine w12 w4.heap.size (some ⟨w4.heap.size, 0, none⟩) t) := X0_11.out.kept hB
  have X1_12 : Hid (MineP w12 w5.heap.size w6.heap.size len1 f G) := X1_11.out.kept hB
  have G0_12 : Hid (Mine w12 w6.heap.size ga z) := G0_11.out.kept hB
  clear hB Z1
  go_wp2_with fail
  refine (mark_from 1 (by omega) (by omega) _ _ _ t _ w4.heap.size hz hlen X0_12).mono ?_
  rintro e w13 ⟨rfl, hM, ho⟩
  have hB := ho.below
  have hO := OnlyP.of_only ho hx5
  have B13 : Hid (Below w.heap.size w w13) := B12.out.trans (hB.mono B4.out.size)
  have C13 : Hid (Below w4.heap.size w4 w13) := C12.out.trans hB
  have X1_13 : Hid (MineP w13 w5.heap.size w6.heap.size len1 f G) := hO.minep (Nat.le_refl _) X1_12.out
  have G0_13 : Hid (Mine w13 w6.heap.size ga z) := hO.mine (by omega) G0_12.out
  clear hM ho hB hO
  go_wp2_with fail
  refine (pats_mark (1 + (len0 : Int)) (by omega) (by omega) w5.heap.size w6.heap.size len1 _ (fun k => (f k).zs.length) G w13 hn HL h56 X1_13.out.mark).mono ?_
  rintro e w14 ⟨s, rfl, hs0, hs1, hO⟩
  have hB := hO.below
  have B14 : Hid (Below w.heap.size w w14) := B13.out.trans (hB.mono B5.out.size)
  have C14 : Hid (Below w4.heap.size w4 w14) := C13.out.trans (hB.mono h45)
  have G0_14 : Hid (Mine w14 w6.heap.size ga z) := hO.mine (Nat.le_refl _) G0_13.out
  clear hB hO
  go_wp2_with fail
  refine (Piece_same _ _ _ _ _ z _ HZL hL G0_14.out.ints (WI.out.kept C14.out)).mono ?_
  rintro e w15 ⟨rfl, hB⟩
  have B15 : Hid (Below w.heap.size w w15) := B14.out.trans (hB.mono B14.out.size)
  have C15 : Hid (Below w4.heap.size w4 w15) := C14.out.trans (hB.mono C14.out.size)
  have G0_15 : Hid (Mine w15 w6.heap.size ga z) := G0_14.out.kept hB
  clear hB
  go_wp2_with fail
  refine (Piece_mark _ _ _ z _ w6.heap.size HZL hL G0_15).mono ?_
  rintro e w16 ⟨rfl, hM, hB, hsz⟩
  have B16 : Hid (Below w.heap.size w w16) := B15.out.trans (hB.mono B6.out.size)
  have C16 : Hid (Below w4.heap.size w4 w16) := C15.out.trans (hB.mono C6.out.size)
  have G0_16 : Hid (Mine w16 w6.heap.size ga (upFrom 1 (L * 2))) := hM
  clear hsz
  clear hM hB
  go_wp2_with fail
  refine (Piece_held _ _ _ _ hL G0_16.out.ints).mono ?_
  rintro e w' ⟨rfl, hw⟩
  rw [hw]
  clear hw w'
  go_wp2_with fail
  refine (to_ints _ _ _ t _ hz hlen (h.out.kept B16.out)).mono ?_
  rintro e w17 ⟨rfl, hM, hB⟩
  have B17 : Hid (Below w.heap.size w w17) := B16.out.trans (hB.mono B16.out.size)
  have C17 : Hid (Below w4.heap.size w4 w17) := C16.out.trans (hB.mono C16.out.size)
  have G0_17 : Hid (Mine w17 w6.heap.size ga (upFrom 1 (L * 2))) := G0_16.out.kept hB
  have Y0_17 : Hid (Ints w17 (some ⟨w16.heap.size, 0, none⟩) t) := hM.ints
  clear hM hB
  go_wp2_with fail
  refine (pats_list _ _ _ f _ hn HL (hp.out.kept B17.out)).mono ?_
  rintro e w18 ⟨G18, rfl, hF, hB⟩
  have B18 : Hid (Below w.heap.size w w18) := B17.out.trans (hB.mono B17.out.size)
  have C18 : Hid (Below w4.heap.size w4 w18) := C17.out.trans (hB.mono C17.out.size)
  have G0_18 : Hid (Mine w18 w6.heap.size ga (upFrom 1 (L * 2))) := G0_17.out.kept hB
  have Y0_18 : Hid (Ints w18 (some ⟨w16.heap.size, 0, none⟩) t) := Y0_17.out.kept hB
  have Y1_18 : Hid (Pats w18 (some ⟨w17.heap.size, 0, none⟩) len1 f) := hF.pats
  clear hF hB
  go_wp2_with fail
  refine ((impl_bestcover _ _ _ t _ _ _ f _ hz hlen (Nat.le_refl _) (by unfold maxLen; omega) hn HL Y0_18 Y1_18).mono (fun e W' hh => gr_told hh)).mono ?_
  rw [hps.out, hgd.out, hLL.out, hcc.out, hzz.out]
  rintro e w19 ⟨ka, kc, rfl, hM, hB⟩
  have B19 : Hid (Below w.heap.size w w19) := B18.out.trans (hB.mono B18.out.size)
  have C19 : Hid (Below w4.heap.size w4 w19) := C18.out.trans (hB.mono C18.out.size)
  have G0_19 : Hid (Mine w19 w6.heap.size ga (upFrom 1 (L * 2))) := G0_18.out.kept hB
  have K0 : Hid (Ints w19 ka z) := hM.ints
  clear hM hB
  go_wp2_with fail
  refine (Piece_same _ _ _ _ _ z _ HZL hL K0 (WI.out.kept C19.out)).mono ?_
  rintro e w20 ⟨rfl, hB⟩
  have B20 : Hid (Below w.heap.size w w20) := B19.out.trans (hB.mono B19.out.size)
  have C20 : Hid (Below w4.heap.size w4 w20) := C19.out.trans (hB.mono C19.out.size)
  have G0_20 : Hid (Mine w20 w6.heap.size ga (upFrom 1 (L * 2))) := G0_19.out.kept hB
  clear hB K0
  go_wp2_with fail
  refine (Piece_held _ _ _ _ hL G0_20.out.ints).mono ?_
  rintro e w' ⟨rfl, hw⟩
  rw [hw]
  clear hw w'
  go_wp2
  go_ret
  exact ⟨rfl, B20.out⟩
theorem walk (a0 : Option Addr) (len0 cap0 : Nat) (z0 : List Int) (a1 : Option Addr) (len1 cap1 : Nat) (f1 : Nat → Pv) (w : World) (w0 : IsRow .i64 w a0 len0 cap0 z0) (b0 : len0 ≤ 140737488351232) (w1 : Pats w a1 len1 f1) (n1 : ∀ k, k < len1 → (f1 k).zs.length ≤ maxLen) (b1 : len1 ≤ 140737488351232) :
    Calls Try.prog 3 #[.slice a0 len0 cap0, .slice a1 len1 cap1] w fun e w' => e = .returned (.bool true) ∧ Below w.heap.size w w' := by
  by_cases h1 : len0 ≤ 1048576
  · obtain ⟨zs, hz, hi⟩ := row_ints w0
    exact walk_of a0 len0 cap0 zs a1 len1 cap1 f1 w hz h1 hi w1 n1 b1 (gr_len _ _ _)
  · have hno : 1048576 < (len0 : Int) := by omega
    go_enter Try.func3, Try.ntmps3
    go_wp2
    go_ret
    exact ⟨rfl, Below.refl _ _⟩

set_option maxRecDepth 100000 in
theorem lifted (os : Os) (started : os.Started) (H : Type) (enc : TypeId × Value → H) :
    ReturnsInHanded {} Try.checked os 3 .any (Rows.fnExactBestCoverSpec.pre6 enc Try.prog Try.f3 Rows.fnExactBestCoverRow.domain false) (Rows.fnExactBestCoverSpec.post enc Try.prog Try.f3 false true false false) := by
  refine returnsInHanded_of_change_sized (C := Try.checked) own started (by kernel_rfl) Try.func3
    (ChangeSpec.witness6 (enc := enc) (C := Try.checked) false ⟨#[], #[.slice none 0 0, .slice none 0 0], []⟩ 8 (by kernel_rfl) (by kernel_rfl) (by kernel_rfl) (by kernel_rfl)) ?_
  intro W base args ds gs before hval0 hW hcnd hsz0 _
  have hval : ∀ (j : Nat) t v, Try.f3.params[j]? = some t → args[j]? = some v → Value.okWide Try.prog W .any base t v := hval0
  have hW' := hW
  obtain ⟨p, q, hA0, hV, rfl, hfz, hnd⟩ := hW
  have hsz : (DataW.weightsEach Try.prog (Try.f3.params.toList ++ Rows.fnExactBestCoverSpec.plain.varTypes Try.prog) (ds ++ gs)).all (· ≤ reachBytes) = true := hsz0
  have hA : DataW.TrodAll enc Try.prog W 0 (fun _ => true) true Try.f3.params.toList args.toList ds p := hA0
  rw [Try.params3] at hA hval hsz
  obtain ⟨v0, vs0, d0, ds0, p0, q0, hargs, rfl, rfl, h0, r0⟩ := trodAll_cons hA
  obtain ⟨v1, vs1, d1, ds1, p1, q1, rfl, rfl, rfl, h1, r1⟩ := trodAll_cons r0
  obtain ⟨rfl, rfl, rfl⟩ := trodAll_nil r1
  obtain rfl : args = #[v0, v1] := by cases args; simp_all
  obtain ⟨rfl, rfl⟩ := trodVars_none hV
  obtain ⟨a0, len0, cap0, rfl⟩ := okWide_slice Try.underlying22 (hval 0 22 v0 rfl rfl)
  have k0 := h0
  have lt0 : ∀ x ∈ p0, x.block < W.heap.size := by obtain ⟨m, hm⟩ := k0; exact DataW.trod_lt m _ _ _ hm
  obtain ⟨z0, w0, b0⟩ : ∃ zs, IsRow .i64 W a0 len0 cap0 zs ∧ len0 ≤ 140737488351232 := by
    obtain ⟨fuel, hf⟩ := h0
    rcases open_ints Try.underlying22 Try.underlying3 (by kernel_rfl) hf with ⟨hcs, _⟩ | ⟨x, l, c, zs, hcs, _, hl, hm, hz, hx, hcell, hwz⟩
    · simp [Value.cells] at hcs
      obtain ⟨rfl, rfl, rfl⟩ := hcs
      exact ⟨[], .inl ⟨rfl, rfl, rfl, rfl⟩, by omega⟩
    · simp [Value.cells] at hcs
      obtain ⟨rfl, rfl, rfl⟩ := hcs
      have hz' : zs.length = cap0 := by simpa using hz
      have hd : d0 = .slice (lits .i64 (zs.take len0)) (lits .i64 (zs.drop len0)) := congrArg Prod.fst hx
      have hs := sized_slice hsz (j := 0) (t := 22) (e := 3) rfl (by rw [hd]; rfl) Try.underlying22
      rw [show Try.prog.bytesOf 3 = 8 by kernel_rfl] at hs
      simp only [lits, List.length_map, List.length_take, List.length_drop, reachBytes] at hs
      exact ⟨zs, .inr ⟨_, rfl, hl, hm, hz', hcell, hwz⟩, by omega⟩
  obtain ⟨a1, len1, cap1, rfl⟩ := okWide_slice Try.underlying23 (hval 1 23 v1 rfl rfl)
  have k1 := h1
  have lt1 : ∀ x ∈ p1, x.block < W.heap.size := by obtain ⟨m, hm⟩ := k1; exact DataW.trod_lt m _ _ _ hm
  obtain ⟨f1, w1, n1, b1⟩ : ∃ f, Pats W a1 len1 f ∧ (∀ k, k < len1 → (f k).zs.length ≤ maxLen) ∧ len1 ≤ 140737488351232 := by
    obtain ⟨fuel, hf⟩ := h1
    rcases open_pats Try.underlying23 Try.underlying43 (show Try.prog.cellsOf 43 = 2 by kernel_rfl) ⟨rfl, (show Try.prog.cellsOf 22 = 1 by kernel_rfl), Try.underlying22⟩ ⟨rfl, (show Try.prog.cellsOf 3 = 1 by kernel_rfl), Try.underlying3⟩ Try.underlying3 (show Try.prog.cellsOf 3 = 1 by kernel_rfl) hf with hcs | ⟨a, l, c, m, D, E, hcs, hl, hm, hlm, hx, hcell⟩
    · simp [Value.cells] at hcs
      obtain ⟨rfl, rfl, rfl⟩ := hcs
      exact ⟨noPs, .inl rfl, fun k hk => by omega, by omega⟩
    · simp [Value.cells] at hcs
      obtain ⟨rfl, rfl, rfl⟩ := hcs
      obtain ⟨f, hf1, hf2⟩ := pats_of hlm hcell
      have hs := sized_slice hsz (j := 1) (t := 23) (e := 43) rfl (by rw [show d1 = _ from hx]; rfl) Try.underlying23
      rw [show Try.prog.bytesOf 43 = 32 by kernel_rfl] at hs
      simp only [List.length_map, List.length_range, reachBytes] at hs
      exact ⟨f, hf1, hf2, by omega⟩
  clear hA0 hval0
  refine (walk a0 len0 cap0 z0 a1 len1 cap1 f1 W w0 b0 w1 n1 b1).mono fun e W' ⟨he, bel⟩ => ?_
  subst he
  exact ⟨_, rfl, _, _, _, [], _, [], hW', trodAll_mk1 (shut_bool Try.underlying4 _), (trodAll_cons_mk (Below.trod laidOut (by kernel_rfl) (of_decide_eq_true (by kernel_rfl)) k0 bel lt0) (trodAll_cons_mk (Below.trod laidOut (by kernel_rfl) (of_decide_eq_true (by kernel_rfl)) k1 bel lt1) trodAll_mk0)), rfl, bel.frame _, fun h => by cases h⟩

theorem over : Rows.fnExactBestCoverRow.holds Try.pinned (OpenSpec.ofChange Rows.fnExactBestCoverSpec) :=
  OpenClaim.holds_of_wide 3 Try.f3 rfl rfl rfl rfl rfl rfl rfl ⟨rfl, rfl, rfl, rfl, rfl⟩ rfl rfl rfl rfl rfl (by kernel_rfl) Try.func3 (by kernel_rfl)
    (of_decide_eq_true (by kernel_rfl)) (by unfold Func.isWrapper; first | (rw [if_pos (by decide +kernel)]; kernel_rfl) | (rw [if_neg (by decide +kernel)]; exact ⟨rfl, rfl⟩))
    (fun os started H enc _ => lifted os started H enc)

theorem proved : Rows.FnExactBestCoverSaid :=
  over
#print axioms proved
end Go.Proofs.Ytapbfoooflpejaa.fnExactBestCover
