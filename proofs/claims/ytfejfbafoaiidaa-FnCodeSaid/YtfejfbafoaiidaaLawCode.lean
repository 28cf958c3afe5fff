/-
  Whatever bytes are handed in: of the code and the words drawn the program runs as the specification does; code in two parts does what it does whole, and looks at just the words that are told to be needed; the bytes read as before.
-/
import Derived.Test.YtfejfbafoaiidaaRows
import Derived.WalkKit
import Derived.ProofKit
import Derived.OpenShut
import Derived.ShutString
import Derived.ChangeOld
import Derived.Below
import Derived.Carry
import Derived.BigQuiet
import Derived.SizedLaws
import Derived.Test.YtfejfbafoaiidaaMagMath
import Derived.Test.YtfejfbafoaiidaaCodeMath
import Derived.Test.YtfejfbafoaiidaaRunMath
import Derived.Test.YtfejfbafoaiidaaNamesMath
import Derived.Test.YtfejfbafoaiidaaCodeLive
import Derived.Test.YtfejfbafoaiidaaInts
import Derived.Test.YtfejfbafoaiidaaOwnInts
import Derived.Test.YtfejfbafoaiidaaRecsInstr
import Derived.Test.YtfejfbafoaiidaaCodeGood
import Derived.Test.YtfejfbafoaiidaaCodeRun
import Derived.Test.YtfejfbafoaiidaaSpecRun
import Derived.Test.YtfejfbafoaiidaaStepsOf
import Derived.Test.YtfejfbafoaiidaaRunImpl
import Derived.Test.YtfejfbafoaiidaaNamesSpec
import Derived.Test.YtfejfbafoaiidaaNamesImpl
import Derived.Test.YtfejfbafoaiidaaNeedSpec
import Derived.Test.YtfejfbafoaiidaaNeedImpl
import Derived.Test.YtfejfbafoaiidaaCur
import Derived.Test.YtfejfbafoaiidaaCurDraw
import Derived.Test.YtfejfbafoaiidaaCodeHelp
namespace Go.Proofs.Ytfejfbafoaiidaa.fnCode
open Go.ChangeShapes Go.WideShapes Go.ChangeAt Go.RowKit
open Go.ChangeMaps (open_string shut_string)
open Go.Proofs.Ytfejfbafoaiidaa.math
open Go.Proofs.Ytfejfbafoaiidaa.ints
open Go.Proofs.Ytfejfbafoaiidaa.walks
open Go.Proofs.Ytfejfbafoaiidaa.cur
set_option linter.unusedVariables false

theorem own : ownKnob Try.prog.godebug = none := by kernel_rfl
theorem laidOut : laidOutB Try.prog = true := by kernel_rfl

/-- What is known of a slice of integers that came in: it is nil, or leads to a row of cells, the numbers zs, each fitting its kind. -/
def IsRow (k : IntKind) (w : World) (a : Option Addr) (len cap : Nat) (zs : List Int) : Prop :=
  (a = none ∧ len = 0 ∧ cap = 0 ∧ zs = []) ∨
  ∃ x, a = some x ∧ len ≤ cap ∧ cap ≤ maxLen ∧ zs.length = cap ∧ (∀ i, i < zs.length → w.cell? (x.add i) = some (.int k (zs.getD i 0))) ∧ ∀ n ∈ zs, (Lit.int k n).wf = true

theorem src_of {w : World} {a : Option Addr} {len cap : Nat} {zs : List Int} (h : IsRow .u8 w a len cap zs) : Src w.heap.size a len w := by
  rcases h with ⟨_, rfl, _, _⟩ | ⟨x, rfl, hl, hm, hz, hcell, hwz⟩
  · exact Or.inl rfl
  · obtain ⟨b, off, spot⟩ := x
    by_cases h0 : len = 0
    · exact Or.inl h0
    · have hc := hcell 0 (by omega)
      have hspot : spot = none := by simpa [Addr.add] using World.cell?_spot hc
      subst hspot
      have hb : b < w.heap.size := by simpa [Addr.add] using World.block_lt_of_cell? w _ hc
      refine Or.inr ⟨b, off, rfl, hb, hb, fun i hi => ?_⟩
      have hi' : i < zs.length := by omega
      have e : zs.getD i 0 = zs[i] := by simp [List.getD, hi']
      have hbd := bounds_u8 (hwz zs[i] (List.getElem_mem hi'))
      have ha : (⟨b, off, none⟩ : Addr).add i = ⟨b, off + i, none⟩ := by
        unfold Addr.add
        split
        · rename_i h; subst h; rfl
        · rfl
      have hc1 := hcell i hi'
      rw [e, ha] at hc1
      exact ⟨zs[i], by omega, by omega, hc1⟩
theorem src_kept {w w' : World} {a : Option Addr} {len : Nat} (h : Src w.heap.size a len w) (hb : Below w.heap.size w w') : Src w'.heap.size a len w' := by
  rcases h with h | ⟨x, off, rfl, hx, hs, hc⟩
  · exact Or.inl h
  · refine Or.inr ⟨x, off, rfl, Nat.lt_of_lt_of_le hx hb.size, Nat.lt_of_lt_of_le hs hb.size, fun i hi => ?_⟩
    obtain ⟨z, z0, z1, hz⟩ := hc i hi
    exact ⟨z, z0, z1, (hb.cell (p := ⟨x, off + i, none⟩) hx).trans hz⟩
theorem below_drewN {b : Nat} {w w' : World} (h : Below b w w') (n : Nat) : Below b w (w'.drewN n) := ⟨h.os, h.tape, h.output, h.size, h.block⟩
theorem drop0 {w : World} {b m : Nat} {zs : List Int} (h : Ints w (some ⟨b, 0, none⟩) zs) : Ints w (some ⟨b, m, none⟩) (zs.drop m) := by
  have := ints_drop (m := m) h
  rwa [Nat.zero_add] at this
set_option maxRecDepth 100000 in
set_option maxHeartbeats 40000000 in
theorem walk (a0 : Option Addr) (len0 cap0 : Nat) (z0 : List Int) (a1 : Option Addr) (len1 cap1 : Nat) (z1 : List Int) (w : World) (w0 : IsRow .u8 w a0 len0 cap0 z0) (b0 : len0 ≤ 140737488351232) (w1 : IsRow .u8 w a1 len1 cap1 z1) (b1 : len1 ≤ 140737488351232) :
    Calls Try.prog 3 #[.slice a0 len0 cap0, .slice a1 len1 cap1] w fun e w' => e = .returned (.bool true) ∧ Below w.heap.size w w' := by
  by_cases hbig : 1048576 < len0 + len1
  · have hb1 : (1048576 : Int) < (len0 : Int) + (len1 : Int) := by omega
    clear hbig w0 w1
    go_enter Try.func3, Try.ntmps3
    go_wp2
    go_ret
    exact ⟨rfl, Below.refl _ _⟩
  have hs1 : (len0 : Int) + (len1 : Int) ≤ 1048576 := by omega
  have hlen0 : len0 ≤ 1048576 := by omega
  have hlen1 : len1 ≤ 1048576 := by omega
  have C0 : Hid (Src w.heap.size a0 len0 w) := src_of w0
  have C1 : Hid (Src w.heap.size a1 len1 w) := src_of w1
  clear hbig w0 w1 b0 b1
  go_enter Try.func3, Try.ntmps3
  go_wp2_with fail
  refine (drawRun_cut C0.out hlen0).mono ?_
  rintro e w1 ⟨L, zs, ys, al, av, cl, cv, hL, hLc, hform, hz, hy, rfl, hI, hV, hB⟩
  have B1 : Hid (Below w.heap.size w w1) := hB
  have IL_1 : Hid (Ints w1 al zs) := hI
  have IV_1 : Hid (Ints w1 av ys) := hV
  clear hB hI hV
  have HZ : Hid (zs.length = L * 5) := hz
  have HY : Hid (ys.length = 8) := hy
  clear hz hy
  cases hok : (codeB zs L && wordsB ys)
  · go_wp2_with fail
    refine (impl_run al av L cl 8 cv zs ys _ HZ (by omega) IL_1 HY (by omega) IV_1).mono ?_
    rintro e w2 (⟨h, _⟩ | ⟨_, rfl, hB⟩)
    · rw [hok] at h; cases h
    have B2 : Hid (Below w.heap.size w w2) := B1.out.trans (hB.mono B1.out.size)
    have IL_2 : Hid (Ints w2 al zs) := IL_1.out.kept hB
    have IV_2 : Hid (Ints w2 av ys) := IV_1.out.kept hB
    clear hB IL_1 IV_1
    go_wp2_with fail
    refine (spec_runcode al av L cl 8 cv zs ys _ HZ (by omega) IL_2 HY (by omega) IV_2).mono ?_
    rintro e w3 (⟨h, _⟩ | ⟨_, rfl, hB⟩)
    · rw [hok] at h; cases h
    have B3 : Hid (Below w.heap.size w w3) := B2.out.trans (hB.mono B2.out.size)
    have IL_3 : Hid (Ints w3 al zs) := IL_2.out.kept hB
    have IV_3 : Hid (Ints w3 av ys) := IV_2.out.kept hB
    clear hB IL_2 IV_2
    go_wp2_with fail
    refine (same_ints none none 0 _ _ [] _ rfl (by omega) (Or.inl rfl) (Or.inl rfl)).mono ?_
    rintro e w4 ⟨rfl, hB⟩
    have B4 : Hid (Below w.heap.size w w4) := B3.out.trans (hB.mono B3.out.size)
    have IL_4 : Hid (Ints w4 al zs) := IL_3.out.kept hB
    have IV_4 : Hid (Ints w4 av ys) := IV_3.out.kept hB
    clear hB IL_3 IV_3
    go_wp2_with fail
    refine (same_ints none none 0 _ _ [] _ rfl (by omega) (Or.inl rfl) (Or.inl rfl)).mono ?_
    rintro e w5 ⟨rfl, hB⟩
    have B5 : Hid (Below w.heap.size w w5) := B4.out.trans (hB.mono B4.out.size)
    have IL_5 : Hid (Ints w5 al zs) := IL_4.out.kept hB
    have IV_5 : Hid (Ints w5 av ys) := IV_4.out.kept hB
    clear hB IL_4 IV_4
    go_wp2_with fail
    refine (impl_code al L cl zs _ HZ (by omega) IL_5).mono ?_
    rintro e w6 ⟨rfl, hB⟩
    have B6 : Hid (Below w.heap.size w w6) := B5.out.trans (hB.mono B5.out.size)
    have IL_6 : Hid (Ints w6 al zs) := IL_5.out.kept hB
    have IV_6 : Hid (Ints w6 av ys) := IV_5.out.kept hB
    clear hB IL_5 IV_5
    go_wp2_with fail
    refine (spec_code al L cl zs _ HZ (by omega) IL_6).mono ?_
    rintro e w7 ⟨rfl, hB⟩
    have B7 : Hid (Below w.heap.size w w7) := B6.out.trans (hB.mono B6.out.size)
    have IL_7 : Hid (Ints w7 al zs) := IL_6.out.kept hB
    have IV_7 : Hid (Ints w7 av ys) := IV_6.out.kept hB
    clear hB IL_6 IV_6
    go_wp2_with fail
    refine (drawNeed_any (src_kept C1.out B7.out) hlen1).mono ?_
    rintro e w8 ⟨K2, fl, al2, cl2, hK2, hf, rfl, hI, hB⟩
    have B8 : Hid (Below w.heap.size w w8) := B7.out.trans (hB.mono B7.out.size)
    have IC_8 : Hid (Ints w8 al2 fl) := hI
    clear hB hI
    have HF : Hid (fl.length = K2 * 5) := hf
    clear hf
    cases hc2 : codeB fl K2
    · go_wp2_with fail
      refine (impl_need al2 K2 cl2 fl _ HF (by omega) IC_8).mono ?_
      rintro e w9 (⟨h, _⟩ | ⟨_, rfl, hB⟩)
      · rw [hc2] at h; cases h
      have B9 : Hid (Below w.heap.size w w9) := B8.out.trans (hB.mono B8.out.size)
      have IC_9 : Hid (Ints w9 al2 fl) := IC_8.out.kept hB
      clear hB IC_8
      go_wp2_with fail
      refine (spec_need al2 K2 cl2 fl _ HF (by omega) IC_9).mono ?_
      rintro e w10 (⟨h, _⟩ | ⟨_, rfl, hB⟩)
      · rw [hc2] at h; cases h
      have B10 : Hid (Below w.heap.size w w10) := B9.out.trans (hB.mono B9.out.size)
      have IC_10 : Hid (Ints w10 al2 fl) := IC_9.out.kept hB
      clear hB IC_9
      go_wp2_with fail
      refine (impl_set al2 K2 cl2 fl _ HF (by omega) IC_10).mono ?_
      rintro e w11 (⟨h, _⟩ | ⟨_, rfl, hB⟩)
      · rw [hc2] at h; cases h
      have B11 : Hid (Below w.heap.size w w11) := B10.out.trans (hB.mono B10.out.size)
      have IC_11 : Hid (Ints w11 al2 fl) := IC_10.out.kept hB
      clear hB IC_10
      go_wp2_with fail
      refine (spec_set al2 K2 cl2 fl _ HF (by omega) IC_11).mono ?_
      rintro e w12 (⟨h, _⟩ | ⟨_, rfl, hB⟩)
      · rw [hc2] at h; cases h
      have B12 : Hid (Below w.heap.size w w12) := B11.out.trans (hB.mono B11.out.size)
      have IC_12 : Hid (Ints w12 al2 fl) := IC_11.out.kept hB
      clear hB IC_11
      go_wp2_with fail
      refine (same_ints none none 0 _ _ [] _ rfl (by omega) (Or.inl rfl) (Or.inl rfl)).mono ?_
      rintro e w13 ⟨rfl, hB⟩
      have B13 : Hid (Below w.heap.size w w13) := B12.out.trans (hB.mono B12.out.size)
      have IC_13 : Hid (Ints w13 al2 fl) := IC_12.out.kept hB
      clear hB IC_12
      go_wp2_with fail
      refine (same_ints none none 0 _ _ [] _ rfl (by omega) (Or.inl rfl) (Or.inl rfl)).mono ?_
      rintro e w14 ⟨rfl, hB⟩
      have B14 : Hid (Below w.heap.size w w14) := B13.out.trans (hB.mono B13.out.size)
      have IC_14 : Hid (Ints w14 al2 fl) := IC_13.out.kept hB
      clear hB IC_13
      go_wp2
      go_ret
      exact ⟨rfl, B14.out⟩
    · go_wp2_with fail
      refine (impl_need al2 K2 cl2 fl _ HF (by omega) IC_8).mono ?_
      rintro e w9 (⟨_, ⟨naa, nac, rfl, hM⟩, hB⟩ | ⟨h, _⟩)
      rotate_left
      · rw [hc2] at h; cases h
      have B9 : Hid (Below w.heap.size w w9) := B8.out.trans (hB.mono B8.out.size)
      have IC_9 : Hid (Ints w9 al2 fl) := IC_8.out.kept hB
      have NA_9 : Hid (Ints w9 naa (risingTo (needTo fl K2) 8)) := hM.ints
      clear hB IC_8 hM
      go_wp2_with fail
      refine (spec_need al2 K2 cl2 fl _ HF (by omega) IC_9).mono ?_
      rintro e w10 (⟨_, ⟨vnb, rfl, hM⟩, hB⟩ | ⟨h, _⟩)
      rotate_left
      · rw [hc2] at h; cases h
      obtain ⟨nba, nbc, enb, hM2⟩ := lrow_ints hM
      subst enb
      clear hM
      have B10 : Hid (Below w.heap.size w w10) := B9.out.trans (hB.mono B9.out.size)
      have IC_10 : Hid (Ints w10 al2 fl) := IC_9.out.kept hB
      have NA_10 : Hid (Ints w10 naa (risingTo (needTo fl K2) 8)) := NA_9.out.kept hB
      have NB_10 : Hid (Ints w10 nba (risingTo (needTo fl K2) 8)) := hM2
      clear hB IC_9 NA_9 hM2
      go_wp2_with fail
      refine (impl_set al2 K2 cl2 fl _ HF (by omega) IC_10).mono ?_
      rintro e w11 (⟨_, ⟨saa, sac, rfl, hM⟩, hB⟩ | ⟨h, _⟩)
      rotate_left
      · rw [hc2] at h; cases h
      have B11 : Hid (Below w.heap.size w w11) := B10.out.trans (hB.mono B10.out.size)
      have IC_11 : Hid (Ints w11 al2 fl) := IC_10.out.kept hB
      have NA_11 : Hid (Ints w11 naa (risingTo (needTo fl K2) 8)) := NA_10.out.kept hB
      have NB_11 : Hid (Ints w11 nba (risingTo (needTo fl K2) 8)) := NB_10.out.kept hB
      have SA_11 : Hid (Ints w11 saa (risingTo (setTo fl K2) 8)) := hM.ints
      clear hB IC_10 NA_10 NB_10 hM
      go_wp2_with fail
      refine (spec_set al2 K2 cl2 fl _ HF (by omega) IC_11).mono ?_
      rintro e w12 (⟨_, ⟨vsb, rfl, hM⟩, hB⟩ | ⟨h, _⟩)
      rotate_left
      · rw [hc2] at h; cases h
      obtain ⟨sba, sbc, esb, hM2⟩ := lrow_ints hM
      subst esb
      clear hM
      have B12 : Hid (Below w.heap.size w w12) := B11.out.trans (hB.mono B11.out.size)
      have IC_12 : Hid (Ints w12 al2 fl) := IC_11.out.kept hB
      have NA_12 : Hid (Ints w12 naa (risingTo (needTo fl K2) 8)) := NA_11.out.kept hB
      have NB_12 : Hid (Ints w12 nba (risingTo (needTo fl K2) 8)) := NB_11.out.kept hB
      have SA_12 : Hid (Ints w12 saa (risingTo (setTo fl K2) 8)) := SA_11.out.kept hB
      have SB_12 : Hid (Ints w12 sba (risingTo (setTo fl K2) 8)) := hM2
      clear hB IC_11 NA_11 NB_11 SA_11 hM2
      obtain ⟨n1, HN1, hn1⟩ : ∃ n1 : Nat, Hid ((risingTo (needTo fl K2) 8).length = n1) ∧ n1 ≤ 8 := ⟨_, rfl, rising_len _ 8⟩
      obtain ⟨n2, HN2, hn2⟩ : ∃ n2 : Nat, Hid ((risingTo (setTo fl K2) 8).length = n2) ∧ n2 ≤ 8 := ⟨_, rfl, rising_len _ 8⟩
      rw [HN1.out, HN2.out]
      go_wp2_with fail
      refine (same_ints naa nba n1 _ _ _ _ HN1 (by omega) NA_12 NB_12).mono ?_
      rintro e w13 ⟨rfl, hB⟩
      have B13 : Hid (Below w.heap.size w w13) := B12.out.trans (hB.mono B12.out.size)
      have IC_13 : Hid (Ints w13 al2 fl) := IC_12.out.kept hB
      have NA_13 : Hid (Ints w13 naa (risingTo (needTo fl K2) 8)) := NA_12.out.kept hB
      have NB_13 : Hid (Ints w13 nba (risingTo (needTo fl K2) 8)) := NB_12.out.kept hB
      have SA_13 : Hid (Ints w13 saa (risingTo (setTo fl K2) 8)) := SA_12.out.kept hB
      have SB_13 : Hid (Ints w13 sba (risingTo (setTo fl K2) 8)) := SB_12.out.kept hB
      clear hB IC_12 NA_12 NB_12 SA_12 SB_12
      go_wp2_with fail
      refine (same_ints saa sba n2 _ _ _ _ HN2 (by omega) SA_13 SB_13).mono ?_
      rintro e w14 ⟨rfl, hB⟩
      have B14 : Hid (Below w.heap.size w w14) := B13.out.trans (hB.mono B13.out.size)
      have IC_14 : Hid (Ints w14 al2 fl) := IC_13.out.kept hB
      have NA_14 : Hid (Ints w14 naa (risingTo (needTo fl K2) 8)) := NA_13.out.kept hB
      have NB_14 : Hid (Ints w14 nba (risingTo (needTo fl K2) 8)) := NB_13.out.kept hB
      have SA_14 : Hid (Ints w14 saa (risingTo (setTo fl K2) 8)) := SA_13.out.kept hB
      have SB_14 : Hid (Ints w14 sba (risingTo (setTo fl K2) 8)) := SB_13.out.kept hB
      clear hB IC_13 NA_13 NB_13 SA_13 SB_13
      go_wp2
      go_ret
      exact ⟨rfl, B14.out⟩
  · have hcw := (Bool.and_eq_true _ _).mp hok
    have HC : Hid (codeB zs L = true) := hcw.1
    have HW : Hid (wordsB ys = true) := hcw.2
    obtain ⟨tl, HTL, htl⟩ : ∃ tl : Nat, Hid ((toldTo zs ys L).length = tl) ∧ tl ≤ 31 := ⟨_, rfl, Nat.le_trans (told_len zs ys L) hL⟩
    have HV8 : Hid ((runW zs ys L).length = 8) := by show _ = _; rw [run_len]; exact HY.out
    clear hcw
    go_wp2_with fail
    refine (impl_run al av L cl 8 cv zs ys _ HZ (by omega) IL_1 HY (by omega) IV_1).mono ?_
    rintro e w2 (⟨_, ta, tc, va, vc, rfl, hT, hVv, _, hB⟩ | ⟨h, _⟩)
    rotate_left
    · rw [hok] at h; cases h
    rw [HTL.out]
    have B2 : Hid (Below w.heap.size w w2) := B1.out.trans (hB.mono B1.out.size)
    have IL_2 : Hid (Ints w2 al zs) := IL_1.out.kept hB
    have IV_2 : Hid (Ints w2 av ys) := IV_1.out.kept hB
    have T_2 : Hid (Ints w2 ta (toldTo zs ys L)) := hT.ints
    have V_2 : Hid (Ints w2 va (runW zs ys L)) := hVv.ints
    clear hB IL_1 IV_1 hT hVv
    go_wp2_with fail
    refine (spec_runcode al av L cl 8 cv zs ys _ HZ (by omega) IL_2 HY (by omega) IV_2).mono ?_
    rintro e w3 (⟨_, sa, sc, sb, sd, rfl, hT, hVv, hB⟩ | ⟨h, _⟩)
    rotate_left
    · rw [hok] at h; cases h
    rw [HTL.out]
    have B3 : Hid (Below w.heap.size w w3) := B2.out.trans (hB.mono B2.out.size)
    have IL_3 : Hid (Ints w3 al zs) := IL_2.out.kept hB
    have IV_3 : Hid (Ints w3 av ys) := IV_2.out.kept hB
    have T_3 : Hid (Ints w3 ta (toldTo zs ys L)) := T_2.out.kept hB
    have V_3 : Hid (Ints w3 va (runW zs ys L)) := V_2.out.kept hB
    have TS_3 : Hid (Ints w3 sa (toldTo zs ys L)) := hT
    have VS_3 : Hid (Ints w3 sb (runW zs ys L)) := hVv
    clear hB IL_2 IV_2 T_2 V_2 hT hVv
    go_wp2_with fail
    refine (same_ints ta sa tl _ _ (toldTo zs ys L) _ HTL (by omega) T_3 TS_3).mono ?_
    rintro e w4 ⟨rfl, hB⟩
    have B4 : Hid (Below w.heap.size w w4) := B3.out.trans (hB.mono B3.out.size)
    have IL_4 : Hid (Ints w4 al zs) := IL_3.out.kept hB
    have IV_4 : Hid (Ints w4 av ys) := IV_3.out.kept hB
    have T_4 : Hid (Ints w4 ta (toldTo zs ys L)) := T_3.out.kept hB
    have V_4 : Hid (Ints w4 va (runW zs ys L)) := V_3.out.kept hB
    have TS_4 : Hid (Ints w4 sa (toldTo zs ys L)) := TS_3.out.kept hB
    have VS_4 : Hid (Ints w4 sb (runW zs ys L)) := VS_3.out.kept hB
    clear hB IL_3 IV_3 T_3 V_3 TS_3 VS_3
    go_wp2_with fail
    refine (same_ints va sb 8 _ _ (runW zs ys L) _ HV8 (by omega) V_4 VS_4).mono ?_
    rintro e w5 ⟨rfl, hB⟩
    have B5 : Hid (Below w.heap.size w w5) := B4.out.trans (hB.mono B4.out.size)
    have IL_5 : Hid (Ints w5 al zs) := IL_4.out.kept hB
    have IV_5 : Hid (Ints w5 av ys) := IV_4.out.kept hB
    have T_5 : Hid (Ints w5 ta (toldTo zs ys L)) := T_4.out.kept hB
    have V_5 : Hid (Ints w5 va (runW zs ys L)) := V_4.out.kept hB
    have TS_5 : Hid (Ints w5 sa (toldTo zs ys L)) := TS_4.out.kept hB
    have VS_5 : Hid (Ints w5 sb (runW zs ys L)) := VS_4.out.kept hB
    clear hB IL_4 IV_4 T_4 V_4 TS_4 VS_4
    go_wp2_with fail
    refine (impl_code al L cl zs _ HZ (by omega) IL_5).mono ?_
    rintro e w6 ⟨rfl, hB⟩
    have B6 : Hid (Below w.heap.size w w6) := B5.out.trans (hB.mono B5.out.size)
    have IL_6 : Hid (Ints w6 al zs) := IL_5.out.kept hB
    have IV_6 : Hid (Ints w6 av ys) := IV_5.out.kept hB
    have T_6 : Hid (Ints w6 ta (toldTo zs ys L)) := T_5.out.kept hB
    have V_6 : Hid (Ints w6 va (runW zs ys L)) := V_5.out.kept hB
    have TS_6 : Hid (Ints w6 sa (toldTo zs ys L)) := TS_5.out.kept hB
    have VS_6 : Hid (Ints w6 sb (runW zs ys L)) := VS_5.out.kept hB
    clear hB IL_5 IV_5 T_5 V_5 TS_5 VS_5
    go_wp2_with fail
    refine (spec_code al L cl zs _ HZ (by omega) IL_6).mono ?_
    rintro e w7 ⟨rfl, hB⟩
    have B7 : Hid (Below w.heap.size w w7) := B6.out.trans (hB.mono B6.out.size)
    have IL_7 : Hid (Ints w7 al zs) := IL_6.out.kept hB
    have IV_7 : Hid (Ints w7 av ys) := IV_6.out.kept hB
    have T_7 : Hid (Ints w7 ta (toldTo zs ys L)) := T_6.out.kept hB
    have V_7 : Hid (Ints w7 va (runW zs ys L)) := V_6.out.kept hB
    have TS_7 : Hid (Ints w7 sa (toldTo zs ys L)) := TS_6.out.kept hB
    have VS_7 : Hid (Ints w7 sb (runW zs ys L)) := VS_6.out.kept hB
    clear hB IL_6 IV_6 T_6 V_6 TS_6 VS_6
    clear TS_7 VS_7
    go_wp2_with fail
    refine (number_any _ (src_kept C1.out B7.out) hlen1).mono ?_
    rintro e w' ⟨r, r0, r1, rfl, rfl⟩
    obtain ⟨K, HK, HK', hK⟩ : ∃ K : Nat, r % ((L : Int) + 1) = (K : Int) ∧ Int.tmod r ((L : Int) + 1) = (K : Int) ∧ K ≤ L := by
      have h0 := Int.emod_nonneg r (show (L : Int) + 1 ≠ 0 by omega)
      have h1 := Int.emod_lt_of_pos r (show 0 < (L : Int) + 1 by omega)
      refine ⟨(r % ((L : Int) + 1)).toNat, by omega, ?_, by omega⟩
      rw [Int.tmod_eq_emod_of_nonneg r0]; omega
    have HL0 : (L : Int) + 1 ≠ 0 := by omega
    have HCT : Hid (codeB (zs.take (K * 5)) K = true) := code_take HC.out hK
    have HCD : Hid (codeB (zs.drop (K * 5)) (L - K) = true) := code_drop HC.out hK
    have HZT : Hid ((zs.take (K * 5)).length = K * 5) := by show _ = _; simp; have := HZ.out; omega
    have HZD : Hid ((zs.drop (K * 5)).length = (L - K) * 5) := by show _ = _; simp; have := HZ.out; omega
    have hforms : (al = none ∧ K = cl) ∨ (∃ g, al = some ⟨g, 0, none⟩ ∧ K < cl) ∨ (∃ g, al = some ⟨g, 0, none⟩ ∧ K = cl) := by
      rcases hform with ⟨h1, h2, h3⟩ | ⟨g, h1⟩
      · exact Or.inl ⟨h1, by omega⟩
      · by_cases h : K < cl
        · exact Or.inr (Or.inl ⟨g, h1, h⟩)
        · exact Or.inr (Or.inr ⟨g, h1, by omega⟩)
    have HD0 : Hid (cl = K → ∀ (W : World) (a : Option Addr), Ints W a (zs.drop (K * 5))) := fun h W a => Or.inl (List.drop_eq_nil_of_le (by have := HZ.out; omega))
    clear hform
    rcases hforms with ⟨rfl, rfl⟩ | ⟨g, rfl, hKc⟩ | ⟨g, rfl, rfl⟩
    · have eLK : L - K = 0 := by omega
      rw [eLK] at HCD HZD
      have HD1 : Hid (∀ (W : World) (a : Option Addr), Ints W a (zs.drop (K * 5))) := HD0.out rfl
      clear HD0
      obtain ⟨t1, HT1, ht1⟩ : ∃ t1 : Nat, Hid ((toldTo (zs.take (K * 5)) ys K).length = t1) ∧ t1 ≤ 31 := ⟨_, rfl, by have := told_len (zs.take (K * 5)) ys K; omega⟩
      obtain ⟨RX, HRX⟩ : ∃ RX : List Int, Hid (runW (zs.take (K * 5)) ys K = RX) := ⟨_, rfl⟩
      obtain ⟨t2, HT2, ht2⟩ : ∃ t2 : Nat, Hid ((toldTo (zs.drop (K * 5)) RX 0).length = t2) ∧ t2 ≤ 31 := ⟨_, rfl, by have := told_len (zs.drop (K * 5)) RX 0; omega⟩
      have HX8 : Hid (RX.length = 8) := by show _ = _; rw [← HRX.out, run_len]; exact HY.out
      have HXW : Hid (wordsB RX = true) := by rw [← HRX.out]; exact run_words HW.out (code_out HCT.out).2 K (Nat.le_refl _)
      have HPR : Hid (runW (zs.drop (K * 5)) RX 0 = runW zs ys L) := by rw [← HRX.out]; rw [← eLK]; exact run_parts hK
      have HPT : Hid (toldTo (zs.take (K * 5)) ys K ++ toldTo (zs.drop (K * 5)) RX 0 = toldTo zs ys L) := by rw [← HRX.out]; rw [← eLK]; exact told_parts hK
      go_wp2_with fail
      refine (impl_run none av K K 8 cv (zs.take (K * 5)) ys _ HZT (by omega) (ints_take IL_7.out _) HY (by omega) IV_7).mono ?_
      rintro e w8 (⟨_, aa, ac, xa, xc, rfl, hA, hX, _, hB⟩ | ⟨h, _⟩)
      rotate_left
      · rw [HCT.out, HW.out] at h; cases h
      rw [HT1.out]
      have hX2 := hX.ints
      rw [HRX.out] at hX2
      clear hX
      have B8 : Hid (Below w.heap.size w w8) := B7.out.trans (hB.mono B7.out.size)
      have IL_8 : Hid (Ints w8 none zs) := IL_7.out.kept hB
      have IV_8 : Hid (Ints w8 av ys) := IV_7.out.kept hB
      have T_8 : Hid (Ints w8 ta (toldTo zs ys L)) := T_7.out.kept hB
      have V_8 : Hid (Ints w8 va (runW zs ys L)) := V_7.out.kept hB
      have TA_8 : Hid (Ints w8 aa (toldTo (zs.take (K * 5)) ys K)) := hA.ints
      have XX_8 : Hid (Ints w8 xa RX) := hX2
      clear hB IL_7 IV_7 T_7 V_7 hA hX2
      go_wp2_with fail
      refine (impl_run none xa 0 0 8 xc (zs.drop (K * 5)) RX _ HZD (by omega) (HD1.out _ _) HX8 (by omega) XX_8).mono ?_
      rintro e w9 (⟨_, ba, bc, ya, yc, rfl, hA, hX, _, hB⟩ | ⟨h, _⟩)
      rotate_left
      · rw [HCD.out, HXW.out] at h; cases h
      rw [HT2.out]
      have hX2 := hX.ints
      rw [HPR.out] at hX2
      clear hX
      have B9 : Hid (Below w.heap.size w w9) := B8.out.trans (hB.mono B8.out.size)
      have IL_9 : Hid (Ints w9 none zs) := IL_8.out.kept hB
      have IV_9 : Hid (Ints w9 av ys) := IV_8.out.kept hB
      have T_9 : Hid (Ints w9 ta (toldTo zs ys L)) := T_8.out.kept hB
      have V_9 : Hid (Ints w9 va (runW zs ys L)) := V_8.out.kept hB
      have TA_9 : Hid (Ints w9 aa (toldTo (zs.take (K * 5)) ys K)) := TA_8.out.kept hB
      have XX_9 : Hid (Ints w9 xa RX) := XX_8.out.kept hB
      have TB_9 : Hid (Ints w9 ba (toldTo (zs.drop (K * 5)) RX 0)) := hA.ints
      have YY_9 : Hid (Ints w9 ya (runW zs ys L)) := hX2
      clear hB IL_8 IV_8 T_8 V_8 TA_8 XX_8 hA hX2
      go_wp2_with fail
      refine (same_ints ya va 8 _ _ (runW zs ys L) _ HV8 (by omega) YY_9 V_9).mono ?_
      rintro e w10 ⟨rfl, hB⟩
      have B10 : Hid (Below w.heap.size w w10) := B9.out.trans (hB.mono B9.out.size)
      have IL_10 : Hid (Ints w10 none zs) := IL_9.out.kept hB
      have IV_10 : Hid (Ints w10 av ys) := IV_9.out.kept hB
      have T_10 : Hid (Ints w10 ta (toldTo zs ys L)) := T_9.out.kept hB
      have V_10 : Hid (Ints w10 va (runW zs ys L)) := V_9.out.kept hB
      have TA_10 : Hid (Ints w10 aa (toldTo (zs.take (K * 5)) ys K)) := TA_9.out.kept hB
      have TB_10 : Hid (Ints w10 ba (toldTo (zs.drop (K * 5)) RX 0)) := TB_9.out.kept hB
      clear hB IL_9 IV_9 T_9 V_9 TA_9 TB_9 XX_9 YY_9
      have HA0 : Hid (Below w10.heap.size w10 (w10.alloc (.cells #[] 3))) := (Below.refl _ _).alloc (Nat.le_refl _) _
      obtain ⟨v1, u1, q1, o1, g1⟩ := own_append (c := ac) (own_made w10 w10.heap.size (Nat.le_refl _)) (TA_10.out.kept HA0.out) (by simp) (by simp; have := HT1.out; omega)
      rw [HT1.out] at q1
      have HU1 : Hid (Below w10.heap.size w10 u1) := HA0.out.grown g1 (by simp) (fun k hk => by simp [Value.ownBlock] at hk; omega)
      obtain ⟨v2, w11, q2, o2, g2⟩ := own_append (c := bc) o1 (TB_10.out.kept HU1.out) HU1.out.size (by simp; have h1 := HT1.out; have h2 := HT2.out; omega)
      rw [HT2.out] at q2
      have hB : Below w10.heap.size w10 w11 := HU1.out.grown g2 HU1.out.size (fun k hk => (World.ownsRow.lt o1 k hk).1)
      rw [List.nil_append, HPT.out] at o2
      obtain ⟨pa, pc, hv2, hM⟩ := o2.mine
      rw [HTL.out] at hv2
      subst hv2
      have hP := hM.ints
      clear hM o2 o1 g1 g2 HU1 HA0
      have B11 : Hid (Below w.heap.size w w11) := B10.out.trans (hB.mono B10.out.size)
      have IL_11 : Hid (Ints w11 none zs) := IL_10.out.kept hB
      have IV_11 : Hid (Ints w11 av ys) := IV_10.out.kept hB
      have T_11 : Hid (Ints w11 ta (toldTo zs ys L)) := T_10.out.kept hB
      have V_11 : Hid (Ints w11 va (runW zs ys L)) := V_10.out.kept hB
      have PP_11 : Hid (Ints w11 pa (toldTo zs ys L)) := hP
      clear hB IL_10 IV_10 T_10 V_10 TA_10 TB_10 hP
      go_wp2_with (first | (at_builtin; refine wpList_app (by rfl) _ _ _ _ _ _ rfl rfl rfl q1 ?_) | (at_builtin; refine wpList_app (by rfl) _ _ _ _ _ _ rfl rfl rfl q2 ?_))
      clear q1 q2
      refine (same_ints pa ta tl _ _ (toldTo zs ys L) _ HTL (by omega) PP_11 T_11).mono ?_
      rintro e w12 ⟨rfl, hB⟩
      have B12 : Hid (Below w.heap.size w w12) := B11.out.trans (hB.mono B11.out.size)
      have IL_12 : Hid (Ints w12 none zs) := IL_11.out.kept hB
      have IV_12 : Hid (Ints w12 av ys) := IV_11.out.kept hB
      have T_12 : Hid (Ints w12 ta (toldTo zs ys L)) := T_11.out.kept hB
      have V_12 : Hid (Ints w12 va (runW zs ys L)) := V_11.out.kept hB
      clear hB IL_11 IV_11 T_11 V_11 PP_11
      obtain ⟨nl, HNL, hnl⟩ : ∃ nl : Nat, Hid ((risingTo (needTo zs L) 8).length = nl) ∧ nl ≤ 8 := ⟨_, rfl, rising_len _ 8⟩
      go_wp2_with fail
      refine (impl_need none L K zs _ HZ (by omega) IL_12).mono ?_
      rintro e w13 (⟨_, ⟨nna, nnc, rfl, hM⟩, hB⟩ | ⟨h, _⟩)
      rotate_left
      · rw [HC.out] at h; cases h
      rw [HNL.out]
      have B13 : Hid (Below w.heap.size w w13) := B12.out.trans (hB.mono B12.out.size)
      have IL_13 : Hid (Ints w13 none zs) := IL_12.out.kept hB
      have IV_13 : Hid (Ints w13 av ys) := IV_12.out.kept hB
      have T_13 : Hid (Ints w13 ta (toldTo zs ys L)) := T_12.out.kept hB
      have V_13 : Hid (Ints w13 va (runW zs ys L)) := V_12.out.kept hB
      have NN_13 : Hid (Ints w13 nna (risingTo (needTo zs L) 8)) := hM.ints
      clear hB IL_12 IV_12 T_12 V_12 hM
      obtain ⟨sl, HSL, hsl⟩ : ∃ sl : Nat, Hid ((risingTo (setTo zs L) 8).length = sl) ∧ sl ≤ 8 := ⟨_, rfl, rising_len _ 8⟩
      go_wp2_with fail
      refine (impl_set none L K zs _ HZ (by omega) IL_13).mono ?_
      rintro e w14 (⟨_, ⟨sna, snc, rfl, hM⟩, hB⟩ | ⟨h, _⟩)
      rotate_left
      · rw [HC.out] at h; cases h
      rw [HSL.out]
      have B14 : Hid (Below w.heap.size w w14) := B13.out.trans (hB.mono B13.out.size)
      have IL_14 : Hid (Ints w14 none zs) := IL_13.out.kept hB
      have IV_14 : Hid (Ints w14 av ys) := IV_13.out.kept hB
      have T_14 : Hid (Ints w14 ta (toldTo zs ys L)) := T_13.out.kept hB
      have V_14 : Hid (Ints w14 va (runW zs ys L)) := V_13.out.kept hB
      have NN_14 : Hid (Ints w14 nna (risingTo (needTo zs L) 8)) := NN_13.out.kept hB
      have SN_14 : Hid (Ints w14 sna (risingTo (setTo zs L) 8)) := hM.ints
      clear hB IL_13 IV_13 T_13 V_13 NN_13 hM
      have HA0 : Hid (Below w14.heap.size w14 (w14.alloc (.cells #[] 3))) := (Below.refl _ _).alloc (Nat.le_refl _) _
      obtain ⟨v3, w15, q3, o3, g3⟩ := own_append (c := cv) (own_made w14 w14.heap.size (Nat.le_refl _)) (IV_14.out.kept HA0.out) (by simp) (by simp; have := HY.out; omega)
      rw [HY.out] at q3
      have hB0 : Below w14.heap.size w14 w15 := HA0.out.grown g3 (by simp) (fun k hk => by simp [Value.ownBlock] at hk; omega)
      rw [List.nil_append] at o3
      obtain ⟨oa, oc, hv3, hM⟩ := o3.mine
      rw [HY.out] at hv3
      subst hv3
      obtain ⟨og, oo, rfl, hog⟩ : ∃ og oo, oa = some ⟨og, oo, none⟩ ∧ w14.heap.size ≤ og := by
        rcases hM with e | ⟨b, off, e, h0, _⟩
        · have := HY.out; rw [e] at this; simp at this
        · exact ⟨b, off, e, h0⟩
      have HO0 : Hid (Mine w15 w14.heap.size (some ⟨og, oo, none⟩) ys) := hM
      have HB0 : Hid (Below w14.heap.size w14 w15) := hB0
      have hband := and_word
      clear hM o3 g3 HA0 hB0
      go_wp2_with (at_builtin; refine wpList_app (by rfl) _ _ _ _ _ _ rfl rfl rfl q3 ?_)
      clear q3
      obtain ⟨WO, HWO⟩ : ∃ WO : List Int, Hid (otherTo (needTo zs L) (K : Int) ys 8 = WO) := ⟨_, rfl⟩
      go_loopw [154] (fun vi wr => ∃ j : Nat, j ≤ 8 ∧ vi = .int .i64 j ∧ Hid (Mine wr w14.heap.size (some ⟨og, oo, none⟩) (otherTo (needTo zs L) (K : Int) ys j)) ∧ Hid (Below w14.heap.size w14 wr)) (fun vi _ => 8 - (intOf vi).toNat)
      case atStart => exact ⟨0, Nat.zero_le _, rfl, HO0, HB0⟩
      case round =>
        obtain ⟨j, hj, rfl, HM, HB⟩ := hrel
        by_cases hlt : j < 8
        · have hjI : (j : Int) < 8 := by omega
          have HAS : Hid (∀ w' : World, Below w14.heap.size w14 w' → Calls Try.prog 13 #[.slice nna nl nnc, .int .i64 (j : Int)] w' fun e W' => e = .returned (.bool (needTo zs L j)) ∧ W' = w') := fun w' hb => by
            have h := has_eq nna nl nnc (risingTo (needTo zs L) 8) (j : Int) w' HNL (by omega) (NN_14.out.kept hb)
            rw [has_needed _ hlt] at h; exact h
          cases hn : needTo zs L j
          · rw [hn] at HAS
            have hol : (otherTo (needTo zs L) (K : Int) ys j).length = 8 := by rw [other_len]; exact HY.out
            obtain ⟨cc, cf⟩ : wr.cell? ⟨og, oo + j, none⟩ = some (.int .i64 (ys.getD j 0)) ∧ wr.frozen? ⟨og, oo + j, none⟩ = false := by
              rcases HM.out with e | ⟨b, off, e, _, _, hc⟩
              · rw [e] at hol; simp at hol
              · simp only [Option.some.injEq, Addr.mk.injEq] at e
                obtain ⟨rfl, rfl, _⟩ := e
                have h := hc j (by rw [hol]; exact hlt)
                rw [other_late _ _ _ j j (Nat.le_refl _)] at h
                exact h
            obtain ⟨y0, y1⟩ := word_at HW.out hlt
            have HS' : Hid (otherTo (needTo zs L) (K : Int) ys (j + 1) = (otherTo (needTo zs L) (K : Int) ys j).set j ((ys.getD j 0 + 1 + (K : Int)) % 65536)) := by show otherTo _ _ _ (j + 1) = _; simp [otherTo, hn]
            have hl' : Hid (j < (otherTo (needTo zs L) (K : Int) ys j).length) := by show j < _; omega
            have hKI : (K : Int) ≤ 31 := by omega
            clear hol
            generalize ys.getD j 0 = yj at cc y0 y1 HS'
            go_wp2_with (go_at_call 13; refine (HAS.out _ HB.out).mono ?_; rintro e w' ⟨rfl, hw⟩; rw [hw]; clear hw w')
            go_roundw
            case rel => exact ⟨j + 1, by omega, by go_num, by rw [HS'.out]; exact mine_set HM.out hl'.out, HB.out.setCell hog _⟩
            case measure => simp [intOf]; omega
          · rw [hn] at HAS
            have HS' : Hid (otherTo (needTo zs L) (K : Int) ys (j + 1) = otherTo (needTo zs L) (K : Int) ys j) := by show otherTo _ _ _ (j + 1) = _; simp [otherTo, hn]
            go_wp2_with (go_at_call 13; refine (HAS.out _ HB.out).mono ?_; rintro e w' ⟨rfl, hw⟩; rw [hw]; clear hw w')
            go_roundw
            case rel => exact ⟨j + 1, by omega, by go_num, by rw [HS'.out]; exact HM.out, HB.out⟩
            case measure => simp [intOf]; omega
        · have HE : Hid (j = 8) := by show j = 8; omega
          obtain ⟨w16, hwx⟩ : ∃ x, x = wr := ⟨_, rfl⟩
          subst hwx
          have hB := HB.out
          have B16 : Hid (Below w.heap.size w w16) := B14.out.trans (hB.mono B14.out.size)
          have IL_16 : Hid (Ints w16 none zs) := IL_14.out.kept hB
          have IV_16 : Hid (Ints w16 av ys) := IV_14.out.kept hB
          have T_16 : Hid (Ints w16 ta (toldTo zs ys L)) := T_14.out.kept hB
          have V_16 : Hid (Ints w16 va (runW zs ys L)) := V_14.out.kept hB
          have SN_16 : Hid (Ints w16 sna (risingTo (setTo zs L) 8)) := SN_14.out.kept hB
          have OT_16 : Hid (Ints w16 (some ⟨og, oo, none⟩) WO) := by rw [← HWO.out, ← HE.out]; exact HM.out.ints
          have HO8 : Hid (WO.length = 8) := by show _ = _; rw [← HWO.out, other_len]; exact HY.out
          have HOW : Hid (wordsB WO = true) := by rw [← HWO.out]; exact other_words HW.out 8
          have HLV : Hid (toldTo zs ys L = toldTo zs WO L ∧ ∀ i, i < 8 → (setTo zs L i = true → (runW zs ys L).getD i 0 = (runW zs WO L).getD i 0) ∧ (setTo zs L i = false → (runW zs ys L).getD i 0 = ys.getD i 0 ∧ (runW zs WO L).getD i 0 = WO.getD i 0)) :=
            live_run (code_out HC.out).2 HY.out HO8.out (fun i hi hn => by rw [← HWO.out]; exact (other_kept _ _ _ hn 8).symm) L (Nat.le_refl _)
          have HZ8 : Hid ((runW zs WO L).length = 8) := by show _ = _; rw [run_len]; exact HO8.out
          clear hB HM HB HO0 HB0 IL_14 IV_14 T_14 V_14 NN_14 SN_14
          go_wp2_with fail
          refine (impl_run none (some ⟨og, oo, none⟩) L K 8 oc zs WO _ HZ (by omega) IL_16 HO8 (by omega) OT_16).mono ?_
          rintro e w17 (⟨_, ua, uc, za, zc, rfl, hA, hX, _, hB⟩ | ⟨h, _⟩)
          rotate_left
          · rw [HC.out, HOW.out] at h; cases h
          rw [← HLV.out.1, HTL.out]
          have hA2 := hA.ints
          rw [← HLV.out.1] at hA2
          clear hA
          have B17 : Hid (Below w.heap.size w w17) := B16.out.trans (hB.mono B16.out.size)
          have IL_17 : Hid (Ints w17 none zs) := IL_16.out.kept hB
          have IV_17 : Hid (Ints w17 av ys) := IV_16.out.kept hB
          have T_17 : Hid (Ints w17 ta (toldTo zs ys L)) := T_16.out.kept hB
          have V_17 : Hid (Ints w17 va (runW zs ys L)) := V_16.out.kept hB
          have SN_17 : Hid (Ints w17 sna (risingTo (setTo zs L) 8)) := SN_16.out.kept hB
          have OT_17 : Hid (Ints w17 (some ⟨og, oo, none⟩) WO) := OT_16.out.kept hB
          have UU_17 : Hid (Ints w17 ua (toldTo zs ys L)) := hA2
          have ZZ_17 : Hid (Ints w17 za (runW zs WO L)) := hX.ints
          clear hB IL_16 IV_16 T_16 V_16 SN_16 OT_16 hA2 hX
          go_wp2_with fail
          refine (same_ints ua ta tl _ _ (toldTo zs ys L) _ HTL (by omega) UU_17 T_17).mono ?_
          rintro e w18 ⟨rfl, hB⟩
          have B18 : Hid (Below w.heap.size w w18) := B17.out.trans (hB.mono B17.out.size)
          have IV_18 : Hid (Ints w18 av ys) := IV_17.out.kept hB
          have V_18 : Hid (Ints w18 va (runW zs ys L)) := V_17.out.kept hB
          have SN_18 : Hid (Ints w18 sna (risingTo (setTo zs L) 8)) := SN_17.out.kept hB
          have OT_18 : Hid (Ints w18 (some ⟨og, oo, none⟩) WO) := OT_17.out.kept hB
          have ZZ_18 : Hid (Ints w18 za (runW zs WO L)) := ZZ_17.out.kept hB
          clear hB IV_17 V_17 SN_17 OT_17 ZZ_17 UU_17 T_17 IL_17
          go_wp2_with fail
          go_loopw [190] (fun vi wr => ∃ i : Nat, i ≤ 8 ∧ vi = .int .i64 i ∧ Hid (Below w18.heap.size w18 wr)) (fun vi _ => 8 - (intOf vi).toNat)
          case atStart => exact ⟨0, Nat.zero_le _, rfl, Below.refl _ _⟩
          case round =>
            obtain ⟨i, hi, rfl, HQ⟩ := hrel
            by_cases hlt2 : i < 8
            · have hiI : (i : Int) < 8 := by omega
              have HAS : Hid (∀ w' : World, Below w18.heap.size w18 w' → Calls Try.prog 13 #[.slice sna sl snc, .int .i64 (i : Int)] w' fun e W' => e = .returned (.bool (setTo zs L i)) ∧ W' = w') := fun w' hb => by
                have h := has_eq sna sl snc (risingTo (setTo zs L) 8) (i : Int) w' HSL (by omega) (SN_18.out.kept hb)
                rw [has_needed _ hlt2] at h; exact h
              obtain ⟨b1, o1, e1, c1⟩ := ZZ_18.out.at HQ.out (k := i) (by have := HZ8.out; omega)
              obtain ⟨b2, o2, e2, c2⟩ := V_18.out.at HQ.out (k := i) (by have := HV8.out; omega)
              obtain ⟨b3, o3, e3, c3⟩ := OT_18.out.at HQ.out (k := i) (by have := HO8.out; omega)
              obtain ⟨b4, o4, e4, c4⟩ := IV_18.out.at HQ.out (k := i) (by have := HY.out; omega)
              simp only [Option.some.injEq, Addr.mk.injEq] at e3
              obtain ⟨e31, e32, _⟩ := e3
              subst e1 e2 e31 e32 e4
              obtain ⟨hs1, hs2⟩ := HLV.out.2 i hlt2
              cases hst : setTo zs L i
              · rw [hst] at HAS
                obtain ⟨p1, p2⟩ := hs2 hst
                rw [p1] at c2
                rw [p2] at c1
                clear hs1 hs2 p1 p2 hst
                generalize ys.getD i 0 = y at c2 c4
                generalize WO.getD i 0 = o at c1 c3
                go_wp2
                go_quiet (first | (go_at_call 13; refine Calls.quiet_of_same (HAS.out _ (below_drewN HQ.out _))))
                go_wp2
                go_roundw
                case rel => exact ⟨i + 1, by omega, by go_num, below_drewN HQ.out _⟩
                case measure => simp [intOf]; omega
              · rw [hst] at HAS
                have p := hs1 hst
                rw [← p] at c1
                clear hs1 hs2 p hst
                generalize (runW zs ys L).getD i 0 = y at c1 c2
                generalize ys.getD i 0 = y' at c4
                generalize WO.getD i 0 = o at c3
                go_wp2
                go_quiet (first | (go_at_call 13; refine Calls.quiet_of_same (HAS.out _ (below_drewN HQ.out _))))
                go_wp2
                go_roundw
                case rel => exact ⟨i + 1, by omega, by go_num, below_drewN HQ.out _⟩
                case measure => simp [intOf]; omega
            · obtain ⟨w19, hwx⟩ : ∃ x, x = wr := ⟨_, rfl⟩
              subst hwx
              have B19 : Hid (Below w.heap.size w w19) := B18.out.trans (HQ.out.mono B18.out.size)
              go_wp2_with fail
              refine (drawNeed_any (src_kept C1.out B19.out) hlen1).mono ?_
              rintro e w20 ⟨K2, fl, al2, cl2, hK2, hf, rfl, hI, hB⟩
              have B20 : Hid (Below w.heap.size w w20) := B19.out.trans (hB.mono B19.out.size)
              have IC_20 : Hid (Ints w20 al2 fl) := hI
              clear hB hI
              have HF : Hid (fl.length = K2 * 5) := hf
              clear hf
              cases hc2 : codeB fl K2
              · go_wp2_with fail
                refine (impl_need al2 K2 cl2 fl _ HF (by omega) IC_20).mono ?_
                rintro e w21 (⟨h, _⟩ | ⟨_, rfl, hB⟩)
                · rw [hc2] at h; cases h
                have B21 : Hid (Below w.heap.size w w21) := B20.out.trans (hB.mono B20.out.size)
                have IC_21 : Hid (Ints w21 al2 fl) := IC_20.out.kept hB
                clear hB IC_20
                go_wp2_with fail
                refine (spec_need al2 K2 cl2 fl _ HF (by omega) IC_21).mono ?_
                rintro e w22 (⟨h, _⟩ | ⟨_, rfl, hB⟩)
                · rw [hc2] at h; cases h
                have B22 : Hid (Below w.heap.size w w22) := B21.out.trans (hB.mono B21.out.size)
                have IC_22 : Hid (Ints w22 al2 fl) := IC_21.out.kept hB
                clear hB IC_21
                go_wp2_with fail
                refine (impl_set al2 K2 cl2 fl _ HF (by omega) IC_22).mono ?_
                rintro e w23 (⟨h, _⟩ | ⟨_, rfl, hB⟩)
                · rw [hc2] at h; cases h
                have B23 : Hid (Below w.heap.size w w23) := B22.out.trans (hB.mono B22.out.size)
                have IC_23 : Hid (Ints w23 al2 fl) := IC_22.out.kept hB
                clear hB IC_22
                go_wp2_with fail
                refine (spec_set al2 K2 cl2 fl _ HF (by omega) IC_23).mono ?_
                rintro e w24 (⟨h, _⟩ | ⟨_, rfl, hB⟩)
                · rw [hc2] at h; cases h
                have B24 : Hid (Below w.heap.size w w24) := B23.out.trans (hB.mono B23.out.size)
                have IC_24 : Hid (Ints w24 al2 fl) := IC_23.out.kept hB
                clear hB IC_23
                go_wp2_with fail
                refine (same_ints none none 0 _ _ [] _ rfl (by omega) (Or.inl rfl) (Or.inl rfl)).mono ?_
                rintro e w25 ⟨rfl, hB⟩
                have B25 : Hid (Below w.heap.size w w25) := B24.out.trans (hB.mono B24.out.size)
                have IC_25 : Hid (Ints w25 al2 fl) := IC_24.out.kept hB
                clear hB IC_24
                go_wp2_with fail
                refine (same_ints none none 0 _ _ [] _ rfl (by omega) (Or.inl rfl) (Or.inl rfl)).mono ?_
                rintro e w26 ⟨rfl, hB⟩
                have B26 : Hid (Below w.heap.size w w26) := B25.out.trans (hB.mono B25.out.size)
                have IC_26 : Hid (Ints w26 al2 fl) := IC_25.out.kept hB
                clear hB IC_25
                go_wp2
                go_ret
                exact ⟨rfl, B26.out⟩
              · go_wp2_with fail
                refine (impl_need al2 K2 cl2 fl _ HF (by omega) IC_20).mono ?_
                rintro e w21 (⟨_, ⟨naa, nac, rfl, hM⟩, hB⟩ | ⟨h, _⟩)
                rotate_left
                · rw [hc2] at h; cases h
                have B21 : Hid (Below w.heap.size w w21) := B20.out.trans (hB.mono B20.out.size)
                have IC_21 : Hid (Ints w21 al2 fl) := IC_20.out.kept hB
                have NA_21 : Hid (Ints w21 naa (risingTo (needTo fl K2) 8)) := hM.ints
                clear hB IC_20 hM
                go_wp2_with fail
                refine (spec_need al2 K2 cl2 fl _ HF (by omega) IC_21).mono ?_
                rintro e w22 (⟨_, ⟨vnb, rfl, hM⟩, hB⟩ | ⟨h, _⟩)
                rotate_left
                · rw [hc2] at h; cases h
                obtain ⟨nba, nbc, enb, hM2⟩ := lrow_ints hM
                subst enb
                clear hM
                have B22 : Hid (Below w.heap.size w w22) := B21.out.trans (hB.mono B21.out.size)
                have IC_22 : Hid (Ints w22 al2 fl) := IC_21.out.kept hB
                have NA_22 : Hid (Ints w22 naa (risingTo (needTo fl K2) 8)) := NA_21.out.kept hB
                have NB_22 : Hid (Ints w22 nba (risingTo (needTo fl K2) 8)) := hM2
                clear hB IC_21 NA_21 hM2
                go_wp2_with fail
                refine (impl_set al2 K2 cl2 fl _ HF (by omega) IC_22).mono ?_
                rintro e w23 (⟨_, ⟨saa, sac, rfl, hM⟩, hB⟩ | ⟨h, _⟩)
                rotate_left
                · rw [hc2] at h; cases h
                have B23 : Hid (Below w.heap.size w w23) := B22.out.trans (hB.mono B22.out.size)
                have IC_23 : Hid (Ints w23 al2 fl) := IC_22.out.kept hB
                have NA_23 : Hid (Ints w23 naa (risingTo (needTo fl K2) 8)) := NA_22.out.kept hB
                have NB_23 : Hid (Ints w23 nba (risingTo (needTo fl K2) 8)) := NB_22.out.kept hB
                have SA_23 : Hid (Ints w23 saa (risingTo (setTo fl K2) 8)) := hM.ints
                clear hB IC_22 NA_22 NB_22 hM
                go_wp2_with fail
                refine (spec_set al2 K2 cl2 fl _ HF (by omega) IC_23).mono ?_
                rintro e w24 (⟨_, ⟨vsb, rfl, hM⟩, hB⟩ | ⟨h, _⟩)
                rotate_left
                · rw [hc2] at h; cases h
                obtain ⟨sba, sbc, esb, hM2⟩ := lrow_ints hM
                subst esb
                clear hM
                have B24 : Hid (Below w.heap.size w w24) := B23.out.trans (hB.mono B23.out.size)
                have IC_24 : Hid (Ints w24 al2 fl) := IC_23.out.kept hB
                have NA_24 : Hid (Ints w24 naa (risingTo (needTo fl K2) 8)) := NA_23.out.kept hB
                have NB_24 : Hid (Ints w24 nba (risingTo (needTo fl K2) 8)) := NB_23.out.kept hB
                have SA_24 : Hid (Ints w24 saa (risingTo (setTo fl K2) 8)) := SA_23.out.kept hB
                have SB_24 : Hid (Ints w24 sba (risingTo (setTo fl K2) 8)) := hM2
                clear hB IC_23 NA_23 NB_23 SA_23 hM2
                obtain ⟨n1, HN1, hn1⟩ : ∃ n1 : Nat, Hid ((risingTo (needTo fl K2) 8).length = n1) ∧ n1 ≤ 8 := ⟨_, rfl, rising_len _ 8⟩
                obtain ⟨n2, HN2, hn2⟩ : ∃ n2 : Nat, Hid ((risingTo (setTo fl K2) 8).length = n2) ∧ n2 ≤ 8 := ⟨_, rfl, rising_len _ 8⟩
                rw [HN1.out, HN2.out]
                go_wp2_with fail
                refine (same_ints naa nba n1 _ _ _ _ HN1 (by omega) NA_24 NB_24).mono ?_
                rintro e w25 ⟨rfl, hB⟩
                have B25 : Hid (Below w.heap.size w w25) := B24.out.trans (hB.mono B24.out.size)
                have IC_25 : Hid (Ints w25 al2 fl) := IC_24.out.kept hB
                have NA_25 : Hid (Ints w25 naa (risingTo (needTo fl K2) 8)) := NA_24.out.kept hB
                have NB_25 : Hid (Ints w25 nba (risingTo (needTo fl K2) 8)) := NB_24.out.kept hB
                have SA_25 : Hid (Ints w25 saa (risingTo (setTo fl K2) 8)) := SA_24.out.kept hB
                have SB_25 : Hid (Ints w25 sba (risingTo (setTo fl K2) 8)) := SB_24.out.kept hB
                clear hB IC_24 NA_24 NB_24 SA_24 SB_24
                go_wp2_with fail
                refine (same_ints saa sba n2 _ _ _ _ HN2 (by omega) SA_25 SB_25).mono ?_
                rintro e w26 ⟨rfl, hB⟩
                have B26 : Hid (Below w.heap.size w w26) := B25.out.trans (hB.mono B25.out.size)
                have IC_26 : Hid (Ints w26 al2 fl) := IC_25.out.kept hB
                have NA_26 : Hid (Ints w26 naa (risingTo (needTo fl K2) 8)) := NA_25.out.kept hB
                have NB_26 : Hid (Ints w26 nba (risingTo (needTo fl K2) 8)) := NB_25.out.kept hB
                have SA_26 : Hid (Ints w26 saa (risingTo (setTo fl K2) 8)) := SA_25.out.kept hB
                have SB_26 : Hid (Ints w26 sba (risingTo (setTo fl K2) 8)) := SB_25.out.kept hB
                clear hB IC_25 NA_25 NB_25 SA_25 SB_25
                go_wp2
                go_ret
                exact ⟨rfl, B26.out⟩
    · obtain ⟨t1, HT1, ht1⟩ : ∃ t1 : Nat, Hid ((toldTo (zs.take (K * 5)) ys K).length = t1) ∧ t1 ≤ 31 := ⟨_, rfl, by have := told_len (zs.take (K * 5)) ys K; omega⟩
      obtain ⟨RX, HRX⟩ : ∃ RX : List Int, Hid (runW (zs.take (K * 5)) ys K = RX) := ⟨_, rfl⟩
      obtain ⟨t2, HT2, ht2⟩ : ∃ t2 : Nat, Hid ((toldTo (zs.drop (K * 5)) RX (L - K)).length = t2) ∧ t2 ≤ 31 := ⟨_, rfl, by have := told_len (zs.drop (K * 5)) RX (L - K); omega⟩
      have HX8 : Hid (RX.length = 8) := by show _ = _; rw [← HRX.out, run_len]; exact HY.out
      have HXW : Hid (wordsB RX = true) := by rw [← HRX.out]; exact run_words HW.out (code_out HCT.out).2 K (Nat.le_refl _)
      have HPR : Hid (runW (zs.drop (K * 5)) RX (L - K) = runW zs ys L) := by rw [← HRX.out]; exact run_parts hK
      have HPT : Hid (toldTo (zs.take (K * 5)) ys K ++ toldTo (zs.drop (K * 5)) RX (L - K) = toldTo zs ys L) := by rw [← HRX.out]; exact told_parts hK
      go_wp2_with fail
      refine (impl_run (some ⟨g, 0, none⟩) av K cl 8 cv (zs.take (K * 5)) ys _ HZT (by omega) (ints_take IL_7.out _) HY (by omega) IV_7).mono ?_
      rintro e w8 (⟨_, aa, ac, xa, xc, rfl, hA, hX, _, hB⟩ | ⟨h, _⟩)
      rotate_left
      · rw [HCT.out, HW.out] at h; cases h
      rw [HT1.out]
      have hX2 := hX.ints
      rw [HRX.out] at hX2
      clear hX
      have B8 : Hid (Below w.heap.size w w8) := B7.out.trans (hB.mono B7.out.size)
      have IL_8 : Hid (Ints w8 (some ⟨g, 0, none⟩) zs) := IL_7.out.kept hB
      have IV_8 : Hid (Ints w8 av ys) := IV_7.out.kept hB
      have T_8 : Hid (Ints w8 ta (toldTo zs ys L)) := T_7.out.kept hB
      have V_8 : Hid (Ints w8 va (runW zs ys L)) := V_7.out.kept hB
      have TA_8 : Hid (Ints w8 aa (toldTo (zs.take (K * 5)) ys K)) := hA.ints
      have XX_8 : Hid (Ints w8 xa RX) := hX2
      clear hB IL_7 IV_7 T_7 V_7 hA hX2
      go_wp2_with fail
      refine (impl_run (some ⟨g, K * 5, none⟩) xa (L - K) (cl - K) 8 xc (zs.drop (K * 5)) RX _ HZD (by omega) (drop0 IL_8.out) HX8 (by omega) XX_8).mono ?_
      rintro e w9 (⟨_, ba, bc, ya, yc, rfl, hA, hX, _, hB⟩ | ⟨h, _⟩)
      rotate_left
      · rw [HCD.out, HXW.out] at h; cases h
      rw [HT2.out]
      have hX2 := hX.ints
      rw [HPR.out] at hX2
      clear hX
      have B9 : Hid (Below w.heap.size w w9) := B8.out.trans (hB.mono B8.out.size)
      have IL_9 : Hid (Ints w9 (some ⟨g, 0, none⟩) zs) := IL_8.out.kept hB
      have IV_9 : Hid (Ints w9 av ys) := IV_8.out.kept hB
      have T_9 : Hid (Ints w9 ta (toldTo zs ys L)) := T_8.out.kept hB
      have V_9 : Hid (Ints w9 va (runW zs ys L)) := V_8.out.kept hB
      have TA_9 : Hid (Ints w9 aa (toldTo (zs.take (K * 5)) ys K)) := TA_8.out.kept hB
      have XX_9 : Hid (Ints w9 xa RX) := XX_8.out.kept hB
      have TB_9 : Hid (Ints w9 ba (toldTo (zs.drop (K * 5)) RX (L - K))) := hA.ints
      have YY_9 : Hid (Ints w9 ya (runW zs ys L)) := hX2
      clear hB IL_8 IV_8 T_8 V_8 TA_8 XX_8 hA hX2
      go_wp2_with fail
      refine (same_ints ya va 8 _ _ (runW zs ys L) _ HV8 (by omega) YY_9 V_9).mono ?_
      rintro e w10 ⟨rfl, hB⟩
      have B10 : Hid (Below w.heap.size w w10) := B9.out.trans (hB.mono B9.out.size)
      have IL_10 : Hid (Ints w10 (some ⟨g, 0, none⟩) zs) := IL_9.out.kept hB
      have IV_10 : Hid (Ints w10 av ys) := IV_9.out.kept hB
      have T_10 : Hid (Ints w10 ta (toldTo zs ys L)) := T_9.out.kept hB
      have V_10 : Hid (Ints w10 va (runW zs ys L)) := V_9.out.kept hB
      have TA_10 : Hid (Ints w10 aa (toldTo (zs.take (K * 5)) ys K)) := TA_9.out.kept hB
      have TB_10 : Hid (Ints w10 ba (toldTo (zs.drop (K * 5)) RX (L - K))) := TB_9.out.kept hB
      clear hB IL_9 IV_9 T_9 V_9 TA_9 TB_9 XX_9 YY_9
      have HA0 : Hid (Below w10.heap.size w10 (w10.alloc (.cells #[] 3))) := (Below.refl _ _).alloc (Nat.le_refl _) _
      obtain ⟨v1, u1, q1, o1, g1⟩ := own_append (c := ac) (own_made w10 w10.heap.size (Nat.le_refl _)) (TA_10.out.kept HA0.out) (by simp) (by simp; have := HT1.out; omega)
      rw [HT1.out] at q1
      have HU1 : Hid (Below w10.heap.size w10 u1) := HA0.out.grown g1 (by simp) (fun k hk => by simp [Value.ownBlock] at hk; omega)
      obtain ⟨v2, w11, q2, o2, g2⟩ := own_append (c := bc) o1 (TB_10.out.kept HU1.out) HU1.out.size (by simp; have h1 := HT1.out; have h2 := HT2.out; omega)
      rw [HT2.out] at q2
      have hB : Below w10.heap.size w10 w11 := HU1.out.grown g2 HU1.out.size (fun k hk => (World.ownsRow.lt o1 k hk).1)
      rw [List.nil_append, HPT.out] at o2
      obtain ⟨pa, pc, hv2, hM⟩ := o2.mine
      rw [HTL.out] at hv2
      subst hv2
      have hP := hM.ints
      clear hM o2 o1 g1 g2 HU1 HA0
      have B11 : Hid (Below w.heap.size w w11) := B10.out.trans (hB.mono B10.out.size)
      have IL_11 : Hid (Ints w11 (some ⟨g, 0, none⟩) zs) := IL_10.out.kept hB
      have IV_11 : Hid (Ints w11 av ys) := IV_10.out.kept hB
      have T_11 : Hid (Ints w11 ta (toldTo zs ys L)) := T_10.out.kept hB
      have V_11 : Hid (Ints w11 va (runW zs ys L)) := V_10.out.kept hB
      have PP_11 : Hid (Ints w11 pa (toldTo zs ys L)) := hP
      clear hB IL_10 IV_10 T_10 V_10 TA_10 TB_10 hP
      go_wp2_with (first | (at_builtin; refine wpList_app (by rfl) _ _ _ _ _ _ rfl rfl rfl q1 ?_) | (at_builtin; refine wpList_app (by rfl) _ _ _ _ _ _ rfl rfl rfl q2 ?_))
      clear q1 q2
      refine (same_ints pa ta tl _ _ (toldTo zs ys L) _ HTL (by omega) PP_11 T_11).mono ?_
      rintro e w12 ⟨rfl, hB⟩
      have B12 : Hid (Below w.heap.size w w12) := B11.out.trans (hB.mono B11.out.size)
      have IL_12 : Hid (Ints w12 (some ⟨g, 0, none⟩) zs) := IL_11.out.kept hB
      have IV_12 : Hid (Ints w12 av ys) := IV_11.out.kept hB
      have T_12 : Hid (Ints w12 ta (toldTo zs ys L)) := T_11.out.kept hB
      have V_12 : Hid (Ints w12 va (runW zs ys L)) := V_11.out.kept hB
      clear hB IL_11 IV_11 T_11 V_11 PP_11
      obtain ⟨nl, HNL, hnl⟩ : ∃ nl : Nat, Hid ((risingTo (needTo zs L) 8).length = nl) ∧ nl ≤ 8 := ⟨_, rfl, rising_len _ 8⟩
      go_wp2_with fail
      refine (impl_need (some ⟨g, 0, none⟩) L cl zs _ HZ (by omega) IL_12).mono ?_
      rintro e w13 (⟨_, ⟨nna, nnc, rfl, hM⟩, hB⟩ | ⟨h, _⟩)
      rotate_left
      · rw [HC.out] at h; cases h
      rw [HNL.out]
      have B13 : Hid (Below w.heap.size w w13) := B12.out.trans (hB.mono B12.out.size)
      have IL_13 : Hid (Ints w13 (some ⟨g, 0, none⟩) zs) := IL_12.out.kept hB
      have IV_13 : Hid (Ints w13 av ys) := IV_12.out.kept hB
      have T_13 : Hid (Ints w13 ta (toldTo zs ys L)) := T_12.out.kept hB
      have V_13 : Hid (Ints w13 va (runW zs ys L)) := V_12.out.kept hB
      have NN_13 : Hid (Ints w13 nna (risingTo (needTo zs L) 8)) := hM.ints
      clear hB IL_12 IV_12 T_12 V_12 hM
      obtain ⟨sl, HSL, hsl⟩ : ∃ sl : Nat, Hid ((risingTo (setTo zs L) 8).length = sl) ∧ sl ≤ 8 := ⟨_, rfl, rising_len _ 8⟩
      go_wp2_with fail
      refine (impl_set (some ⟨g, 0, none⟩) L cl zs _ HZ (by omega) IL_13).mono ?_
      rintro e w14 (⟨_, ⟨sna, snc, rfl, hM⟩, hB⟩ | ⟨h, _⟩)
      rotate_left
      · rw [HC.out] at h; cases h
      rw [HSL.out]
      have B14 : Hid (Below w.heap.size w w14) := B13.out.trans (hB.mono B13.out.size)
      have IL_14 : Hid (Ints w14 (some ⟨g, 0, none⟩) zs) := IL_13.out.kept hB
      have IV_14 : Hid (Ints w14 av ys) := IV_13.out.kept hB
      have T_14 : Hid (Ints w14 ta (toldTo zs ys L)) := T_13.out.kept hB
      have V_14 : Hid (Ints w14 va (runW zs ys L)) := V_13.out.kept hB
      have NN_14 : Hid (Ints w14 nna (risingTo (needTo zs L) 8)) := NN_13.out.kept hB
      have SN_14 : Hid (Ints w14 sna (risingTo (setTo zs L) 8)) := hM.ints
      clear hB IL_13 IV_13 T_13 V_13 NN_13 hM
      have HA0 : Hid (Below w14.heap.size w14 (w14.alloc (.cells #[] 3))) := (Below.refl _ _).alloc (Nat.le_refl _) _
      obtain ⟨v3, w15, q3, o3, g3⟩ := own_append (c := cv) (own_made w14 w14.heap.size (Nat.le_refl _)) (IV_14.out.kept HA0.out) (by simp) (by simp; have := HY.out; omega)
      rw [HY.out] at q3
      have hB0 : Below w14.heap.size w14 w15 := HA0.out.grown g3 (by simp) (fun k hk => by simp [Value.ownBlock] at hk; omega)
      rw [List.nil_append] at o3
      obtain ⟨oa, oc, hv3, hM⟩ := o3.mine
      rw [HY.out] at hv3
      subst hv3
      obtain ⟨og, oo, rfl, hog⟩ : ∃ og oo, oa = some ⟨og, oo, none⟩ ∧ w14.heap.size ≤ og := by
        rcases hM with e | ⟨b, off, e, h0, _⟩
        · have := HY.out; rw [e] at this; simp at this
        · exact ⟨b, off, e, h0⟩
      have HO0 : Hid (Mine w15 w14.heap.size (some ⟨og, oo, none⟩) ys) := hM
      have HB0 : Hid (Below w14.heap.size w14 w15) := hB0
      have hband := and_word
      clear hM o3 g3 HA0 hB0
      go_wp2_with (at_builtin; refine wpList_app (by rfl) _ _ _ _ _ _ rfl rfl rfl q3 ?_)
      clear q3
      obtain ⟨WO, HWO⟩ : ∃ WO : List Int, Hid (otherTo (needTo zs L) (K : Int) ys 8 = WO) := ⟨_, rfl⟩
      go_loopw [154] (fun vi wr => ∃ j : Nat, j ≤ 8 ∧ vi = .int .i64 j ∧ Hid (Mine wr w14.heap.size (some ⟨og, oo, none⟩) (otherTo (needTo zs L) (K : Int) ys j)) ∧ Hid (Below w14.heap.size w14 wr)) (fun vi _ => 8 - (intOf vi).toNat)
      case atStart => exact ⟨0, Nat.zero_le _, rfl, HO0, HB0⟩
      case round =>
        obtain ⟨j, hj, rfl, HM, HB⟩ := hrel
        by_cases hlt : j < 8
        · have hjI : (j : Int) < 8 := by omega
          have HAS : Hid (∀ w' : World, Below w14.heap.size w14 w' → Calls Try.prog 13 #[.slice nna nl nnc, .int .i64 (j : Int)] w' fun e W' => e = .returned (.bool (needTo zs L j)) ∧ W' = w') := fun w' hb => by
            have h := has_eq nna nl nnc (risingTo (needTo zs L) 8) (j : Int) w' HNL (by omega) (NN_14.out.kept hb)
            rw [has_needed _ hlt] at h; exact h
          cases hn : needTo zs L j
          · rw [hn] at HAS
            have hol : (otherTo (needTo zs L) (K : Int) ys j).length = 8 := by rw [other_len]; exact HY.out
            obtain ⟨cc, cf⟩ : wr.cell? ⟨og, oo + j, none⟩ = some (.int .i64 (ys.getD j 0)) ∧ wr.frozen? ⟨og, oo + j, none⟩ = false := by
              rcases HM.out with e | ⟨b, off, e, _, _, hc⟩
              · rw [e] at hol; simp at hol
              · simp only [Option.some.injEq, Addr.mk.injEq] at e
                obtain ⟨rfl, rfl, _⟩ := e
                have h := hc j (by rw [hol]; exact hlt)
                rw [other_late _ _ _ j j (Nat.le_refl _)] at h
                exact h
            obtain ⟨y0, y1⟩ := word_at HW.out hlt
            have HS' : Hid (otherTo (needTo zs L) (K : Int) ys (j + 1) = (otherTo (needTo zs L) (K : Int) ys j).set j ((ys.getD j 0 + 1 + (K : Int)) % 65536)) := by show otherTo _ _ _ (j + 1) = _; simp [otherTo, hn]
            have hl' : Hid (j < (otherTo (needTo zs L) (K : Int) ys j).length) := by show j < _; omega
            have hKI : (K : Int) ≤ 31 := by omega
            clear hol
            generalize ys.getD j 0 = yj at cc y0 y1 HS'
            go_wp2_with (go_at_call 13; refine (HAS.out _ HB.out).mono ?_; rintro e w' ⟨rfl, hw⟩; rw [hw]; clear hw w')
            go_roundw
            case rel => exact ⟨j + 1, by omega, by go_num, by rw [HS'.out]; exact mine_set HM.out hl'.out, HB.out.setCell hog _⟩
            case measure => simp [intOf]; omega
          · rw [hn] at HAS
            have HS' : Hid (otherTo (needTo zs L) (K : Int) ys (j + 1) = otherTo (needTo zs L) (K : Int) ys j) := by show otherTo _ _ _ (j + 1) = _; simp [otherTo, hn]
            go_wp2_with (go_at_call 13; refine (HAS.out _ HB.out).mono ?_; rintro e w' ⟨rfl, hw⟩; rw [hw]; clear hw w')
            go_roundw
            case rel => exact ⟨j + 1, by omega, by go_num, by rw [HS'.out]; exact HM.out, HB.out⟩
            case measure => simp [intOf]; omega
        · have HE : Hid (j = 8) := by show j = 8; omega
          obtain ⟨w16, hwx⟩ : ∃ x, x = wr := ⟨_, rfl⟩
          subst hwx
          have hB := HB.out
          have B16 : Hid (Below w.heap.size w w16) := B14.out.trans (hB.mono B14.out.size)
          have IL_16 : Hid (Ints w16 (some ⟨g, 0, none⟩) zs) := IL_14.out.kept hB
          have IV_16 : Hid (Ints w16 av ys) := IV_14.out.kept hB
          have T_16 : Hid (Ints w16 ta (toldTo zs ys L)) := T_14.out.kept hB
          have V_16 : Hid (Ints w16 va (runW zs ys L)) := V_14.out.kept hB
          have SN_16 : Hid (Ints w16 sna (risingTo (setTo zs L) 8)) := SN_14.out.kept hB
          have OT_16 : Hid (Ints w16 (some ⟨og, oo, none⟩) WO) := by rw [← HWO.out, ← HE.out]; exact HM.out.ints
          have HO8 : Hid (WO.length = 8) := by show _ = _; rw [← HWO.out, other_len]; exact HY.out
          have HOW : Hid (wordsB WO = true) := by rw [← HWO.out]; exact other_words HW.out 8
          have HLV : Hid (toldTo zs ys L = toldTo zs WO L ∧ ∀ i, i < 8 → (setTo zs L i = true → (runW zs ys L).getD i 0 = (runW zs WO L).getD i 0) ∧ (setTo zs L i = false → (runW zs ys L).getD i 0 = ys.getD i 0 ∧ (runW zs WO L).getD i 0 = WO.getD i 0)) :=
            live_run (code_out HC.out).2 HY.out HO8.out (fun i hi hn => by rw [← HWO.out]; exact (other_kept _ _ _ hn 8).symm) L (Nat.le_refl _)
          have HZ8 : Hid ((runW zs WO L).length = 8) := by show _ = _; rw [run_len]; exact HO8.out
          clear hB HM HB HO0 HB0 IL_14 IV_14 T_14 V_14 NN_14 SN_14
          go_wp2_with fail
          refine (impl_run (some ⟨g, 0, none⟩) (some ⟨og, oo, none⟩) L cl 8 oc zs WO _ HZ (by omega) IL_16 HO8 (by omega) OT_16).mono ?_
          rintro e w17 (⟨_, ua, uc, za, zc, rfl, hA, hX, _, hB⟩ | ⟨h, _⟩)
          rotate_left
          · rw [HC.out, HOW.out] at h; cases h
          rw [← HLV.out.1, HTL.out]
          have hA2 := hA.ints
          rw [← HLV.out.1] at hA2
          clear hA
          have B17 : Hid (Below w.heap.size w w17) := B16.out.trans (hB.mono B16.out.size)
          have IL_17 : Hid (Ints w17 (some ⟨g, 0, none⟩) zs) := IL_16.out.kept hB
          have IV_17 : Hid (Ints w17 av ys) := IV_16.out.kept hB
          have T_17 : Hid (Ints w17 ta (toldTo zs ys L)) := T_16.out.kept hB
          have V_17 : Hid (Ints w17 va (runW zs ys L)) := V_16.out.kept hB
          have SN_17 : Hid (Ints w17 sna (risingTo (setTo zs L) 8)) := SN_16.out.kept hB
          have OT_17 : Hid (Ints w17 (some ⟨og, oo, none⟩) WO) := OT_16.out.kept hB
          have UU_17 : Hid (Ints w17 ua (toldTo zs ys L)) := hA2
          have ZZ_17 : Hid (Ints w17 za (runW zs WO L)) := hX.ints
          clear hB IL_16 IV_16 T_16 V_16 SN_16 OT_16 hA2 hX
          go_wp2_with fail
          refine (same_ints ua ta tl _ _ (toldTo zs ys L) _ HTL (by omega) UU_17 T_17).mono ?_
          rintro e w18 ⟨rfl, hB⟩
          have B18 : Hid (Below w.heap.size w w18) := B17.out.trans (hB.mono B17.out.size)
          have IV_18 : Hid (Ints w18 av ys) := IV_17.out.kept hB
          have V_18 : Hid (Ints w18 va (runW zs ys L)) := V_17.out.kept hB
          have SN_18 : Hid (Ints w18 sna (risingTo (setTo zs L) 8)) := SN_17.out.kept hB
          have OT_18 : Hid (Ints w18 (some ⟨og, oo, none⟩) WO) := OT_17.out.kept hB
          have ZZ_18 : Hid (Ints w18 za (runW zs WO L)) := ZZ_17.out.kept hB
          clear hB IV_17 V_17 SN_17 OT_17 ZZ_17 UU_17 T_17 IL_17
          go_wp2_with fail
          go_loopw [190] (fun vi wr => ∃ i : Nat, i ≤ 8 ∧ vi = .int .i64 i ∧ Hid (Below w18.heap.size w18 wr)) (fun vi _ => 8 - (intOf vi).toNat)
          case atStart => exact ⟨0, Nat.zero_le _, rfl, Below.refl _ _⟩
          case round =>
            obtain ⟨i, hi, rfl, HQ⟩ := hrel
            by_cases hlt2 : i < 8
            · have hiI : (i : Int) < 8 := by omega
              have HAS : Hid (∀ w' : World, Below w18.heap.size w18 w' → Calls Try.prog 13 #[.slice sna sl snc, .int .i64 (i : Int)] w' fun e W' => e = .returned (.bool (setTo zs L i)) ∧ W' = w') := fun w' hb => by
                have h := has_eq sna sl snc (risingTo (setTo zs L) 8) (i : Int) w' HSL (by omega) (SN_18.out.kept hb)
                rw [has_needed _ hlt2] at h; exact h
              obtain ⟨b1, o1, e1, c1⟩ := ZZ_18.out.at HQ.out (k := i) (by have := HZ8.out; omega)
              obtain ⟨b2, o2, e2, c2⟩ := V_18.out.at HQ.out (k := i) (by have := HV8.out; omega)
              obtain ⟨b3, o3, e3, c3⟩ := OT_18.out.at HQ.out (k := i) (by have := HO8.out; omega)
              obtain ⟨b4, o4, e4, c4⟩ := IV_18.out.at HQ.out (k := i) (by have := HY.out; omega)
              simp only [Option.some.injEq, Addr.mk.injEq] at e3
              obtain ⟨e31, e32, _⟩ := e3
              subst e1 e2 e31 e32 e4
              obtain ⟨hs1, hs2⟩ := HLV.out.2 i hlt2
              cases hst : setTo zs L i
              · rw [hst] at HAS
                obtain ⟨p1, p2⟩ := hs2 hst
                rw [p1] at c2
                rw [p2] at c1
                clear hs1 hs2 p1 p2 hst
                generalize ys.getD i 0 = y at c2 c4
                generalize WO.getD i 0 = o at c1 c3
                go_wp2
                go_quiet (first | (go_at_call 13; refine Calls.quiet_of_same (HAS.out _ (below_drewN HQ.out _))))
                go_wp2
                go_roundw
                case rel => exact ⟨i + 1, by omega, by go_num, below_drewN HQ.out _⟩
                case measure => simp [intOf]; omega
              · rw [hst] at HAS
                have p := hs1 hst
                rw [← p] at c1
                clear hs1 hs2 p hst
                generalize (runW zs ys L).getD i 0 = y at c1 c2
                generalize ys.getD i 0 = y' at c4
                generalize WO.getD i 0 = o at c3
                go_wp2
                go_quiet (first | (go_at_call 13; refine Calls.quiet_of_same (HAS.out _ (below_drewN HQ.out _))))
                go_wp2
                go_roundw
                case rel => exact ⟨i + 1, by omega, by go_num, below_drewN HQ.out _⟩
                case measure => simp [intOf]; omega
            · obtain ⟨w19, hwx⟩ : ∃ x, x = wr := ⟨_, rfl⟩
              subst hwx
              have B19 : Hid (Below w.heap.size w w19) := B18.out.trans (HQ.out.mono B18.out.size)
              go_wp2_with fail
              refine (drawNeed_any (src_kept C1.out B19.out) hlen1).mono ?_
              rintro e w20 ⟨K2, fl, al2, cl2, hK2, hf, rfl, hI, hB⟩
              have B20 : Hid (Below w.heap.size w w20) := B19.out.trans (hB.mono B19.out.size)
              have IC_20 : Hid (Ints w20 al2 fl) := hI
              clear hB hI
              have HF : Hid (fl.length = K2 * 5) := hf
              clear hf
              cases hc2 : codeB fl K2
              · go_wp2_with fail
                refine (impl_need al2 K2 cl2 fl _ HF (by omega) IC_20).mono ?_
                rintro e w21 (⟨h, _⟩ | ⟨_, rfl, hB⟩)
                · rw [hc2] at h; cases h
                have B21 : Hid (Below w.heap.size w w21) := B20.out.trans (hB.mono B20.out.size)
                have IC_21 : Hid (Ints w21 al2 fl) := IC_20.out.kept hB
                clear hB IC_20
                go_wp2_with fail
                refine (spec_need al2 K2 cl2 fl _ HF (by omega) IC_21).mono ?_
                rintro e w22 (⟨h, _⟩ | ⟨_, rfl, hB⟩)
                · rw [hc2] at h; cases h
                have B22 : Hid (Below w.heap.size w w22) := B21.out.trans (hB.mono B21.out.size)
                have IC_22 : Hid (Ints w22 al2 fl) := IC_21.out.kept hB
                clear hB IC_21
                go_wp2_with fail
                refine (impl_set al2 K2 cl2 fl _ HF (by omega) IC_22).mono ?_
                rintro e w23 (⟨h, _⟩ | ⟨_, rfl, hB⟩)
                · rw [hc2] at h; cases h
                have B23 : Hid (Below w.heap.size w w23) := B22.out.trans (hB.mono B22.out.size)
                have IC_23 : Hid (Ints w23 al2 fl) := IC_22.out.kept hB
                clear hB IC_22
                go_wp2_with fail
                refine (spec_set al2 K2 cl2 fl _ HF (by omega) IC_23).mono ?_
                rintro e w24 (⟨h, _⟩ | ⟨_, rfl, hB⟩)
                · rw [hc2] at h; cases h
                have B24 : Hid (Below w.heap.size w w24) := B23.out.trans (hB.mono B23.out.size)
                have IC_24 : Hid (Ints w24 al2 fl) := IC_23.out.kept hB
                clear hB IC_23
                go_wp2_with fail
                refine (same_ints none none 0 _ _ [] _ rfl (by omega) (Or.inl rfl) (Or.inl rfl)).mono ?_
                rintro e w25 ⟨rfl, hB⟩
                have B25 : Hid (Below w.heap.size w w25) := B24.out.trans (hB.mono B24.out.size)
                have IC_25 : Hid (Ints w25 al2 fl) := IC_24.out.kept hB
                clear hB IC_24
                go_wp2_with fail
                refine (same_ints none none 0 _ _ [] _ rfl (by omega) (Or.inl rfl) (Or.inl rfl)).mono ?_
                rintro e w26 ⟨rfl, hB⟩
                have B26 : Hid (Below w.heap.size w w26) := B25.out.trans (hB.mono B25.out.size)
                have IC_26 : Hid (Ints w26 al2 fl) := IC_25.out.kept hB
                clear hB IC_25
                go_wp2
                go_ret
                exact ⟨rfl, B26.out⟩
              · go_wp2_with fail
                refine (impl_need al2 K2 cl2 fl _ HF (by omega) IC_20).mono ?_
                rintro e w21 (⟨_, ⟨naa, nac, rfl, hM⟩, hB⟩ | ⟨h, _⟩)
                rotate_left
                · rw [hc2] at h; cases h
                have B21 : Hid (Below w.heap.size w w21) := B20.out.trans (hB.mono B20.out.size)
                have IC_21 : Hid (Ints w21 al2 fl) := IC_20.out.kept hB
                have NA_21 : Hid (Ints w21 naa (risingTo (needTo fl K2) 8)) := hM.ints
                clear hB IC_20 hM
                go_wp2_with fail
                refine (spec_need al2 K2 cl2 fl _ HF (by omega) IC_21).mono ?_
                rintro e w22 (⟨_, ⟨vnb, rfl, hM⟩, hB⟩ | ⟨h, _⟩)
                rotate_left
                · rw [hc2] at h; cases h
                obtain ⟨nba, nbc, enb, hM2⟩ := lrow_ints hM
                subst enb
                clear hM
                have B22 : Hid (Below w.heap.size w w22) := B21.out.trans (hB.mono B21.out.size)
                have IC_22 : Hid (Ints w22 al2 fl) := IC_21.out.kept hB
                have NA_22 : Hid (Ints w22 naa (risingTo (needTo fl K2) 8)) := NA_21.out.kept hB
                have NB_22 : Hid (Ints w22 nba (risingTo (needTo fl K2) 8)) := hM2
                clear hB IC_21 NA_21 hM2
                go_wp2_with fail
                refine (impl_set al2 K2 cl2 fl _ HF (by omega) IC_22).mono ?_
                rintro e w23 (⟨_, ⟨saa, sac, rfl, hM⟩, hB⟩ | ⟨h, _⟩)
                rotate_left
                · rw [hc2] at h; cases h
                have B23 : Hid (Below w.heap.size w w23) := B22.out.trans (hB.mono B22.out.size)
                have IC_23 : Hid (Ints w23 al2 fl) := IC_22.out.kept hB
                have NA_23 : Hid (Ints w23 naa (risingTo (needTo fl K2) 8)) := NA_22.out.kept hB
                have NB_23 : Hid (Ints w23 nba (risingTo (needTo fl K2) 8)) := NB_22.out.kept hB
                have SA_23 : Hid (Ints w23 saa (risingTo (setTo fl K2) 8)) := hM.ints
                clear hB IC_22 NA_22 NB_22 hM
                go_wp2_with fail
                refine (spec_set al2 K2 cl2 fl _ HF (by omega) IC_23).mono ?_
                rintro e w24 (⟨_, ⟨vsb, rfl, hM⟩, hB⟩ | ⟨h, _⟩)
                rotate_left
                · rw [hc2] at h; cases h
                obtain ⟨sba, sbc, esb, hM2⟩ := lrow_ints hM
                subst esb
                clear hM
                have B24 : Hid (Below w.heap.size w w24) := B23.out.trans (hB.mono B23.out.size)
                have IC_24 : Hid (Ints w24 al2 fl) := IC_23.out.kept hB
                have NA_24 : Hid (Ints w24 naa (risingTo (needTo fl K2) 8)) := NA_23.out.kept hB
                have NB_24 : Hid (Ints w24 nba (risingTo (needTo fl K2) 8)) := NB_23.out.kept hB
                have SA_24 : Hid (Ints w24 saa (risingTo (setTo fl K2) 8)) := SA_23.out.kept hB
                have SB_24 : Hid (Ints w24 sba (risingTo (setTo fl K2) 8)) := hM2
                clear hB IC_23 NA_23 NB_23 SA_23 hM2
                obtain ⟨n1, HN1, hn1⟩ : ∃ n1 : Nat, Hid ((risingTo (needTo fl K2) 8).length = n1) ∧ n1 ≤ 8 := ⟨_, rfl, rising_len _ 8⟩
                obtain ⟨n2, HN2, hn2⟩ : ∃ n2 : Nat, Hid ((risingTo (setTo fl K2) 8).length = n2) ∧ n2 ≤ 8 := ⟨_, rfl, rising_len _ 8⟩
                rw [HN1.out, HN2.out]
                go_wp2_with fail
                refine (same_ints naa nba n1 _ _ _ _ HN1 (by omega) NA_24 NB_24).mono ?_
                rintro e w25 ⟨rfl, hB⟩
                have B25 : Hid (Below w.heap.size w w25) := B24.out.trans (hB.mono B24.out.size)
                have IC_25 : Hid (Ints w25 al2 fl) := IC_24.out.kept hB
                have NA_25 : Hid (Ints w25 naa (risingTo (needTo fl K2) 8)) := NA_24.out.kept hB
                have NB_25 : Hid (Ints w25 nba (risingTo (needTo fl K2) 8)) := NB_24.out.kept hB
                have SA_25 : Hid (Ints w25 saa (risingTo (setTo fl K2) 8)) := SA_24.out.kept hB
                have SB_25 : Hid (Ints w25 sba (risingTo (setTo fl K2) 8)) := SB_24.out.kept hB
                clear hB IC_24 NA_24 NB_24 SA_24 SB_24
                go_wp2_with fail
                refine (same_ints saa sba n2 _ _ _ _ HN2 (by omega) SA_25 SB_25).mono ?_
                rintro e w26 ⟨rfl, hB⟩
                have B26 : Hid (Below w.heap.size w w26) := B25.out.trans (hB.mono B25.out.size)
                have IC_26 : Hid (Ints w26 al2 fl) := IC_25.out.kept hB
                have NA_26 : Hid (Ints w26 naa (risingTo (needTo fl K2) 8)) := NA_25.out.kept hB
                have NB_26 : Hid (Ints w26 nba (risingTo (needTo fl K2) 8)) := NB_25.out.kept hB
                have SA_26 : Hid (Ints w26 saa (risingTo (setTo fl K2) 8)) := SA_25.out.kept hB
                have SB_26 : Hid (Ints w26 sba (risingTo (setTo fl K2) 8)) := SB_25.out.kept hB
                clear hB IC_25 NA_25 NB_25 SA_25 SB_25
                go_wp2
                go_ret
                exact ⟨rfl, B26.out⟩
    · have eLK : L - K = 0 := by omega
      rw [eLK] at HCD HZD
      have HD1 : Hid (∀ (W : World) (a : Option Addr), Ints W a (zs.drop (K * 5))) := HD0.out rfl
      clear HD0
      obtain ⟨t1, HT1, ht1⟩ : ∃ t1 : Nat, Hid ((toldTo (zs.take (K * 5)) ys K).length = t1) ∧ t1 ≤ 31 := ⟨_, rfl, by have := told_len (zs.take (K * 5)) ys K; omega⟩
      obtain ⟨RX, HRX⟩ : ∃ RX : List Int, Hid (runW (zs.take (K * 5)) ys K = RX) := ⟨_, rfl⟩
      obtain ⟨t2, HT2, ht2⟩ : ∃ t2 : Nat, Hid ((toldTo (zs.drop (K * 5)) RX 0).length = t2) ∧ t2 ≤ 31 := ⟨_, rfl, by have := told_len (zs.drop (K * 5)) RX 0; omega⟩
      have HX8 : Hid (RX.length = 8) := by show _ = _; rw [← HRX.out, run_len]; exact HY.out
      have HXW : Hid (wordsB RX = true) := by rw [← HRX.out]; exact run_words HW.out (code_out HCT.out).2 K (Nat.le_refl _)
      have HPR : Hid (runW (zs.drop (K * 5)) RX 0 = runW zs ys L) := by rw [← HRX.out]; rw [← eLK]; exact run_parts hK
      have HPT : Hid (toldTo (zs.take (K * 5)) ys K ++ toldTo (zs.drop (K * 5)) RX 0 = toldTo zs ys L) := by rw [← HRX.out]; rw [← eLK]; exact told_parts hK
      go_wp2_with fail
      refine (impl_run (some ⟨g, 0, none⟩) av K K 8 cv (zs.take (K * 5)) ys _ HZT (by omega) (ints_take IL_7.out _) HY (by omega) IV_7).mono ?_
      rintro e w8 (⟨_, aa, ac, xa, xc, rfl, hA, hX, _, hB⟩ | ⟨h, _⟩)
      rotate_left
      · rw [HCT.out, HW.out] at h; cases h
      rw [HT1.out]
      have hX2 := hX.ints
      rw [HRX.out] at hX2
      clear hX
      have B8 : Hid (Below w.heap.size w w8) := B7.out.trans (hB.mono B7.out.size)
      have IL_8 : Hid (Ints w8 (some ⟨g, 0, none⟩) zs) := IL_7.out.kept hB
      have IV_8 : Hid (Ints w8 av ys) := IV_7.out.kept hB
      have T_8 : Hid (Ints w8 ta (toldTo zs ys L)) := T_7.out.kept hB
      have V_8 : Hid (Ints w8 va (runW zs ys L)) := V_7.out.kept hB
      have TA_8 : Hid (Ints w8 aa (toldTo (zs.take (K * 5)) ys K)) := hA.ints
      have XX_8 : Hid (Ints w8 xa RX) := hX2
      clear hB IL_7 IV_7 T_7 V_7 hA hX2
      go_wp2_with fail
      refine (impl_run (some ⟨g, 0, none⟩) xa 0 0 8 xc (zs.drop (K * 5)) RX _ HZD (by omega) (HD1.out _ _) HX8 (by omega) XX_8).mono ?_
      rintro e w9 (⟨_, ba, bc, ya, yc, rfl, hA, hX, _, hB⟩ | ⟨h, _⟩)
      rotate_left
      · rw [HCD.out, HXW.out] at h; cases h
      rw [HT2.out]
      have hX2 := hX.ints
      rw [HPR.out] at hX2
      clear hX
      have B9 : Hid (Below w.heap.size w w9) := B8.out.trans (hB.mono B8.out.size)
      have IL_9 : Hid (Ints w9 (some ⟨g, 0, none⟩) zs) := IL_8.out.kept hB
      have IV_9 : Hid (Ints w9 av ys) := IV_8.out.kept hB
      have T_9 : Hid (Ints w9 ta (toldTo zs ys L)) := T_8.out.kept hB
      have V_9 : Hid (Ints w9 va (runW zs ys L)) := V_8.out.kept hB
      have TA_9 : Hid (Ints w9 aa (toldTo (zs.take (K * 5)) ys K)) := TA_8.out.kept hB
      have XX_9 : Hid (Ints w9 xa RX) := XX_8.out.kept hB
      have TB_9 : Hid (Ints w9 ba (toldTo (zs.drop (K * 5)) RX 0)) := hA.ints
      have YY_9 : Hid (Ints w9 ya (runW zs ys L)) := hX2
      clear hB IL_8 IV_8 T_8 V_8 TA_8 XX_8 hA hX2
      go_wp2_with fail
      refine (same_ints ya va 8 _ _ (runW zs ys L) _ HV8 (by omega) YY_9 V_9).mono ?_
      rintro e w10 ⟨rfl, hB⟩
      have B10 : Hid (Below w.heap.size w w10) := B9.out.trans (hB.mono B9.out.size)
      have IL_10 : Hid (Ints w10 (some ⟨g, 0, none⟩) zs) := IL_9.out.kept hB
      have IV_10 : Hid (Ints w10 av ys) := IV_9.out.kept hB
      have T_10 : Hid (Ints w10 ta (toldTo zs ys L)) := T_9.out.kept hB
      have V_10 : Hid (Ints w10 va (runW zs ys L)) := V_9.out.kept hB
      have TA_10 : Hid (Ints w10 aa (toldTo (zs.take (K * 5)) ys K)) := TA_9.out.kept hB
      have TB_10 : Hid (Ints w10 ba (toldTo (zs.drop (K * 5)) RX 0)) := TB_9.out.kept hB
      clear hB IL_9 IV_9 T_9 V_9 TA_9 TB_9 XX_9 YY_9
      have HA0 : Hid (Below w10.heap.size w10 (w10.alloc (.cells #[] 3))) := (Below.refl _ _).alloc (Nat.le_refl _) _
      obtain ⟨v1, u1, q1, o1, g1⟩ := own_append (c := ac) (own_made w10 w10.heap.size (Nat.le_refl _)) (TA_10.out.kept HA0.out) (by simp) (by simp; have := HT1.out; omega)
      rw [HT1.out] at q1
      have HU1 : Hid (Below w10.heap.size w10 u1) := HA0.out.grown g1 (by simp) (fun k hk => by simp [Value.ownBlock] at hk; omega)
      obtain ⟨v2, w11, q2, o2, g2⟩ := own_append (c := bc) o1 (TB_10.out.kept HU1.out) HU1.out.size (by simp; have h1 := HT1.out; have h2 := HT2.out; omega)
      rw [HT2.out] at q2
      have hB : Below w10.heap.size w10 w11 := HU1.out.grown g2 HU1.out.size (fun k hk => (World.ownsRow.lt o1 k hk).1)
      rw [List.nil_append, HPT.out] at o2
      obtain ⟨pa, pc, hv2, hM⟩ := o2.mine
      rw [HTL.out] at hv2
      subst hv2
      have hP := hM.ints
      clear hM o2 o1 g1 g2 HU1 HA0
      have B11 : Hid (Below w.heap.size w w11) := B10.out.trans (hB.mono B10.out.size)
      have IL_11 : Hid (Ints w11 (some ⟨g, 0, none⟩) zs) := IL_10.out.kept hB
      have IV_11 : Hid (Ints w11 av ys) := IV_10.out.kept hB
      have T_11 : Hid (Ints w11 ta (toldTo zs ys L)) := T_10.out.kept hB
      have V_11 : Hid (Ints w11 va (runW zs ys L)) := V_10.out.kept hB
      have PP_11 : Hid (Ints w11 pa (toldTo zs ys L)) := hP
      clear hB IL_10 IV_10 T_10 V_10 TA_10 TB_10 hP
      go_wp2_with (first | (at_builtin; refine wpList_app (by rfl) _ _ _ _ _ _ rfl rfl rfl q1 ?_) | (at_builtin; refine wpList_app (by rfl) _ _ _ _ _ _ rfl rfl rfl q2 ?_))
      clear q1 q2
      refine (same_ints pa ta tl _ _ (toldTo zs ys L) _ HTL (by omega) PP_11 T_11).mono ?_
      rintro e w12 ⟨rfl, hB⟩
      have B12 : Hid (Below w.heap.size w w12) := B11.out.trans (hB.mono B11.out.size)
      have IL_12 : Hid (Ints w12 (some ⟨g, 0, none⟩) zs) := IL_11.out.kept hB
      have IV_12 : Hid (Ints w12 av ys) := IV_11.out.kept hB
      have T_12 : Hid (Ints w12 ta (toldTo zs ys L)) := T_11.out.kept hB
      have V_12 : Hid (Ints w12 va (runW zs ys L)) := V_11.out.kept hB
      clear hB IL_11 IV_11 T_11 V_11 PP_11
      obtain ⟨nl, HNL, hnl⟩ : ∃ nl : Nat, Hid ((risingTo (needTo zs L) 8).length = nl) ∧ nl ≤ 8 := ⟨_, rfl, rising_len _ 8⟩
      go_wp2_with fail
      refine (impl_need (some ⟨g, 0, none⟩) L K zs _ HZ (by omega) IL_12).mono ?_
      rintro e w13 (⟨_, ⟨nna, nnc, rfl, hM⟩, hB⟩ | ⟨h, _⟩)
      rotate_left
      · rw [HC.out] at h; cases h
      rw [HNL.out]
      have B13 : Hid (Below w.heap.size w w13) := B12.out.trans (hB.mono B12.out.size)
      have IL_13 : Hid (Ints w13 (some ⟨g, 0, none⟩) zs) := IL_12.out.kept hB
      have IV_13 : Hid (Ints w13 av ys) := IV_12.out.kept hB
      have T_13 : Hid (Ints w13 ta (toldTo zs ys L)) := T_12.out.kept hB
      have V_13 : Hid (Ints w13 va (runW zs ys L)) := V_12.out.kept hB
      have NN_13 : Hid (Ints w13 nna (risingTo (needTo zs L) 8)) := hM.ints
      clear hB IL_12 IV_12 T_12 V_12 hM
      obtain ⟨sl, HSL, hsl⟩ : ∃ sl : Nat, Hid ((risingTo (setTo zs L) 8).length = sl) ∧ sl ≤ 8 := ⟨_, rfl, rising_len _ 8⟩
      go_wp2_with fail
      refine (impl_set (some ⟨g, 0, none⟩) L K zs _ HZ (by omega) IL_13).mono ?_
      rintro e w14 (⟨_, ⟨sna, snc, rfl, hM⟩, hB⟩ | ⟨h, _⟩)
      rotate_left
      · rw [HC.out] at h; cases h
      rw [HSL.out]
      have B14 : Hid (Below w.heap.size w w14) := B13.out.trans (hB.mono B13.out.size)
      have IL_14 : Hid (Ints w14 (some ⟨g, 0, none⟩) zs) := IL_13.out.kept hB
      have IV_14 : Hid (Ints w14 av ys) := IV_13.out.kept hB
      have T_14 : Hid (Ints w14 ta (toldTo zs ys L)) := T_13.out.kept hB
      have V_14 : Hid (Ints w14 va (runW zs ys L)) := V_13.out.kept hB
      have NN_14 : Hid (Ints w14 nna (risingTo (needTo zs L) 8)) := NN_13.out.kept hB
      have SN_14 : Hid (Ints w14 sna (risingTo (setTo zs L) 8)) := hM.ints
      clear hB IL_13 IV_13 T_13 V_13 NN_13 hM
      have HA0 : Hid (Below w14.heap.size w14 (w14.alloc (.cells #[] 3))) := (Below.refl _ _).alloc (Nat.le_refl _) _
      obtain ⟨v3, w15, q3, o3, g3⟩ := own_append (c := cv) (own_made w14 w14.heap.size (Nat.le_refl _)) (IV_14.out.kept HA0.out) (by simp) (by simp; have := HY.out; omega)
      rw [HY.out] at q3
      have hB0 : Below w14.heap.size w14 w15 := HA0.out.grown g3 (by simp) (fun k hk => by simp [Value.ownBlock] at hk; omega)
      rw [List.nil_append] at o3
      obtain ⟨oa, oc, hv3, hM⟩ := o3.mine
      rw [HY.out] at hv3
      subst hv3
      obtain ⟨og, oo, rfl, hog⟩ : ∃ og oo, oa = some ⟨og, oo, none⟩ ∧ w14.heap.size ≤ og := by
        rcases hM with e | ⟨b, off, e, h0, _⟩
        · have := HY.out; rw [e] at this; simp at this
        · exact ⟨b, off, e, h0⟩
      have HO0 : Hid (Mine w15 w14.heap.size (some ⟨og, oo, none⟩) ys) := hM
      have HB0 : Hid (Below w14.heap.size w14 w15) := hB0
      have hband := and_word
      clear hM o3 g3 HA0 hB0
      go_wp2_with (at_builtin; refine wpList_app (by rfl) _ _ _ _ _ _ rfl rfl rfl q3 ?_)
      clear q3
      obtain ⟨WO, HWO⟩ : ∃ WO : List Int, Hid (otherTo (needTo zs L) (K : Int) ys 8 = WO) := ⟨_, rfl⟩
      go_loopw [154] (fun vi wr => ∃ j : Nat, j ≤ 8 ∧ vi = .int .i64 j ∧ Hid (Mine wr w14.heap.size (some ⟨og, oo, none⟩) (otherTo (needTo zs L) (K : Int) ys j)) ∧ Hid (Below w14.heap.size w14 wr)) (fun vi _ => 8 - (intOf vi).toNat)
      case atStart => exact ⟨0, Nat.zero_le _, rfl, HO0, HB0⟩
      case round =>
        obtain ⟨j, hj, rfl, HM, HB⟩ := hrel
        by_cases hlt : j < 8
        · have hjI : (j : Int) < 8 := by omega
          have HAS : Hid (∀ w' : World, Below w14.heap.size w14 w' → Calls Try.prog 13 #[.slice nna nl nnc, .int .i64 (j : Int)] w' fun e W' => e = .returned (.bool (needTo zs L j)) ∧ W' = w') := fun w' hb => by
            have h := has_eq nna nl nnc (risingTo (needTo zs L) 8) (j : Int) w' HNL (by omega) (NN_14.out.kept hb)
            rw [has_needed _ hlt] at h; exact h
          cases hn : needTo zs L j
          · rw [hn] at HAS
            have hol : (otherTo (needTo zs L) (K : Int) ys j).length = 8 := by rw [other_len]; exact HY.out
            obtain ⟨cc, cf⟩ : wr.cell? ⟨og, oo + j, none⟩ = some (.int .i64 (ys.getD j 0)) ∧ wr.frozen? ⟨og, oo + j, none⟩ = false := by
              rcases HM.out with e | ⟨b, off, e, _, _, hc⟩
              · rw [e] at hol; simp at hol
              · simp only [Option.some.injEq, Addr.mk.injEq] at e
                obtain ⟨rfl, rfl, _⟩ := e
                have h := hc j (by rw [hol]; exact hlt)
                rw [other_late _ _ _ j j (Nat.le_refl _)] at h
                exact h
            obtain ⟨y0, y1⟩ := word_at HW.out hlt
            have HS' : Hid (otherTo (needTo zs L) (K : Int) ys (j + 1) = (otherTo (needTo zs L) (K : Int) ys j).set j ((ys.getD j 0 + 1 + (K : Int)) % 65536)) := by show otherTo _ _ _ (j + 1) = _; simp [otherTo, hn]
            have hl' : Hid (j < (otherTo (needTo zs L) (K : Int) ys j).length) := by show j < _; omega
            have hKI : (K : Int) ≤ 31 := by omega
            clear hol
            generalize ys.getD j 0 = yj at cc y0 y1 HS'
            go_wp2_with (go_at_call 13; refine (HAS.out _ HB.out).mono ?_; rintro e w' ⟨rfl, hw⟩; rw [hw]; clear hw w')
            go_roundw
            case rel => exact ⟨j + 1, by omega, by go_num, by rw [HS'.out]; exact mine_set HM.out hl'.out, HB.out.setCell hog _⟩
            case measure => simp [intOf]; omega
          · rw [hn] at HAS
            have HS' : Hid (otherTo (needTo zs L) (K : Int) ys (j + 1) = otherTo (needTo zs L) (K : Int) ys j) := by show otherTo _ _ _ (j + 1) = _; simp [otherTo, hn]
            go_wp2_with (go_at_call 13; refine (HAS.out _ HB.out).mono ?_; rintro e w' ⟨rfl, hw⟩; rw [hw]; clear hw w')
            go_roundw
            case rel => exact ⟨j + 1, by omega, by go_num, by rw [HS'.out]; exact HM.out, HB.out⟩
            case measure => simp [intOf]; omega
        · have HE : Hid (j = 8) := by show j = 8; omega
          obtain ⟨w16, hwx⟩ : ∃ x, x = wr := ⟨_, rfl⟩
          subst hwx
          have hB := HB.out
          have B16 : Hid (Below w.heap.size w w16) := B14.out.trans (hB.mono B14.out.size)
          have IL_16 : Hid (Ints w16 (some ⟨g, 0, none⟩) zs) := IL_14.out.kept hB
          have IV_16 : Hid (Ints w16 av ys) := IV_14.out.kept hB
          have T_16 : Hid (Ints w16 ta (toldTo zs ys L)) := T_14.out.kept hB
          have V_16 : Hid (Ints w16 va (runW zs ys L)) := V_14.out.kept hB
          have SN_16 : Hid (Ints w16 sna (risingTo (setTo zs L) 8)) := SN_14.out.kept hB
          have OT_16 : Hid (Ints w16 (some ⟨og, oo, none⟩) WO) := by rw [← HWO.out, ← HE.out]; exact HM.out.ints
          have HO8 : Hid (WO.length = 8) := by show _ = _; rw [← HWO.out, other_len]; exact HY.out
          have HOW : Hid (wordsB WO = true) := by rw [← HWO.out]; exact other_words HW.out 8
          have HLV : Hid (toldTo zs ys L = toldTo zs WO L ∧ ∀ i, i < 8 → (setTo zs L i = true → (runW zs ys L).getD i 0 = (runW zs WO L).getD i 0) ∧ (setTo zs L i = false → (runW zs ys L).getD i 0 = ys.getD i 0 ∧ (runW zs WO L).getD i 0 = WO.getD i 0)) :=
            live_run (code_out HC.out).2 HY.out HO8.out (fun i hi hn => by rw [← HWO.out]; exact (other_kept _ _ _ hn 8).symm) L (Nat.le_refl _)
          have HZ8 : Hid ((runW zs WO L).length = 8) := by show _ = _; rw [run_len]; exact HO8.out
          clear hB HM HB HO0 HB0 IL_14 IV_14 T_14 V_14 NN_14 SN_14
          go_wp2_with fail
          refine (impl_run (some ⟨g, 0, none⟩) (some ⟨og, oo, none⟩) L K 8 oc zs WO _ HZ (by omega) IL_16 HO8 (by omega) OT_16).mono ?_
          rintro e w17 (⟨_, ua, uc, za, zc, rfl, hA, hX, _, hB⟩ | ⟨h, _⟩)
          rotate_left
          · rw [HC.out, HOW.out] at h; cases h
          rw [← HLV.out.1, HTL.out]
          have hA2 := hA.ints
          rw [← HLV.out.1] at hA2
          clear hA
          have B17 : Hid (Below w.heap.size w w17) := B16.out.trans (hB.mono B16.out.size)
          have IL_17 : Hid (Ints w17 (some ⟨g, 0, none⟩) zs) := IL_16.out.kept hB
          have IV_17 : Hid (Ints w17 av ys) := IV_16.out.kept hB
          have T_17 : Hid (Ints w17 ta (toldTo zs ys L)) := T_16.out.kept hB
          have V_17 : Hid (Ints w17 va (runW zs ys L)) := V_16.out.kept hB
          have SN_17 : Hid (Ints w17 sna (risingTo (setTo zs L) 8)) := SN_16.out.kept hB
          have OT_17 : Hid (Ints w17 (some ⟨og, oo, none⟩) WO) := OT_16.out.kept hB
          have UU_17 : Hid (Ints w17 ua (toldTo zs ys L)) := hA2
          have ZZ_17 : Hid (Ints w17 za (runW zs WO L)) := hX.ints
          clear hB IL_16 IV_16 T_16 V_16 SN_16 OT_16 hA2 hX
          go_wp2_with fail
          refine (same_ints ua ta tl _ _ (toldTo zs ys L) _ HTL (by omega) UU_17 T_17).mono ?_
          rintro e w18 ⟨rfl, hB⟩
          have B18 : Hid (Below w.heap.size w w18) := B17.out.trans (hB.mono B17.out.size)
          have IV_18 : Hid (Ints w18 av ys) := IV_17.out.kept hB
          have V_18 : Hid (Ints w18 va (runW zs ys L)) := V_17.out.kept hB
          have SN_18 : Hid (Ints w18 sna (risingTo (setTo zs L) 8)) := SN_17.out.kept hB
          have OT_18 : Hid (Ints w18 (some ⟨og, oo, none⟩) WO) := OT_17.out.kept hB
          have ZZ_18 : Hid (Ints w18 za (runW zs WO L)) := ZZ_17.out.kept hB
          clear hB IV_17 V_17 SN_17 OT_17 ZZ_17 UU_17 T_17 IL_17
          go_wp2_with fail
          go_loopw [190] (fun vi wr => ∃ i : Nat, i ≤ 8 ∧ vi = .int .i64 i ∧ Hid (Below w18.heap.size w18 wr)) (fun vi _ => 8 - (intOf vi).toNat)
          case atStart => exact ⟨0, Nat.zero_le _, rfl, Below.refl _ _⟩
          case round =>
            obtain ⟨i, hi, rfl, HQ⟩ := hrel
            by_cases hlt2 : i < 8
            · have hiI : (i : Int) < 8 := by omega
              have HAS : Hid (∀ w' : World, Below w18.heap.size w18 w' → Calls Try.prog 13 #[.slice sna sl snc, .int .i64 (i : Int)] w' fun e W' => e = .returned (.bool (setTo zs L i)) ∧ W' = w') := fun w' hb => by
                have h := has_eq sna sl snc (risingTo (setTo zs L) 8) (i : Int) w' HSL (by omega) (SN_18.out.kept hb)
                rw [has_needed _ hlt2] at h; exact h
              obtain ⟨b1, o1, e1, c1⟩ := ZZ_18.out.at HQ.out (k := i) (by have := HZ8.out; omega)
              obtain ⟨b2, o2, e2, c2⟩ := V_18.out.at HQ.out (k := i) (by have := HV8.out; omega)
              obtain ⟨b3, o3, e3, c3⟩ := OT_18.out.at HQ.out (k := i) (by have := HO8.out; omega)
              obtain ⟨b4, o4, e4, c4⟩ := IV_18.out.at HQ.out (k := i) (by have := HY.out; omega)
              simp only [Option.some.injEq, Addr.mk.injEq] at e3
              obtain ⟨e31, e32, _⟩ := e3
              subst e1 e2 e31 e32 e4
              obtain ⟨hs1, hs2⟩ := HLV.out.2 i hlt2
              cases hst : setTo zs L i
              · rw [hst] at HAS
                obtain ⟨p1, p2⟩ := hs2 hst
                rw [p1] at c2
                rw [p2] at c1
                clear hs1 hs2 p1 p2 hst
                generalize ys.getD i 0 = y at c2 c4
                generalize WO.getD i 0 = o at c1 c3
                go_wp2
                go_quiet (first | (go_at_call 13; refine Calls.quiet_of_same (HAS.out _ (below_drewN HQ.out _))))
                go_wp2
                go_roundw
                case rel => exact ⟨i + 1, by omega, by go_num, below_drewN HQ.out _⟩
                case measure => simp [intOf]; omega
              · rw [hst] at HAS
                have p := hs1 hst
                rw [← p] at c1
                clear hs1 hs2 p hst
                generalize (runW zs ys L).getD i 0 = y at c1 c2
                generalize ys.getD i 0 = y' at c4
                generalize WO.getD i 0 = o at c3
                go_wp2
                go_quiet (first | (go_at_call 13; refine Calls.quiet_of_same (HAS.out _ (below_drewN HQ.out _))))
                go_wp2
                go_roundw
                case rel => exact ⟨i + 1, by omega, by go_num, below_drewN HQ.out _⟩
                case measure => simp [intOf]; omega
            · obtain ⟨w19, hwx⟩ : ∃ x, x = wr := ⟨_, rfl⟩
              subst hwx
              have B19 : Hid (Below w.heap.size w w19) := B18.out.trans (HQ.out.mono B18.out.size)
              go_wp2_with fail
              refine (drawNeed_any (src_kept C1.out B19.out) hlen1).mono ?_
              rintro e w20 ⟨K2, fl, al2, cl2, hK2, hf, rfl, hI, hB⟩
              have B20 : Hid (Below w.heap.size w w20) := B19.out.trans (hB.mono B19.out.size)
              have IC_20 : Hid (Ints w20 al2 fl) := hI
              clear hB hI
              have HF : Hid (fl.length = K2 * 5) := hf
              clear hf
              cases hc2 : codeB fl K2
              · go_wp2_with fail
                refine (impl_need al2 K2 cl2 fl _ HF (by omega) IC_20).mono ?_
                rintro e w21 (⟨h, _⟩ | ⟨_, rfl, hB⟩)
                · rw [hc2] at h; cases h
                have B21 : Hid (Below w.heap.size w w21) := B20.out.trans (hB.mono B20.out.size)
                have IC_21 : Hid (Ints w21 al2 fl) := IC_20.out.kept hB
                clear hB IC_20
                go_wp2_with fail
                refine (spec_need al2 K2 cl2 fl _ HF (by omega) IC_21).mono ?_
                rintro e w22 (⟨h, _⟩ | ⟨_, rfl, hB⟩)
                · rw [hc2] at h; cases h
                have B22 : Hid (Below w.heap.size w w22) := B21.out.trans (hB.mono B21.out.size)
                have IC_22 : Hid (Ints w22 al2 fl) := IC_21.out.kept hB
                clear hB IC_21
                go_wp2_with fail
                refine (impl_set al2 K2 cl2 fl _ HF (by omega) IC_22).mono ?_
                rintro e w23 (⟨h, _⟩ | ⟨_, rfl, hB⟩)
                · rw [hc2] at h; cases h
                have B23 : Hid (Below w.heap.size w w23) := B22.out.trans (hB.mono B22.out.size)
                have IC_23 : Hid (Ints w23 al2 fl) := IC_22.out.kept hB
                clear hB IC_22
                go_wp2_with fail
                refine (spec_set al2 K2 cl2 fl _ HF (by omega) IC_23).mono ?_
                rintro e w24 (⟨h, _⟩ | ⟨_, rfl, hB⟩)
                · rw [hc2] at h; cases h
                have B24 : Hid (Below w.heap.size w w24) := B23.out.trans (hB.mono B23.out.size)
                have IC_24 : Hid (Ints w24 al2 fl) := IC_23.out.kept hB
                clear hB IC_23
                go_wp2_with fail
                refine (same_ints none none 0 _ _ [] _ rfl (by omega) (Or.inl rfl) (Or.inl rfl)).mono ?_
                rintro e w25 ⟨rfl, hB⟩
                have B25 : Hid (Below w.heap.size w w25) := B24.out.trans (hB.mono B24.out.size)
                have IC_25 : Hid (Ints w25 al2 fl) := IC_24.out.kept hB
                clear hB IC_24
                go_wp2_with fail
                refine (same_ints none none 0 _ _ [] _ rfl (by omega) (Or.inl rfl) (Or.inl rfl)).mono ?_
                rintro e w26 ⟨rfl, hB⟩
                have B26 : Hid (Below w.heap.size w w26) := B25.out.trans (hB.mono B25.out.size)
                have IC_26 : Hid (Ints w26 al2 fl) := IC_25.out.kept hB
                clear hB IC_25
                go_wp2
                go_ret
                exact ⟨rfl, B26.out⟩
              · go_wp2_with fail
                refine (impl_need al2 K2 cl2 fl _ HF (by omega) IC_20).mono ?_
                rintro e w21 (⟨_, ⟨naa, nac, rfl, hM⟩, hB⟩ | ⟨h, _⟩)
                rotate_left
                · rw [hc2] at h; cases h
                have B21 : Hid (Below w.heap.size w w21) := B20.out.trans (hB.mono B20.out.size)
                have IC_21 : Hid (Ints w21 al2 fl) := IC_20.out.kept hB
                have NA_21 : Hid (Ints w21 naa (risingTo (needTo fl K2) 8)) := hM.ints
                clear hB IC_20 hM
                go_wp2_with fail
                refine (spec_need al2 K2 cl2 fl _ HF (by omega) IC_21).mono ?_
                rintro e w22 (⟨_, ⟨vnb, rfl, hM⟩, hB⟩ | ⟨h, _⟩)
                rotate_left
                · rw [hc2] at h; cases h
                obtain ⟨nba, nbc, enb, hM2⟩ := lrow_ints hM
                subst enb
                clear hM
                have B22 : Hid (Below w.heap.size w w22) := B21.out.trans (hB.mono B21.out.size)
                have IC_22 : Hid (Ints w22 al2 fl) := IC_21.out.kept hB
                have NA_22 : Hid (Ints w22 naa (risingTo (needTo fl K2) 8)) := NA_21.out.kept hB
                have NB_22 : Hid (Ints w22 nba (risingTo (needTo fl K2) 8)) := hM2
                clear hB IC_21 NA_21 hM2
                go_wp2_with fail
                refine (impl_set al2 K2 cl2 fl _ HF (by omega) IC_22).mono ?_
                rintro e w23 (⟨_, ⟨saa, sac, rfl, hM⟩, hB⟩ | ⟨h, _⟩)
                rotate_left
                · rw [hc2] at h; cases h
                have B23 : Hid (Below w.heap.size w w23) := B22.out.trans (hB.mono B22.out.size)
                have IC_23 : Hid (Ints w23 al2 fl) := IC_22.out.kept hB
                have NA_23 : Hid (Ints w23 naa (risingTo (needTo fl K2) 8)) := NA_22.out.kept hB
                have NB_23 : Hid (Ints w23 nba (risingTo (needTo fl K2) 8)) := NB_22.out.kept hB
                have SA_23 : Hid (Ints w23 saa (risingTo (setTo fl K2) 8)) := hM.ints
                clear hB IC_22 NA_22 NB_22 hM
                go_wp2_with fail
                refine (spec_set al2 K2 cl2 fl _ HF (by omega) IC_23).mono ?_
                rintro e w24 (⟨_, ⟨vsb, rfl, hM⟩, hB⟩ | ⟨h, _⟩)
                rotate_left
                · rw [hc2] at h; cases h
                obtain ⟨sba, sbc, esb, hM2⟩ := lrow_ints hM
                subst esb
                clear hM
                have B24 : Hid (Below w.heap.size w w24) := B23.out.trans (hB.mono B23.out.size)
                have IC_24 : Hid (Ints w24 al2 fl) := IC_23.out.kept hB
                have NA_24 : Hid (Ints w24 naa (risingTo (needTo fl K2) 8)) := NA_23.out.kept hB
                have NB_24 : Hid (Ints w24 nba (risingTo (needTo fl K2) 8)) := NB_23.out.kept hB
                have SA_24 : Hid (Ints w24 saa (risingTo (setTo fl K2) 8)) := SA_23.out.kept hB
                have SB_24 : Hid (Ints w24 sba (risingTo (setTo fl K2) 8)) := hM2
                clear hB IC_23 NA_23 NB_23 SA_23 hM2
                obtain ⟨n1, HN1, hn1⟩ : ∃ n1 : Nat, Hid ((risingTo (needTo fl K2) 8).length = n1) ∧ n1 ≤ 8 := ⟨_, rfl, rising_len _ 8⟩
                obtain ⟨n2, HN2, hn2⟩ : ∃ n2 : Nat, Hid ((risingTo (setTo fl K2) 8).length = n2) ∧ n2 ≤ 8 := ⟨_, rfl, rising_len _ 8⟩
                rw [HN1.out, HN2.out]
                go_wp2_with fail
                refine (same_ints naa nba n1 _ _ _ _ HN1 (by omega) NA_24 NB_24).mono ?_
                rintro e w25 ⟨rfl, hB⟩
                have B25 : Hid (Below w.heap.size w w25) := B24.out.trans (hB.mono B24.out.size)
                have IC_25 : Hid (Ints w25 al2 fl) := IC_24.out.kept hB
                have NA_25 : Hid (Ints w25 naa (risingTo (needTo fl K2) 8)) := NA_24.out.kept hB
                have NB_25 : Hid (Ints w25 nba (risingTo (needTo fl K2) 8)) := NB_24.out.kept hB
                have SA_25 : Hid (Ints w25 saa (risingTo (setTo fl K2) 8)) := SA_24.out.kept hB
                have SB_25 : Hid (Ints w25 sba (risingTo (setTo fl K2) 8)) := SB_24.out.kept hB
                clear hB IC_24 NA_24 NB_24 SA_24 SB_24
                go_wp2_with fail
                refine (same_ints saa sba n2 _ _ _ _ HN2 (by omega) SA_25 SB_25).mono ?_
                rintro e w26 ⟨rfl, hB⟩
                have B26 : Hid (Below w.heap.size w w26) := B25.out.trans (hB.mono B25.out.size)
                have IC_26 : Hid (Ints w26 al2 fl) := IC_25.out.kept hB
                have NA_26 : Hid (Ints w26 naa (risingTo (needTo fl K2) 8)) := NA_25.out.kept hB
                have NB_26 : Hid (Ints w26 nba (risingTo (needTo fl K2) 8)) := NB_25.out.kept hB
                have SA_26 : Hid (Ints w26 saa (risingTo (setTo fl K2) 8)) := SA_25.out.kept hB
                have SB_26 : Hid (Ints w26 sba (risingTo (setTo fl K2) 8)) := SB_25.out.kept hB
                clear hB IC_25 NA_25 NB_25 SA_25 SB_25
                go_wp2
                go_ret
                exact ⟨rfl, B26.out⟩

set_option maxRecDepth 100000 in
theorem lifted (os : Os) (started : os.Started) (H : Type) (enc : TypeId × Value → H) :
    ReturnsInHanded {} Try.checked os 3 .any (Rows.fnCodeSpec.pre6 enc Try.prog Try.f3 Rows.fnCodeRow.domain false) (Rows.fnCodeSpec.post enc Try.prog Try.f3 false true false false) := by
  refine returnsInHanded_of_change_sized (C := Try.checked) own started (by kernel_rfl) Try.func3
    (ChangeSpec.witness6 (enc := enc) (C := Try.checked) false ⟨#[], #[.slice none 0 0, .slice none 0 0], []⟩ 8 (by kernel_rfl) (by kernel_rfl) (by kernel_rfl) (by kernel_rfl)) ?_
  intro W base args ds gs before hval0 hW hcnd hsz0 _
  have hval : ∀ (j : Nat) t v, Try.f3.params[j]? = some t → args[j]? = some v → Value.okWide Try.prog W .any base t v := hval0
  have hW' := hW
  obtain ⟨p, q, hA0, hV, rfl, hfz, hnd⟩ := hW
  have hsz : (DataW.weightsEach Try.prog (Try.f3.params.toList ++ Rows.fnCodeSpec.plain.varTypes Try.prog) (ds ++ gs)).all (· ≤ reachBytes) = true := hsz0
  have hA : DataW.TrodAll enc Try.prog W 0 (fun _ => true) true Try.f3.params.toList args.toList ds p := hA0
  rw [Try.params3] at hA hval hsz
  obtain ⟨v0, vs0, d0, ds0, p0, q0, hargs, rfl, rfl, h0, r0⟩ := trodAll_cons hA
  obtain ⟨v1, vs1, d1, ds1, p1, q1, rfl, rfl, rfl, h1, r1⟩ := trodAll_cons r0
  obtain ⟨rfl, rfl, rfl⟩ := trodAll_nil r1
  obtain rfl : args = #[v0, v1] := by cases args; simp_all
  obtain ⟨rfl, rfl⟩ := trodVars_none hV
  obtain ⟨a0, len0, cap0, rfl⟩ := okWide_slice Try.underlying22 (hval 0 22 v0 rfl rfl)
  have k0 := h0
  have lt0 : ∀ x ∈ p0, x.block < W.heap.size := by obtain ⟨m, hm⟩ := k0; exact DataW.trod_lt m _ _ _ hm
  obtain ⟨z0, w0, b0⟩ : ∃ zs, IsRow .u8 W a0 len0 cap0 zs ∧ len0 ≤ 140737488351232 := by
    obtain ⟨fuel, hf⟩ := h0
    rcases open_ints Try.underlying22 Try.underlying5 (by kernel_rfl) hf with ⟨hcs, _⟩ | ⟨x, l, c, zs, hcs, _, hl, hm, hz, hx, hcell, hwz⟩
    · simp [Value.cells] at hcs
      obtain ⟨rfl, rfl, rfl⟩ := hcs
      exact ⟨[], .inl ⟨rfl, rfl, rfl, rfl⟩, by omega⟩
    · simp [Value.cells] at hcs
      obtain ⟨rfl, rfl, rfl⟩ := hcs
      have hz' : zs.length = cap0 := by simpa using hz
      have hd : d0 = .slice (lits .u8 (zs.take len0)) (lits .u8 (zs.drop len0)) := congrArg Prod.fst hx
      have hs := sized_slice hsz (j := 0) (t := 22) (e := 5) rfl (by rw [hd]; rfl) Try.underlying22
      rw [show Try.prog.bytesOf 5 = 1 by kernel_rfl] at hs
      simp only [lits, List.length_map, List.length_take, List.length_drop, reachBytes] at hs
      exact ⟨zs, .inr ⟨_, rfl, hl, hm, hz', hcell, hwz⟩, by omega⟩
  obtain ⟨a1, len1, cap1, rfl⟩ := okWide_slice Try.underlying22 (hval 1 22 v1 rfl rfl)
  have k1 := h1
  have lt1 : ∀ x ∈ p1, x.block < W.heap.size := by obtain ⟨m, hm⟩ := k1; exact DataW.trod_lt m _ _ _ hm
  obtain ⟨z1, w1, b1⟩ : ∃ zs, IsRow .u8 W a1 len1 cap1 zs ∧ len1 ≤ 140737488351232 := by
    obtain ⟨fuel, hf⟩ := h1
    rcases open_ints Try.underlying22 Try.underlying5 (by kernel_rfl) hf with ⟨hcs, _⟩ | ⟨x, l, c, zs, hcs, _, hl, hm, hz, hx, hcell, hwz⟩
    · simp [Value.cells] at hcs
      obtain ⟨rfl, rfl, rfl⟩ := hcs
      exact ⟨[], .inl ⟨rfl, rfl, rfl, rfl⟩, by omega⟩
    · simp [Value.cells] at hcs
      obtain ⟨rfl, rfl, rfl⟩ := hcs
      have hz' : zs.length = cap1 := by simpa using hz
      have hd : d1 = .slice (lits .u8 (zs.take len1)) (lits .u8 (zs.drop len1)) := congrArg Prod.fst hx
      have hs := sized_slice hsz (j := 1) (t := 22) (e := 5) rfl (by rw [hd]; rfl) Try.underlying22
      rw [show Try.prog.bytesOf 5 = 1 by kernel_rfl] at hs
      simp only [lits, List.length_map, List.length_take, List.length_drop, reachBytes] at hs
      exact ⟨zs, .inr ⟨_, rfl, hl, hm, hz', hcell, hwz⟩, by omega⟩
  clear hA0 hval0
  refine (walk a0 len0 cap0 z0 a1 len1 cap1 z1 W w0 b0 w1 b1).mono fun e W' ⟨he, bel⟩ => ?_
  subst he
  exact ⟨_, rfl, _, _, _, [], _, [], hW', trodAll_mk1 (shut_bool Try.underlying4 _), (trodAll_cons_mk (Below.trod laidOut (by kernel_rfl) (of_decide_eq_true (by kernel_rfl)) k0 bel lt0) (trodAll_cons_mk (Below.trod laidOut (by kernel_rfl) (of_decide_eq_true (by kernel_rfl)) k1 bel lt1) trodAll_mk0)), rfl, bel.frame _, fun h => by cases h⟩

theorem over : Rows.fnCodeRow.holds Try.pinned (OpenSpec.ofChange Rows.fnCodeSpec) :=
  OpenClaim.holds_of_wide 3 Try.f3 rfl rfl rfl rfl rfl rfl rfl ⟨rfl, rfl, rfl, rfl, rfl⟩ rfl rfl rfl rfl rfl (by kernel_rfl) Try.func3 (by kernel_rfl)
    (of_decide_eq_true (by kernel_rfl)) (by unfold Func.isWrapper; first | (rw [if_pos (by decide +kernel)]; kernel_rfl) | (rw [if_neg (by decide +kernel)]; exact ⟨rfl, rfl⟩))
    (fun os started H enc _ => lifted os started H enc)

theorem proved : Rows.FnCodeSaid :=
  over
#print axioms proved
end Go.Proofs.Ytfejfbafoaiidaa.fnCode
