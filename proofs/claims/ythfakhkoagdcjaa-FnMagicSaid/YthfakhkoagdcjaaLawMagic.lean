/-
  Whatever bytes are handed in: of the divisor drawn the program's magic is the specification's, is good and divides rightly; of the magics drawn the program answers as the specification, and one that is right divides rightly; the bytes read as before.
-/
import Derived.Test.YthfakhkoagdcjaaRows
import Derived.WalkKit
import Derived.ProofKit
import Derived.OpenShut
import Derived.ShutString
import Derived.ChangeOld
import Derived.Below
import Derived.Carry
import Derived.Deep.DeepCutAuto
import Derived.Deep.RegionHeld3
import Derived.SizedLaws
import Derived.Test.YthfakhkoagdcjaaMagMath
import Derived.Test.YthfakhkoagdcjaaMagGood
import Derived.Test.YthfakhkoagdcjaaMagDivs
import Derived.Test.YthfakhkoagdcjaaMagFor
import Derived.Test.YthfakhkoagdcjaaMagRight
import Derived.Test.YthfakhkoagdcjaaMagSound
import Derived.Test.YthfakhkoagdcjaaInts
import Derived.Test.YthfakhkoagdcjaaOwnInts
import Derived.Test.YthfakhkoagdcjaaCur
import Derived.Test.YthfakhkoagdcjaaMagDraw
import Derived.Test.YthfakhkoagdcjaaMagDraws
import Derived.Test.YthfakhkoagdcjaaMagSame
namespace Go.Proofs.Ythfakhkoagdcjaa.fnMagic
open Go.ChangeShapes Go.WideShapes Go.ChangeAt Go.RowKit
open Go.ChangeMaps (open_string shut_string)
open Go.Proofs.Ythfakhkoagdcjaa.math
open Go.Proofs.Ythfakhkoagdcjaa.walks
open Go.Proofs.Ythfakhkoagdcjaa.ints
open Go.Proofs.Ythfakhkoagdcjaa.cur
set_option linter.unusedVariables false

theorem own : ownKnob Try.prog.godebug = none := by kernel_rfl
theorem laidOut : laidOutB Try.prog = true := by kernel_rfl

/-- What is known of a slice of integers that came in: it is nil, or leads to a row of cells, the numbers zs, each fitting its kind. -/
def IsRow (k : IntKind) (w : World) (a : Option Addr) (len cap : Nat) (zs : List Int) : Prop :=
  (a = none ∧ len = 0 ∧ cap = 0 ∧ zs = []) ∨
  ∃ x, a = some x ∧ len ≤ cap ∧ cap ≤ maxLen ∧ zs.length = cap ∧ (∀ i, i < zs.length → w.cell? (x.add i) = some (.int k (zs.getD i 0))) ∧ ∀ n ∈ zs, (Lit.int k n).wf = true

theorem src_of {w : World} {a : Option Addr} {len cap : Nat} {zs : List Int} (h : IsRow .u8 w a len cap zs) : Src w.heap.size a len w := by
  rcases h with ⟨_, rfl, _, _⟩ | ⟨x, rfl, hl, hm, hz, hcell, hwz⟩
  · exact Or.inl rfl
  · obtain ⟨b, off, spot⟩ := x
    by_cases h0 : len = 0
    · exact Or.inl h0
    · have hc := hcell 0 (by omega)
      have hspot : spot = none := by simpa [Addr.add] using World.cell?_spot hc
      subst hspot
      have hb : b < w.heap.size := by simpa [Addr.add] using World.block_lt_of_cell? w _ hc
      refine Or.inr ⟨b, off, rfl, hb, hb, fun i hi => ?_⟩
      have hi' : i < zs.length := by omega
      have e : zs.getD i 0 = zs[i] := by simp [List.getD, hi']
      have hbd := bounds_u8 (hwz zs[i] (List.getElem_mem hi'))
      have ha : (⟨b, off, none⟩ : Addr).add i = ⟨b, off + i, none⟩ := by
        unfold Addr.add
        split
        · rename_i h; subst h; rfl
        · rfl
      have hc1 := hcell i hi'
      rw [e, ha] at hc1
      exact ⟨zs[i], by omega, by omega, hc1⟩
theorem src_kept {w w' : World} {a : Option Addr} {len : Nat} (h : Src w.heap.size a len w) (hb : Below w.heap.size w w') : Src w'.heap.size a len w' := by
  rcases h with h | ⟨x, off, rfl, hx, hs, hc⟩
  · exact Or.inl h
  · refine Or.inr ⟨x, off, rfl, Nat.lt_of_lt_of_le hx hb.size, Nat.lt_of_lt_of_le hs hb.size, fun i hi => ?_⟩
    obtain ⟨z, z0, z1, hz⟩ := hc i hi
    exact ⟨z, z0, z1, (hb.cell (p := ⟨x, off + i, none⟩) hx).trans hz⟩
theorem held_call {w wx w' : World} {g : Nat} {x y z : Int} (h : (wx.cell? ⟨g, 0, none⟩ = some (.int .i64 x) ∧ wx.cell? ⟨g, 1, none⟩ = some (.int .i64 y) ∧ wx.cell? ⟨g, 2, none⟩ = some (.int .i64 z)) ∧ Box3 wx g x y z ∧ Below w.heap.size w wx) (B : Below wx.heap.size wx w') : (w'.cell? ⟨g, 0, none⟩ = some (.int .i64 x) ∧ w'.cell? ⟨g, 1, none⟩ = some (.int .i64 y) ∧ w'.cell? ⟨g, 2, none⟩ = some (.int .i64 z)) ∧ Box3 w' g x y z ∧ Below w.heap.size w w' :=
  have hb := h.2.1.below B
  ⟨⟨hb.c0, hb.c1, hb.c2⟩, hb, h.2.2.trans (B.mono h.2.2.size)⟩
set_option maxRecDepth 100000 in
set_option maxHeartbeats 40000000 in
theorem walk (a0 : Option Addr) (len0 cap0 : Nat) (z0 : List Int) (a1 : Option Addr) (len1 cap1 : Nat) (z1 : List Int) (w : World) (w0 : IsRow .u8 w a0 len0 cap0 z0) (b0 : len0 ≤ 140737488351232) (w1 : IsRow .u8 w a1 len1 cap1 z1) (b1 : len1 ≤ 140737488351232) :
    Calls Try.prog 3 #[.slice a0 len0 cap0, .slice a1 len1 cap1] w fun e w' => e = .returned (.bool true) ∧ Below w.heap.size w w' := by
  by_cases hbig : 1048576 < len0 + len1
  · have hb1 : (1048576 : Int) < (len0 : Int) + (len1 : Int) := by omega
    clear hbig w0 w1
    go_enter Try.func3, Try.ntmps3
    go_wp2
    go_ret
    exact ⟨rfl, Below.refl _ _⟩
  have hs1 : (len0 : Int) + (len1 : Int) ≤ 1048576 := by omega
  have hlen0 : len0 ≤ 1048576 := by omega
  have hlen1 : len1 ≤ 1048576 := by omega
  have C0 : Hid (Src w.heap.size a0 len0 w) := src_of w0
  have C1 : Hid (Src w.heap.size a1 len1 w) := src_of w1
  have qg := neGM
  have qe := neM
  clear hbig w0 w1 b0 b1
  go_enter Try.func3, Try.ntmps3
  go_wp2_with fail
  refine (drawMagic_any C0.out hlen0).mono ?_
  rintro e w2 ⟨r, r0, r1, rfl, hB⟩
  have B2 : Hid (Below w.heap.size w w2) := hB
  clear hB
  have hs2 := B2.out.size
  cases hr : inR r 1 65535
  · go_wp2_with fail
    refine (impl_for_no r _ hr).mono ?_
    rintro e w3 ⟨rfl, hB⟩
    have B3 : Hid (Below w.heap.size w w3) := B2.out.trans (hB.mono B2.out.size)
    clear hB
    go_wp2_with fail
    refine (spec_for_no r _ hr).mono ?_
    rintro e w4 ⟨rfl, hB⟩
    have M4 : Hid (Box3 w4 w3.heap.size (0) (0) (0)) := (box3_new w3 (0) (0) (0) _).below hB
    have B4 : Hid (Below w.heap.size w w4) := (B3.out.alloc B3.out.size _).trans (hB.mono (by have := B3.out.size; simp; omega))
    clear hB
    have ml := M4.out.lt
    have ma := M4.out.c0
    have mb := M4.out.c1
    have mc := M4.out.c2
    go_wp2_with fail
    have B4' : Hid (Below w.heap.size w (w4.alloc (.cells #[.int .i64 0, .int .i64 0, .int .i64 0] 25))) := B4.out.alloc B4.out.size _
    refine (drawDiv_any (src_kept C1.out B4'.out) hlen1).mono ?_
    rintro e w5 ⟨x, y, z, n, rfl, hB⟩
    have B5 : Hid (Below w.heap.size w w5) := B4'.out.trans (hB.mono B4'.out.size)
    clear hB
    go_wp2_with fail
    refine (impl_div x y z n _).mono ?_
    rintro e w6 ⟨rfl, hB⟩
    have X6 : Hid (Box3 w6 w5.heap.size x y z) := (box3_new w5 x y z _).below hB
    have B6 : Hid (Below w.heap.size w w6) := (B5.out.alloc B5.out.size _).trans (hB.mono (by have := B5.out.size; simp; omega))
    clear hB
    have xl := X6.out.lt
    have xa := X6.out.c0
    have xb := X6.out.c1
    have xc := X6.out.c2
    go_wp2_with fail
    refine (spec_div x y z n _).mono ?_
    rintro e w7 ⟨rfl, hB⟩
    have X7 : Hid (Box3 w7 w5.heap.size x y z) := X6.out.below hB
    have B7 : Hid (Below w.heap.size w w7) := B6.out.trans (hB.mono B6.out.size)
    clear hB xl xa xb xc X6
    have xl := X7.out.lt
    have xa := X7.out.c0
    have xb := X7.out.c1
    have xc := X7.out.c2
    go_wp2_with fail
    refine (impl_mod x y z n _).mono ?_
    rintro e w8 ⟨rfl, hB⟩
    have X8 : Hid (Box3 w8 w5.heap.size x y z) := X7.out.below hB
    have B8 : Hid (Below w.heap.size w w8) := B7.out.trans (hB.mono B7.out.size)
    clear hB xl xa xb xc X7
    have xl := X8.out.lt
    have xa := X8.out.c0
    have xb := X8.out.c1
    have xc := X8.out.c2
    go_wp2_with fail
    refine (spec_mod x y z n _).mono ?_
    rintro e w9 ⟨rfl, hB⟩
    have X9 : Hid (Box3 w9 w5.heap.size x y z) := X8.out.below hB
    have B9 : Hid (Below w.heap.size w w9) := B8.out.trans (hB.mono B8.out.size)
    clear hB xl xa xb xc X8
    have xl := X9.out.lt
    have xa := X9.out.c0
    have xb := X9.out.c1
    have xc := X9.out.c2
    go_wp2_with fail
    refine (drawSdiv_any (src_kept C1.out B9.out) hlen1).mono ?_
    rintro e w10 ⟨u, v, s, m, rfl, hB⟩
    have X10 : Hid (Box3 w10 w5.heap.size x y z) := X9.out.below hB
    have B10 : Hid (Below w.heap.size w w10) := B9.out.trans (hB.mono B9.out.size)
    clear hB xl xa xb xc X9
    go_wp2_with fail
    refine (impl_sdiv u v s m _).mono ?_
    rintro e w11 ⟨rfl, hB⟩
    have X11 : Hid (Box3 w11 w5.heap.size x y z) := (X10.out.alloc _).below hB
    have Y11 : Hid (Box3 w11 w10.heap.size u v s) := (box3_new w10 u v s _).below hB
    have B11 : Hid (Below w.heap.size w w11) := (B10.out.alloc B10.out.size _).trans (hB.mono (by have := B10.out.size; simp; omega))
    clear hB X10
    have xl := X11.out.lt
    have xa := X11.out.c0
    have xb := X11.out.c1
    have xc := X11.out.c2
    have yl := Y11.out.lt
    have ya := Y11.out.c0
    have yb := Y11.out.c1
    have yc := Y11.out.c2
    go_wp2_with fail
    refine (spec_sdiv u v s m _).mono ?_
    rintro e w12 ⟨rfl, hB⟩
    have X12 : Hid (Box3 w12 w5.heap.size x y z) := X11.out.below hB
    have B12 : Hid (Below w.heap.size w w12) := B11.out.trans (hB.mono B11.out.size)
    clear hB xl xa xb xc yl ya yb yc X11 Y11
    have xl := X12.out.lt
    have xa := X12.out.c0
    have xb := X12.out.c1
    have xc := X12.out.c2
    obtain ⟨Q, HQ⟩ : ∃ Q : Int, Hid (divV x y z n = Q) := ⟨_, rfl⟩
    obtain ⟨I, HI⟩ : ∃ I : Bool, Hid (divB x y z n = I) := ⟨_, rfl⟩
    obtain ⟨R, HR⟩ : ∃ R : Int, Hid (modV x y z n = R) := ⟨_, rfl⟩
    obtain ⟨J, HJ⟩ : ∃ J : Bool, Hid (modB x y z n = J) := ⟨_, rfl⟩
    obtain ⟨T, HT⟩ : ∃ T : Int, Hid (sdivV u v s m = T) := ⟨_, rfl⟩
    obtain ⟨K, HK⟩ : ∃ K : Bool, Hid (sdivB u v s m = K) := ⟨_, rfl⟩
    rw [HQ.out, HI.out, HR.out, HJ.out, HT.out, HK.out]
    obtain ⟨G, HG⟩ : ∃ G : Bool, Hid (goodB x y z = G) := ⟨_, rfl⟩
    have P1 : ∀ W', Calls Try.prog 10 #[.agg #[.int .i64 x, .int .i64 y, .int .i64 z]] W' fun e W'' => e = .returned (.bool G) ∧ Below W'.heap.size W' W'' := fun W' => by rw [← HG.out]; exact impl_good_b x y z W'
    have P2 : ∀ W', Calls Try.prog 17 #[.agg #[.int .i64 x, .int .i64 y, .int .i64 z]] W' fun e W'' => e = .returned (.bool G) ∧ Below W'.heap.size W' W'' := fun W' => by rw [← HG.out]; exact spec_good_b x y z W'
    go_upto_region 23 with fail
    go_cut [199] (fun v199 wx => v199 = .bool false ∧ Box3 wx w5.heap.size x y z ∧ Below w.heap.size w wx)
    case first =>
      go_region_held3 (fun w' => (w'.cell? ⟨w5.heap.size, 0, none⟩ = some (.int .i64 x) ∧ w'.cell? ⟨w5.heap.size, 1, none⟩ = some (.int .i64 y) ∧ w'.cell? ⟨w5.heap.size, 2, none⟩ = some (.int .i64 z)) ∧ Box3 w' w5.heap.size x y z ∧ Below w.heap.size w w')
        (first | exact ⟨⟨xa, xb, xc⟩, X12.out.drew, B12.out.drew⟩ | assumption | exact held_call (by assumption) hG1 | exact held_call (by assumption) hG2)
        (first | (go_at_call 10; refine (P1 _).mono ?_; rintro e w13 ⟨rfl, hG1⟩) | (go_at_call 17; refine (P2 _).mono ?_; rintro e w14 ⟨rfl, hG2⟩))
      rename_i hh
      go_wp2_with fail
      go_meet
      exact ⟨by simp, hh.2⟩
    obtain ⟨rfl, hX, hB⟩ := hcut
    have X15 : Hid (Box3 wc w5.heap.size x y z) := hX
    have B15 : Hid (Below w.heap.size w wc) := hB
    clear hX hB P1 P2 xl xa xb xc X12
    have xl := X15.out.lt
    have xa := X15.out.c0
    have xb := X15.out.c1
    have xc := X15.out.c2
    cases G
    · go_wp2_with fail
      refine (impl_right_no x y z _ HG.out).mono ?_
      rintro e w16 ⟨rfl, hB⟩
      have X16 : Hid (Box3 w16 w5.heap.size x y z) := X15.out.below hB
      have B16 : Hid (Below w.heap.size w w16) := B15.out.trans (hB.mono B15.out.size)
      clear hB xl xa xb xc X15
      have xl := X16.out.lt
      have xa := X16.out.c0
      have xb := X16.out.c1
      have xc := X16.out.c2
      go_wp2_with fail
      refine (spec_right_no x y z _ HG.out).mono ?_
      rintro e w17 ⟨rfl, hB⟩
      have X17 : Hid (Box3 w17 w5.heap.size x y z) := X16.out.below hB
      have B17 : Hid (Below w.heap.size w w17) := B16.out.trans (hB.mono B16.out.size)
      clear hB xl xa xb xc X16
      have xl := X17.out.lt
      have xa := X17.out.c0
      have xb := X17.out.c1
      have xc := X17.out.c2
      go_wp2
      go_ret
      exact ⟨rfl, B17.out⟩
    by_cases hRight : Right x y z
    · go_wp2_with fail
      refine (impl_right_yes x y z true _ HG.out (fun _ => hRight) (fun h => by cases h)).mono ?_
      rintro e w16 ⟨rfl, hB⟩
      have X16 : Hid (Box3 w16 w5.heap.size x y z) := X15.out.below hB
      have B16 : Hid (Below w.heap.size w w16) := B15.out.trans (hB.mono B15.out.size)
      clear hB xl xa xb xc X15
      have xl := X16.out.lt
      have xa := X16.out.c0
      have xb := X16.out.c1
      have xc := X16.out.c2
      go_wp2_with fail
      refine (spec_right_yes x y z true _ HG.out (fun _ => hRight) (fun h => by cases h)).mono ?_
      rintro e w17 ⟨rfl, hB⟩
      have X17 : Hid (Box3 w17 w5.heap.size x y z) := X16.out.below hB
      have B17 : Hid (Below w.heap.size w w17) := B16.out.trans (hB.mono B16.out.size)
      clear hB xl xa xb xc X16
      have xl := X17.out.lt
      have xa := X17.out.c0
      have xb := X17.out.c1
      have xc := X17.out.c2
      obtain ⟨g1, g2, _, _, _, _⟩ := good_out HG.out
      cases I
      · go_wp2
        go_ret
        exact ⟨rfl, B17.out⟩
      · obtain ⟨_, n0, n1⟩ := divB_out HI.out
        have e1 : Q = n / x := by rw [← HQ.out, divV_yes HI.out]; exact hRight n n0 n1
        have e2 : Int.tdiv n x = Q := by rw [e1]; exact Int.tdiv_eq_ediv_of_nonneg n0
        have q0 : 0 ≤ Q := by rw [e1]; exact Int.ediv_nonneg n0 (by omega)
        have q1 : Q ≤ 65535 := by rw [e1]; exact Int.le_trans (Int.ediv_le_self _ n0) n1
        clear hRight e1
        go_wp2
        go_ret
        exact ⟨rfl, B17.out⟩
    · have hNo : ∃ k : Int, 0 ≤ k ∧ k ≤ 65535 ∧ divW y z k ≠ k / x := by
        refine Classical.byContradiction fun hc => hRight fun k k0 k1 => ?_
        exact Classical.byContradiction fun hk => hc ⟨k, k0, k1, hk⟩
      go_wp2_with fail
      refine (impl_right_yes x y z false _ HG.out (fun h => by cases h) (fun _ => hNo)).mono ?_
      rintro e w16 ⟨rfl, hB⟩
      have X16 : Hid (Box3 w16 w5.heap.size x y z) := X15.out.below hB
      have B16 : Hid (Below w.heap.size w w16) := B15.out.trans (hB.mono B15.out.size)
      clear hB xl xa xb xc X15
      have xl := X16.out.lt
      have xa := X16.out.c0
      have xb := X16.out.c1
      have xc := X16.out.c2
      go_wp2_with fail
      refine (spec_right_yes x y z false _ HG.out (fun h => by cases h) (fun _ => hNo)).mono ?_
      rintro e w17 ⟨rfl, hB⟩
      have X17 : Hid (Box3 w17 w5.heap.size x y z) := X16.out.below hB
      have B17 : Hid (Below w.heap.size w w17) := B16.out.trans (hB.mono B16.out.size)
      clear hB xl xa xb xc X16
      have xl := X17.out.lt
      have xa := X17.out.c0
      have xb := X17.out.c1
      have xc := X17.out.c2
      go_wp2
      go_ret
      exact ⟨rfl, B17.out⟩
  · obtain ⟨h1, h2⟩ := inR_out hr
    obtain ⟨t, hL⟩ := least_is h1 h2
    have HL : Hid (Least r t) := hL
    obtain ⟨M, HM⟩ : ∃ M : Int, Hid (upM r t = M) := ⟨_, rfl⟩
    have F1 : ∀ W', Calls Try.prog 5 #[.int .i64 r] W' fun e W'' => e = .returned (.tuple #[.agg #[.int .i64 r, .int .i64 M, .int .i64 t], .bool true]) ∧ Below W'.heap.size W' W'' := fun W' => by rw [← HM.out]; exact impl_for r t W' h1 h2 hL
    have F2 : ∀ W', Calls Try.prog 6 #[.int .i64 r] W' fun e W'' => e = .returned (.tuple #[.agg #[.int .i64 r, .int .i64 M, .int .i64 t], .bool true]) ∧ Below W'.heap.size W' W'' := fun W' => by rw [← HM.out]; exact spec_for r t W' h1 h2 hL
    have HG0 : Hid (goodB r M t = true) := by rw [← HM.out]; exact magic_good h1 h2 hL
    have HD0 : Hid (∀ n : Int, 0 ≤ n → n ≤ 65535 → divW M t n = n / r) := fun n n0 n1 => by rw [← HM.out]; exact magic_div h1 h2 hL n0 n1
    clear hL
    go_wp2_with fail
    refine (F1 _).mono ?_
    rintro e w3 ⟨rfl, hB⟩
    have B3 : Hid (Below w.heap.size w w3) := B2.out.trans (hB.mono B2.out.size)
    clear hB
    go_wp2_with fail
    refine (F2 _).mono ?_
    rintro e w4 ⟨rfl, hB⟩
    have M4 : Hid (Box3 w4 w3.heap.size (r) (M) (t)) := (box3_new w3 (r) (M) (t) _).below hB
    have B4 : Hid (Below w.heap.size w w4) := (B3.out.alloc B3.out.size _).trans (hB.mono (by have := B3.out.size; simp; omega))
    clear hB
    have ml := M4.out.lt
    have ma := M4.out.c0
    have mb := M4.out.c1
    have mc := M4.out.c2
    clear F1 F2
    go_wp2_with fail
    have B4' : Hid (Below w.heap.size w (w4.alloc (.cells #[.int .i64 r, .int .i64 M, .int .i64 t] 25))) := B4.out.alloc B4.out.size _
    refine (number_any _ (src_kept C1.out B4'.out) hlen1).mono ?_
    rintro e w' ⟨k, k0, k1, rfl, rfl⟩
    go_wp2_with fail
    have d0 : 0 ≤ k % 65536 := by omega
    have d1 : k % 65536 ≤ 65535 := by omega
    generalize k % 65536 = d at d0 d1 ⊢
    have HB1 := divB_mk HG0.out d0 d1
    have HB2 := modB_mk HG0.out d0 d1
    have HB3 := divB_mk HG0.out (show (0 : Int) ≤ 65535 by omega) (show (65535 : Int) ≤ 65535 by omega)
    obtain ⟨q, e1, e2, q0, q1⟩ : ∃ q : Int, Hid (divV r M t d = q) ∧ Int.tdiv d r = q ∧ 0 ≤ q ∧ q ≤ 65535 :=
      ⟨_, rfl, by rw [divV_yes HB1, HD0.out d d0 d1]; exact Int.tdiv_eq_ediv_of_nonneg d0, by rw [divV_yes HB1, HD0.out d d0 d1]; exact Int.ediv_nonneg d0 (by omega), by rw [divV_yes HB1, HD0.out d d0 d1]; exact Int.le_trans (Int.ediv_le_self _ d0) d1⟩
    obtain ⟨p, e3, e4, p0, p1⟩ : ∃ p : Int, Hid (modV r M t d = p) ∧ Int.tmod d r = p ∧ 0 ≤ p ∧ p ≤ 65535 := by
      have hv : modV r M t d = d % r := by rw [modV_yes HB2, HD0.out d d0 d1]; have := Int.mul_ediv_add_emod d r; omega
      refine ⟨d % r, hv, Int.tmod_eq_emod_of_nonneg d0, Int.emod_nonneg _ (by omega), ?_⟩
      have := Int.emod_lt_of_pos d (show 0 < r by omega)
      omega
    obtain ⟨l, e5, e6, l0, l1⟩ : ∃ l : Int, Hid (divV r M t 65535 = l) ∧ Int.tdiv 65535 r = l ∧ 0 ≤ l ∧ l ≤ 65535 :=
      ⟨_, rfl, by rw [divV_yes HB3, HD0.out 65535 (by omega) (by omega)]; exact Int.tdiv_eq_ediv_of_nonneg (by omega), by rw [divV_yes HB3, HD0.out 65535 (by omega) (by omega)]; exact Int.ediv_nonneg (by omega) (by omega), by rw [divV_yes HB3, HD0.out 65535 (by omega) (by omega)]; exact Int.ediv_le_self _ (by omega)⟩
    have D1 : ∀ W', Calls Try.prog 8 #[.agg #[.int .i64 r, .int .i64 M, .int .i64 t], .int .i64 d] W' fun e W'' => e = .returned (.tuple #[.int .i64 q, .bool true]) ∧ Below W'.heap.size W' W'' := fun W' => by have h := impl_div r M t d W'; rw [HB1, e1.out] at h; exact h
    have D2 : ∀ W', Calls Try.prog 9 #[.agg #[.int .i64 r, .int .i64 M, .int .i64 t], .int .i64 d] W' fun e W'' => e = .returned (.tuple #[.int .i64 p, .bool true]) ∧ Below W'.heap.size W' W'' := fun W' => by have h := impl_mod r M t d W'; rw [HB2, e3.out] at h; exact h
    have D3 : ∀ W', Calls Try.prog 8 #[.agg #[.int .i64 r, .int .i64 M, .int .i64 t], .int .i64 65535] W' fun e W'' => e = .returned (.tuple #[.int .i64 l, .bool true]) ∧ Below W'.heap.size W' W'' := fun W' => by have h := impl_div r M t 65535 W'; rw [HB3, e5.out] at h; exact h
    have P1 : ∀ W', Calls Try.prog 10 #[.agg #[.int .i64 r, .int .i64 M, .int .i64 t]] W' fun e W'' => e = .returned (.bool true) ∧ Below W'.heap.size W' W'' := fun W' => by have h := impl_good_b r M t W'; rw [HG0.out] at h; exact h
    clear HB1 HB2 HB3 e1 e3 e5
    refine (D1 _).mono ?_
    rintro e v5 ⟨rfl, hB⟩
    have M5 : Hid (Box3 v5 w3.heap.size r M t) := (M4.out.alloc _).below hB
    have V5 : Hid (Below w.heap.size w v5) := B4'.out.trans (hB.mono B4'.out.size)
    clear hB ml ma mb mc D1 M4
    have ml := M5.out.lt
    have ma := M5.out.c0
    have mb := M5.out.c1
    have mc := M5.out.c2
    go_wp2_with fail
    refine (D2 _).mono ?_
    rintro e v6 ⟨rfl, hB⟩
    have M6 : Hid (Box3 v6 w3.heap.size r M t) := M5.out.below hB
    have V6 : Hid (Below w.heap.size w v6) := V5.out.trans (hB.mono V5.out.size)
    clear hB ml ma mb mc D2 M5
    have ml := M6.out.lt
    have ma := M6.out.c0
    have mb := M6.out.c1
    have mc := M6.out.c2
    go_wp2_with fail
    refine (D3 _).mono ?_
    rintro e v7 ⟨rfl, hB⟩
    have M7 : Hid (Box3 v7 w3.heap.size r M t) := M6.out.below hB
    have V7 : Hid (Below w.heap.size w v7) := V6.out.trans (hB.mono V6.out.size)
    clear hB ml ma mb mc D3 M6
    have ml := M7.out.lt
    have ma := M7.out.c0
    have mb := M7.out.c1
    have mc := M7.out.c2
    go_upto_region 13 with fail
    go_cut [118] (fun v118 wx => v118 = .bool false ∧ Below w.heap.size w wx)
    case first =>
      go_wp2_with (go_at_call 10; refine (P1 _).mono ?_; rintro e w13 ⟨rfl, hG1⟩; have V13 : Hid (Below w.heap.size w w13) := V7.out.trans (hG1.mono V7.out.size); clear hG1)
      go_meet
      exact ⟨by simp, V13.out⟩
    obtain ⟨rfl, hB⟩ := hcut
    have B4 : Hid (Below w.heap.size w wc) := hB
    clear hB P1 ml ma mb mc M7 e2 e4 e6 q0 q1 p0 p1 l0 l1 d0 d1 k0 k1
    go_wp2_with fail
    refine (drawDiv_any (src_kept C1.out B4.out) hlen1).mono ?_
    rintro e w5 ⟨x, y, z, n, rfl, hB⟩
    have B5 : Hid (Below w.heap.size w w5) := B4.out.trans (hB.mono B4.out.size)
    clear hB
    go_wp2_with fail
    refine (impl_div x y z n _).mono ?_
    rintro e w6 ⟨rfl, hB⟩
    have X6 : Hid (Box3 w6 w5.heap.size x y z) := (box3_new w5 x y z _).below hB
    have B6 : Hid (Below w.heap.size w w6) := (B5.out.alloc B5.out.size _).trans (hB.mono (by have := B5.out.size; simp; omega))
    clear hB
    have xl := X6.out.lt
    have xa := X6.out.c0
    have xb := X6.out.c1
    have xc := X6.out.c2
    go_wp2_with fail
    refine (spec_div x y z n _).mono ?_
    rintro e w7 ⟨rfl, hB⟩
    have X7 : Hid (Box3 w7 w5.heap.size x y z) := X6.out.below hB
    have B7 : Hid (Below w.heap.size w w7) := B6.out.trans (hB.mono B6.out.size)
    clear hB xl xa xb xc X6
    have xl := X7.out.lt
    have xa := X7.out.c0
    have xb := X7.out.c1
    have xc := X7.out.c2
    go_wp2_with fail
    refine (impl_mod x y z n _).mono ?_
    rintro e w8 ⟨rfl, hB⟩
    have X8 : Hid (Box3 w8 w5.heap.size x y z) := X7.out.below hB
    have B8 : Hid (Below w.heap.size w w8) := B7.out.trans (hB.mono B7.out.size)
    clear hB xl xa xb xc X7
    have xl := X8.out.lt
    have xa := X8.out.c0
    have xb := X8.out.c1
    have xc := X8.out.c2
    go_wp2_with fail
    refine (spec_mod x y z n _).mono ?_
    rintro e w9 ⟨rfl, hB⟩
    have X9 : Hid (Box3 w9 w5.heap.size x y z) := X8.out.below hB
    have B9 : Hid (Below w.heap.size w w9) := B8.out.trans (hB.mono B8.out.size)
    clear hB xl xa xb xc X8
    have xl := X9.out.lt
    have xa := X9.out.c0
    have xb := X9.out.c1
    have xc := X9.out.c2
    go_wp2_with fail
    refine (drawSdiv_any (src_kept C1.out B9.out) hlen1).mono ?_
    rintro e w10 ⟨u, v, s, m, rfl, hB⟩
    have X10 : Hid (Box3 w10 w5.heap.size x y z) := X9.out.below hB
    have B10 : Hid (Below w.heap.size w w10) := B9.out.trans (hB.mono B9.out.size)
    clear hB xl xa xb xc X9
    go_wp2_with fail
    refine (impl_sdiv u v s m _).mono ?_
    rintro e w11 ⟨rfl, hB⟩
    have X11 : Hid (Box3 w11 w5.heap.size x y z) := (X10.out.alloc _).below hB
    have Y11 : Hid (Box3 w11 w10.heap.size u v s) := (box3_new w10 u v s _).below hB
    have B11 : Hid (Below w.heap.size w w11) := (B10.out.alloc B10.out.size _).trans (hB.mono (by have := B10.out.size; simp; omega))
    clear hB X10
    have xl := X11.out.lt
    have xa := X11.out.c0
    have xb := X11.out.c1
    have xc := X11.out.c2
    have yl := Y11.out.lt
    have ya := Y11.out.c0
    have yb := Y11.out.c1
    have yc := Y11.out.c2
    go_wp2_with fail
    refine (spec_sdiv u v s m _).mono ?_
    rintro e w12 ⟨rfl, hB⟩
    have X12 : Hid (Box3 w12 w5.heap.size x y z) := X11.out.below hB
    have B12 : Hid (Below w.heap.size w w12) := B11.out.trans (hB.mono B11.out.size)
    clear hB xl xa xb xc yl ya yb yc X11 Y11
    have xl := X12.out.lt
    have xa := X12.out.c0
    have xb := X12.out.c1
    have xc := X12.out.c2
    obtain ⟨Q, HQ⟩ : ∃ Q : Int, Hid (divV x y z n = Q) := ⟨_, rfl⟩
    obtain ⟨I, HI⟩ : ∃ I : Bool, Hid (divB x y z n = I) := ⟨_, rfl⟩
    obtain ⟨R, HR⟩ : ∃ R : Int, Hid (modV x y z n = R) := ⟨_, rfl⟩
    obtain ⟨J, HJ⟩ : ∃ J : Bool, Hid (modB x y z n = J) := ⟨_, rfl⟩
    obtain ⟨T, HT⟩ : ∃ T : Int, Hid (sdivV u v s m = T) := ⟨_, rfl⟩
    obtain ⟨K, HK⟩ : ∃ K : Bool, Hid (sdivB u v s m = K) := ⟨_, rfl⟩
    rw [HQ.out, HI.out, HR.out, HJ.out, HT.out, HK.out]
    obtain ⟨G, HG⟩ : ∃ G : Bool, Hid (goodB x y z = G) := ⟨_, rfl⟩
    have P1 : ∀ W', Calls Try.prog 10 #[.agg #[.int .i64 x, .int .i64 y, .int .i64 z]] W' fun e W'' => e = .returned (.bool G) ∧ Below W'.heap.size W' W'' := fun W' => by rw [← HG.out]; exact impl_good_b x y z W'
    have P2 : ∀ W', Calls Try.prog 17 #[.agg #[.int .i64 x, .int .i64 y, .int .i64 z]] W' fun e W'' => e = .returned (.bool G) ∧ Below W'.heap.size W' W'' := fun W' => by rw [← HG.out]; exact spec_good_b x y z W'
    go_upto_region 23 with fail
    go_cut [199] (fun v199 wx => v199 = .bool false ∧ Box3 wx w5.heap.size x y z ∧ Below w.heap.size w wx)
    case first =>
      go_region_held3 (fun w' => (w'.cell? ⟨w5.heap.size, 0, none⟩ = some (.int .i64 x) ∧ w'.cell? ⟨w5.heap.size, 1, none⟩ = some (.int .i64 y) ∧ w'.cell? ⟨w5.heap.size, 2, none⟩ = some (.int .i64 z)) ∧ Box3 w' w5.heap.size x y z ∧ Below w.heap.size w w')
        (first | exact ⟨⟨xa, xb, xc⟩, X12.out.drew, B12.out.drew⟩ | assumption | exact held_call (by assumption) hG1 | exact held_call (by assumption) hG2)
        (first | (go_at_call 10; refine (P1 _).mono ?_; rintro e w13 ⟨rfl, hG1⟩) | (go_at_call 17; refine (P2 _).mono ?_; rintro e w14 ⟨rfl, hG2⟩))
      rename_i hh
      go_wp2_with fail
      go_meet
      exact ⟨by simp, hh.2⟩
    obtain ⟨rfl, hX, hB⟩ := hcut
    have X15 : Hid (Box3 wc w5.heap.size x y z) := hX
    have B15 : Hid (Below w.heap.size w wc) := hB
    clear hX hB P1 P2 xl xa xb xc X12
    have xl := X15.out.lt
    have xa := X15.out.c0
    have xb := X15.out.c1
    have xc := X15.out.c2
    cases G
    · go_wp2_with fail
      refine (impl_right_no x y z _ HG.out).mono ?_
      rintro e w16 ⟨rfl, hB⟩
      have X16 : Hid (Box3 w16 w5.heap.size x y z) := X15.out.below hB
      have B16 : Hid (Below w.heap.size w w16) := B15.out.trans (hB.mono B15.out.size)
      clear hB xl xa xb xc X15
      have xl := X16.out.lt
      have xa := X16.out.c0
      have xb := X16.out.c1
      have xc := X16.out.c2
      go_wp2_with fail
      refine (spec_right_no x y z _ HG.out).mono ?_
      rintro e w17 ⟨rfl, hB⟩
      have X17 : Hid (Box3 w17 w5.heap.size x y z) := X16.out.below hB
      have B17 : Hid (Below w.heap.size w w17) := B16.out.trans (hB.mono B16.out.size)
      clear hB xl xa xb xc X16
      have xl := X17.out.lt
      have xa := X17.out.c0
      have xb := X17.out.c1
      have xc := X17.out.c2
      go_wp2
      go_ret
      exact ⟨rfl, B17.out⟩
    by_cases hRight : Right x y z
    · go_wp2_with fail
      refine (impl_right_yes x y z true _ HG.out (fun _ => hRight) (fun h => by cases h)).mono ?_
      rintro e w16 ⟨rfl, hB⟩
      have X16 : Hid (Box3 w16 w5.heap.size x y z) := X15.out.below hB
      have B16 : Hid (Below w.heap.size w w16) := B15.out.trans (hB.mono B15.out.size)
      clear hB xl xa xb xc X15
      have xl := X16.out.lt
      have xa := X16.out.c0
      have xb := X16.out.c1
      have xc := X16.out.c2
      go_wp2_with fail
      refine (spec_right_yes x y z true _ HG.out (fun _ => hRight) (fun h => by cases h)).mono ?_
      rintro e w17 ⟨rfl, hB⟩
      have X17 : Hid (Box3 w17 w5.heap.size x y z) := X16.out.below hB
      have B17 : Hid (Below w.heap.size w w17) := B16.out.trans (hB.mono B16.out.size)
      clear hB xl xa xb xc X16
      have xl := X17.out.lt
      have xa := X17.out.c0
      have xb := X17.out.c1
      have xc := X17.out.c2
      obtain ⟨g1, g2, _, _, _, _⟩ := good_out HG.out
      cases I
      · go_wp2
        go_ret
        exact ⟨rfl, B17.out⟩
      · obtain ⟨_, n0, n1⟩ := divB_out HI.out
        have e1 : Q = n / x := by rw [← HQ.out, divV_yes HI.out]; exact hRight n n0 n1
        have e2 : Int.tdiv n x = Q := by rw [e1]; exact Int.tdiv_eq_ediv_of_nonneg n0
        have q0 : 0 ≤ Q := by rw [e1]; exact Int.ediv_nonneg n0 (by omega)
        have q1 : Q ≤ 65535 := by rw [e1]; exact Int.le_trans (Int.ediv_le_self _ n0) n1
        clear hRight e1
        go_wp2
        go_ret
        exact ⟨rfl, B17.out⟩
    · have hNo : ∃ k : Int, 0 ≤ k ∧ k ≤ 65535 ∧ divW y z k ≠ k / x := by
        refine Classical.byContradiction fun hc => hRight fun k k0 k1 => ?_
        exact Classical.byContradiction fun hk => hc ⟨k, k0, k1, hk⟩
      go_wp2_with fail
      refine (impl_right_yes x y z false _ HG.out (fun h => by cases h) (fun _ => hNo)).mono ?_
      rintro e w16 ⟨rfl, hB⟩
      have X16 : Hid (Box3 w16 w5.heap.size x y z) := X15.out.below hB
      have B16 : Hid (Below w.heap.size w w16) := B15.out.trans (hB.mono B15.out.size)
      clear hB xl xa xb xc X15
      have xl := X16.out.lt
      have xa := X16.out.c0
      have xb := X16.out.c1
      have xc := X16.out.c2
      go_wp2_with fail
      refine (spec_right_yes x y z false _ HG.out (fun h => by cases h) (fun _ => hNo)).mono ?_
      rintro e w17 ⟨rfl, hB⟩
      have X17 : Hid (Box3 w17 w5.heap.size x y z) := X16.out.below hB
      have B17 : Hid (Below w.heap.size w w17) := B16.out.trans (hB.mono B16.out.size)
      clear hB xl xa xb xc X16
      have xl := X17.out.lt
      have xa := X17.out.c0
      have xb := X17.out.c1
      have xc := X17.out.c2
      go_wp2
      go_ret
      exact ⟨rfl, B17.out⟩

set_option maxRecDepth 100000 in
theorem lifted (os : Os) (started : os.Started) (H : Type) (enc : TypeId × Value → H) :
    ReturnsInHanded {} Try.checked os 3 .any (Rows.fnMagicSpec.pre6 enc Try.prog Try.f3 Rows.fnMagicRow.domain false) (Rows.fnMagicSpec.post enc Try.prog Try.f3 false true false false) := by
  refine returnsInHanded_of_change_sized (C := Try.checked) own started (by kernel_rfl) Try.func3
    (ChangeSpec.witness6 (enc := enc) (C := Try.checked) false ⟨#[], #[.slice none 0 0, .slice none 0 0], []⟩ 8 (by kernel_rfl) (by kernel_rfl) (by kernel_rfl) (by kernel_rfl)) ?_
  intro W base args ds gs before hval0 hW hcnd hsz0 _
  have hval : ∀ (j : Nat) t v, Try.f3.params[j]? = some t → args[j]? = some v → Value.okWide Try.prog W .any base t v := hval0
  have hW' := hW
  obtain ⟨p, q, hA0, hV, rfl, hfz, hnd⟩ := hW
  have hsz : (DataW.weightsEach Try.prog (Try.f3.params.toList ++ Rows.fnMagicSpec.plain.varTypes Try.prog) (ds ++ gs)).all (· ≤ reachBytes) = true := hsz0
  have hA : DataW.TrodAll enc Try.prog W 0 (fun _ => true) true Try.f3.params.toList args.toList ds p := hA0
  rw [Try.params3] at hA hval hsz
  obtain ⟨v0, vs0, d0, ds0, p0, q0, hargs, rfl, rfl, h0, r0⟩ := trodAll_cons hA
  obtain ⟨v1, vs1, d1, ds1, p1, q1, rfl, rfl, rfl, h1, r1⟩ := trodAll_cons r0
  obtain ⟨rfl, rfl, rfl⟩ := trodAll_nil r1
  obtain rfl : args = #[v0, v1] := by cases args; simp_all
  obtain ⟨rfl, rfl⟩ := trodVars_none hV
  obtain ⟨a0, len0, cap0, rfl⟩ := okWide_slice Try.underlying22 (hval 0 22 v0 rfl rfl)
  have k0 := h0
  have lt0 : ∀ x ∈ p0, x.block < W.heap.size := by obtain ⟨m, hm⟩ := k0; exact DataW.trod_lt m _ _ _ hm
  obtain ⟨z0, w0, b0⟩ : ∃ zs, IsRow .u8 W a0 len0 cap0 zs ∧ len0 ≤ 140737488351232 := by
    obtain ⟨fuel, hf⟩ := h0
    rcases open_ints Try.underlying22 Try.underlying5 (by kernel_rfl) hf with ⟨hcs, _⟩ | ⟨x, l, c, zs, hcs, _, hl, hm, hz, hx, hcell, hwz⟩
    · simp [Value.cells] at hcs
      obtain ⟨rfl, rfl, rfl⟩ := hcs
      exact ⟨[], .inl ⟨rfl, rfl, rfl, rfl⟩, by omega⟩
    · simp [Value.cells] at hcs
      obtain ⟨rfl, rfl, rfl⟩ := hcs
      have hz' : zs.length = cap0 := by simpa using hz
      have hd : d0 = .slice (lits .u8 (zs.take len0)) (lits .u8 (zs.drop len0)) := congrArg Prod.fst hx
      have hs := sized_slice hsz (j := 0) (t := 22) (e := 5) rfl (by rw [hd]; rfl) Try.underlying22
      rw [show Try.prog.bytesOf 5 = 1 by kernel_rfl] at hs
      simp only [lits, List.length_map, List.length_take, List.length_drop, reachBytes] at hs
      exact ⟨zs, .inr ⟨_, rfl, hl, hm, hz', hcell, hwz⟩, by omega⟩
  obtain ⟨a1, len1, cap1, rfl⟩ := okWide_slice Try.underlying22 (hval 1 22 v1 rfl rfl)
  have k1 := h1
  have lt1 : ∀ x ∈ p1, x.block < W.heap.size := by obtain ⟨m, hm⟩ := k1; exact DataW.trod_lt m _ _ _ hm
  obtain ⟨z1, w1, b1⟩ : ∃ zs, IsRow .u8 W a1 len1 cap1 zs ∧ len1 ≤ 140737488351232 := by
    obtain ⟨fuel, hf⟩ := h1
    rcases open_ints Try.underlying22 Try.underlying5 (by kernel_rfl) hf with ⟨hcs, _⟩ | ⟨x, l, c, zs, hcs, _, hl, hm, hz, hx, hcell, hwz⟩
    · simp [Value.cells] at hcs
      obtain ⟨rfl, rfl, rfl⟩ := hcs
      exact ⟨[], .inl ⟨rfl, rfl, rfl, rfl⟩, by omega⟩
    · simp [Value.cells] at hcs
      obtain ⟨rfl, rfl, rfl⟩ := hcs
      have hz' : zs.length = cap1 := by simpa using hz
      have hd : d1 = .slice (lits .u8 (zs.take len1)) (lits .u8 (zs.drop len1)) := congrArg Prod.fst hx
      have hs := sized_slice hsz (j := 1) (t := 22) (e := 5) rfl (by rw [hd]; rfl) Try.underlying22
      rw [show Try.prog.bytesOf 5 = 1 by kernel_rfl] at hs
      simp only [lits, List.length_map, List.length_take, List.length_drop, reachBytes] at hs
      exact ⟨zs, .inr ⟨_, rfl, hl, hm, hz', hcell, hwz⟩, by omega⟩
  clear hA0 hval0
  refine (walk a0 len0 cap0 z0 a1 len1 cap1 z1 W w0 b0 w1 b1).mono fun e W' ⟨he, bel⟩ => ?_
  subst he
  exact ⟨_, rfl, _, _, _, [], _, [], hW', trodAll_mk1 (shut_bool Try.underlying4 _), (trodAll_cons_mk (Below.trod laidOut (by kernel_rfl) (of_decide_eq_true (by kernel_rfl)) k0 bel lt0) (trodAll_cons_mk (Below.trod laidOut (by kernel_rfl) (of_decide_eq_true (by kernel_rfl)) k1 bel lt1) trodAll_mk0)), rfl, bel.frame _, fun h => by cases h⟩

theorem over : Rows.fnMagicRow.holds Try.pinned (OpenSpec.ofChange Rows.fnMagicSpec) :=
  OpenClaim.holds_of_wide 3 Try.f3 rfl rfl rfl rfl rfl rfl rfl ⟨rfl, rfl, rfl, rfl, rfl⟩ rfl rfl rfl rfl rfl (by kernel_rfl) Try.func3 (by kernel_rfl)
    (of_decide_eq_true (by kernel_rfl)) (by unfold Func.isWrapper; first | (rw [if_pos (by decide +kernel)]; kernel_rfl) | (rw [if_neg (by decide +kernel)]; exact ⟨rfl, rfl⟩))
    (fun os started H enc _ => lifted os started H enc)

theorem proved : Rows.FnMagicSaid :=
  over
#print axioms proved
end Go.Proofs.Ythfakhkoagdcjaa.fnMagic
