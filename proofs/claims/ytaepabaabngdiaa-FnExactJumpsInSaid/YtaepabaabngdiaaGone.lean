/-
  What StraightIn and JumpsIn answer, on both sides.
-/
import Derived.Test.YtaepabaabngdiaaProg
import Derived.Test.YtaepabaabngdiaaMagMath
import Derived.Test.YtaepabaabngdiaaEdgeMath
import Derived.Test.YtaepabaabngdiaaGoneMath
import Derived.Test.YtaepabaabngdiaaEdgeSpec
import Derived.Test.YtaepabaabngdiaaEdgeImpl
import Derived.Test.YtaepabaabngdiaaGoodImpl
import Derived.Test.YtaepabaabngdiaaInts
import Derived.Test.YtaepabaabngdiaaRecsEdge
import Derived.WalkKit
import Derived.WalkSpells
import Derived.Below
import Derived.Handy
import Derived.Deep.OwnRows
import Derived.Deep.RegionWith
import Derived.Deep.QuietTactic
import Derived.BigQuiet
namespace Go.Proofs.Ytaepabaabngdiaa.walks
open Go.RowKit Go.Proofs.Ytaepabaabngdiaa.math Go.Proofs.Ytaepabaabngdiaa.ints
set_option linter.unusedVariables false
set_option maxRecDepth 100000

set_option maxHeartbeats 4000000 in
theorem spec_straight (a a2 : Option Addr) (len cap len2 cap2 : Nat) (u : Int) (z zs : List Int) (W : World) (hz : Hid (z.length = len * 3)) (hn : len ≤ 20) (hok : Hid (∀ k, k < len → EdgeOk z u k)) (hz2 : Hid (zs.length = len2)) (hl2 : len2 ≤ 8) (h : Hid (Ints W a z)) (h2 : Hid (Ints W a2 zs)) :
    Calls Try.prog 45 #[.slice a len cap, .slice a2 len2 cap2] W fun e W' => e = .returned (.tuple #[.int .i64 (strTo z zs len), .int .i64 (jmpTo z zs len)]) ∧ Below W.heap.size W W' := by
  have hnI : (len : Int) ≤ 20 := by omega
  have hl2I : (len2 : Int) ≤ 8 := by omega
  go_enter Try.func45, Try.ntmps45
  go_wp2
  go_loopw [6, 7, 14] (fun vs vj vi wr => ∃ k : Nat, k ≤ len ∧ vi = .int .i64 k ∧ vs = .int .i64 (strTo z zs k) ∧ vj = .int .i64 (jmpTo z zs k) ∧ Hid (Below W.heap.size W wr)) (fun _ _ vi _ => len - (intOf vi).toNat)
  case atStart => exact ⟨0, Nat.zero_le _, rfl, rfl, rfl, Below.refl _ _⟩
  case round =>
    obtain ⟨k, hk, rfl, rfl, rfl, HB⟩ := hrel
    by_cases hlt : k < len
    rotate_left
    · have HE : Hid (k = len) := by show k = len; omega
      go_wp2
      go_ret2
      exact ⟨by rw [HE.out]; rfl, HB.out⟩
    have hltI : (k : Int) < (len : Int) := by omega
    obtain ⟨⟨s0, s1⟩, ⟨j0, j1⟩⟩ := gone_le (zs := zs) hok.out k (by omega)
    obtain ⟨b, off, x, y, c, ha, hb, c0, c1, c2, HX, HY, HC⟩ := edge_at h.out hz.out HB.out hlt
    have HSY : Hid (onTo zs x y (len2 - 1) = true → strTo z zs (k + 1) = strTo z zs k + c ∧ jmpTo z zs (k + 1) = jmpTo z zs k) := fun q => by rw [← HC.out]; exact str_yes (by rw [HX.out, HY.out, hz2.out]; exact q)
    have HSN : Hid (onTo zs x y (len2 - 1) = false → strTo z zs (k + 1) = strTo z zs k ∧ jmpTo z zs (k + 1) = jmpTo z zs k + c) := fun q => by rw [← HC.out]; exact str_no (by rw [HX.out, HY.out, hz2.out]; exact q)
    have hcb := (hok.out k hlt).2.2.1
    rw [HC.out] at hcb
    obtain ⟨hc0, hc1⟩ := hcb
    obtain ⟨S, HS⟩ : ∃ S, Hid (strTo z zs k = S) := ⟨_, rfl⟩
    obtain ⟨J, HJ⟩ : ∃ J, Hid (jmpTo z zs k = J) := ⟨_, rfl⟩
    rw [HS.out] at s0 s1 HSY HSN ⊢
    rw [HJ.out] at j0 j1 HSY HSN ⊢
    have s1' : S ≤ 2000000 := by omega
    have j1' : J ≤ 2000000 := by omega
    clear s1 j1
    subst ha
    have hbw : b < wr.heap.size := by have := HB.out.size; omega
    obtain ⟨X, hX⟩ : ∃ X, Hid (wr.alloc (.cells #[.int .i64 x, .int .i64 y, .int .i64 c] 46) = X) := ⟨_, rfl⟩
    have HBX : Hid (Below wr.heap.size wr X) := by show Below _ _ _; rw [← hX.out]; repeat (first | exact Below.refl _ _ | refine Below.drew ?_ | refine Below.setCell ?_ (by simp; try omega) _ | refine Below.alloc ?_ (by simp; try omega) _)
    have e0 : X.cell? ⟨wr.heap.size, 0, none⟩ = some (.int .i64 x) := by rw [← hX.out]; go_simp
    have e1 : X.cell? ⟨wr.heap.size, 1, none⟩ = some (.int .i64 y) := by rw [← hX.out]; go_simp
    have e2 : X.cell? ⟨wr.heap.size, 2, none⟩ = some (.int .i64 c) := by rw [← hX.out]; go_simp
    have hXs : wr.heap.size < X.heap.size := by rw [← hX.out]; simp
    go_wp2
    rw [hX.out]
    clear c0 c1 c2 hX
    obtain ⟨wo, hwo⟩ : ∃ wo, wo = wr := ⟨_, rfl⟩
    subst hwo
    go_loopw [10, 11] (fun vo vi wi => ∃ j : Nat, j ≤ len2 - 1 ∧ vi = .int .i64 ((j : Int) + 1) ∧ vo = .bool (onTo zs x y j) ∧ Hid (Below X.heap.size X wi)) (fun _ vi _ => len2 + 1 - (intOf vi).toNat)
    case atStart => exact ⟨0, Nat.zero_le _, rfl, rfl, Below.refl _ _⟩
    case round =>
      obtain ⟨j, hj, rfl, rfl, HB2⟩ := hrel
      have HB3 : Hid (Below W.heap.size W wr) := HB.out.trans ((HBX.out.trans (HB2.out.mono (by omega))).mono HB.out.size)
      have e0 : wr.cell? ⟨wo.heap.size, 0, none⟩ = some (.int .i64 x) := (HB2.out.cell (p := ⟨wo.heap.size, 0, none⟩) hXs).trans e0
      have e1 : wr.cell? ⟨wo.heap.size, 1, none⟩ = some (.int .i64 y) := (HB2.out.cell (p := ⟨wo.heap.size, 1, none⟩) hXs).trans e1
      have e2 : wr.cell? ⟨wo.heap.size, 2, none⟩ = some (.int .i64 c) := (HB2.out.cell (p := ⟨wo.heap.size, 2, none⟩) hXs).trans e2
      by_cases hjl : j + 1 < len2
      rotate_left
      · have hjE : Hid (j = len2 - 1) := by show j = _; omega
        have hjI : ((len2 : Nat) : Int) ≤ (j : Int) + 1 := by omega
        cases hq : onTo zs x y j
        · obtain ⟨q1, q2⟩ := HSN.out (by rw [← hjE.out]; exact hq)
          have Q1 : Hid (strTo z zs (k + 1) = S) := q1
          have Q2 : Hid (jmpTo z zs (k + 1) = J + c) := q2
          clear q1 q2 HSN HSY
          go_wp2
          go_roundw
          case rel => exact ⟨k + 1, by omega, by go_num, by rw [Q1.out], by rw [Q2.out], HB3⟩
          case measure => simp [intOf]; omega
        · obtain ⟨q1, q2⟩ := HSY.out (by rw [← hjE.out]; exact hq)
          have Q1 : Hid (strTo z zs (k + 1) = S + c) := q1
          have Q2 : Hid (jmpTo z zs (k + 1) = J) := q2
          clear q1 q2 HSN HSY
          go_wp2
          go_roundw
          case rel => exact ⟨k + 1, by omega, by go_num, by rw [Q1.out], by rw [Q2.out], HB3⟩
          case measure => simp [intOf]; omega
      have hjI : (j : Int) + 1 < (len2 : Int) := by omega
      obtain ⟨b1, o1, ha1, g1⟩ := h2.out.at HB3.out (k := j) (by rw [hz2.out]; omega)
      obtain ⟨b2, o2, ha2, g2⟩ := h2.out.at HB3.out (k := j + 1) (by rw [hz2.out]; omega)
      subst ha1
      obtain ⟨rfl, rfl⟩ : b1 = b2 ∧ o1 = o2 := by simpa using ha2
      have HNX : Hid (onTo zs x y (j + 1) = (onTo zs x y j || (decide (zs.getD j 0 = x) && decide (zs.getD (j + 1) 0 = y)))) := rfl
      obtain ⟨p, HP⟩ : ∃ p, Hid (zs.getD j 0 = p) := ⟨_, rfl⟩
      obtain ⟨q, HQ⟩ : ∃ q, Hid (zs.getD (j + 1) 0 = q) := ⟨_, rfl⟩
      rw [HP.out] at g1 HNX
      rw [HQ.out] at g2 HNX
      have ej : (j : Int) + 1 - 1 = (j : Int) := by omega
      cases hq : onTo zs x y j
      rotate_left
      · rw [hq] at HNX
        have HN : Hid (onTo zs x y (j + 1) = true) := HNX.out
        go_wp2_with fail
        go_quiet (fail)
        go_wp2
        go_roundw
        case rel => exact ⟨j + 1, by omega, by go_num, by rw [HN.out], belowN HB2.out _⟩
        case measure => simp [intOf]; omega
      by_cases ep : p = x
      · by_cases eq : q = y
        · have HN : Hid (onTo zs x y (j + 1) = true) := by show _ = _; rw [HNX.out, hq, decide_eq_true ep, decide_eq_true eq]; rfl
          clear HNX
          subst ep eq
          go_wp2_with fail
          go_quiet (fail)
          go_wp2
          go_roundw
          case rel => exact ⟨j + 1, by omega, by go_num, by rw [HN.out], belowN HB2.out _⟩
          case measure => simp [intOf]; omega
        · have HN : Hid (onTo zs x y (j + 1) = false) := by show _ = _; rw [HNX.out, hq, decide_eq_false eq]; simp
          have f1 : (q == y) = false := by simpa using eq
          have f2 : decide (q = y) = false := decide_eq_false eq
          clear HNX
          subst ep
          go_wp2_with fail
          go_quiet (fail)
          go_wp2
          go_roundw
          case rel => exact ⟨j + 1, by omega, by go_num, by rw [HN.out], belowN HB2.out _⟩
          case measure => simp [intOf]; omega
      · have HN : Hid (onTo zs x y (j + 1) = false) := by show _ = _; rw [HNX.out, hq, decide_eq_false ep]; simp
        have f1 : (p == x) = false := by simpa using ep
        have f2 : decide (p = x) = false := decide_eq_false ep
        clear HNX
        go_wp2_with fail
        go_quiet (fail)
        go_wp2
        go_roundw
        case rel => exact ⟨j + 1, by omega, by go_num, by rw [HN.out], belowN HB2.out _⟩
        case measure => simp [intOf]; omega
set_option maxHeartbeats 4000000 in
theorem spec_straightin (a a2 : Option Addr) (len cap len2 cap2 : Nat) (u : Int) (z zs : List Int) (W : World) (hz : Hid (z.length = len * 3)) (hlen : len ≤ 1048576) (hcap : len ≤ cap) (hcm : cap ≤ 1048576) (hz2 : Hid (zs.length = len2)) (hlen2 : len2 ≤ 1048576) (hcap2 : len2 ≤ cap2) (hcm2 : cap2 ≤ 1048576) (h : Hid (Ints W a z)) (h2 : Hid (Ints W a2 zs)) :
    Calls Try.prog 25 #[.int .i64 u, .slice a len cap, .slice a2 len2 cap2] W fun e W' => e = .returned (.tuple #[.int .i64 (strV z zs u len), .bool (okG z zs u len)]) ∧ Below W.heap.size W W' := by
  cases he : edgesB z u len
  · have HO : Hid (okG z zs u len = false) := by show _ = _; unfold okG; rw [he]; rfl
    have HV : Hid (strV z zs u len = 0) := by show _ = _; unfold strV; rw [HO.out]; rfl
    go_enter Try.func25, Try.ntmps25
    go_wp2_with fail
    have hc := spec_edges a len cap u z W hz hlen hcap hcm h
    rw [he] at hc
    refine hc.mono ?_
    rintro e w1 ⟨rfl, hB⟩
    have B1 : Hid (Below W.heap.size W w1) := hB
    clear hB hc
    go_wp2
    go_ret2
    exact ⟨by rw [HO.out, HV.out]; rfl, B1.out⟩
  cases hl : layB zs u
  · have HO : Hid (okG z zs u len = false) := by show _ = _; unfold okG; rw [hl]; simp
    have HV : Hid (strV z zs u len = 0) := by show _ = _; unfold strV; rw [HO.out]; rfl
    go_enter Try.func25, Try.ntmps25
    go_wp2_with fail
    have hc := spec_edges a len cap u z W hz hlen hcap hcm h
    rw [he] at hc
    refine hc.mono ?_
    rintro e w1 ⟨rfl, hB⟩
    have B1 : Hid (Below W.heap.size W w1) := hB
    clear hB hc
    go_wp2_with fail
    have hc := spec_islay a2 len2 cap2 u zs w1 hz2 hlen2 hcap2 hcm2 (h2.out.kept B1.out)
    rw [hl] at hc
    refine hc.mono ?_
    rintro e w2 ⟨rfl, hw⟩
    rw [hw]
    clear hw w2 hc
    go_wp2
    go_ret2
    exact ⟨by rw [HO.out, HV.out]; rfl, B1.out⟩
  have HO : Hid (okG z zs u len = true) := by show _ = _; unfold okG; rw [he, hl]; rfl
  have HV : Hid (strV z zs u len = strTo z zs len) := by show _ = _; unfold strV; rw [HO.out]; rfl
  obtain ⟨_, hu1, hn, hok⟩ := edges_out he
  have HOK : Hid (∀ k, k < len → EdgeOk z u k) := hok
  have hl8 : len2 ≤ 8 := by have q := (order_out (lay_out hl).2.2.1).1; rw [hz2.out] at q; omega
  clear hok
  obtain ⟨S, HS⟩ : ∃ S, Hid (strTo z zs len = S) := ⟨_, rfl⟩
  obtain ⟨J, HJ⟩ : ∃ J, Hid (jmpTo z zs len = J) := ⟨_, rfl⟩
  go_enter Try.func25, Try.ntmps25
  go_wp2_with fail
  have hc := spec_edges a len cap u z W hz hlen hcap hcm h
  rw [he] at hc
  refine hc.mono ?_
  rintro e w1 ⟨rfl, hB⟩
  have B1 : Hid (Below W.heap.size W w1) := hB
  clear hB hc
  go_wp2_with fail
  have hc := spec_islay a2 len2 cap2 u zs w1 hz2 hlen2 hcap2 hcm2 (h2.out.kept B1.out)
  rw [hl] at hc
  refine hc.mono ?_
  rintro e w2 ⟨rfl, hw⟩
  rw [hw]
  clear hw w2 hc
  go_wp2_with fail
  refine (spec_straight a a2 len cap len2 cap2 u z zs w1 hz hn HOK hz2 hl8 (h.out.kept B1.out) (h2.out.kept B1.out)).mono ?_
  rw [HS.out, HJ.out]
  rintro e w3 ⟨rfl, hB⟩
  have B3 : Hid (Below W.heap.size W w3) := B1.out.trans (hB.mono B1.out.size)
  clear hB
  go_wp2
  go_ret2
  exact ⟨by rw [HO.out, HV.out, HS.out]; rfl, B3.out⟩
set_option maxHeartbeats 4000000 in
theorem spec_jumpsin (a a2 : Option Addr) (len cap len2 cap2 : Nat) (u : Int) (z zs : List Int) (W : World) (hz : Hid (z.length = len * 3)) (hlen : len ≤ 1048576) (hcap : len ≤ cap) (hcm : cap ≤ 1048576) (hz2 : Hid (zs.length = len2)) (hlen2 : len2 ≤ 1048576) (hcap2 : len2 ≤ cap2) (hcm2 : cap2 ≤ 1048576) (h : Hid (Ints W a z)) (h2 : Hid (Ints W a2 zs)) :
    Calls Try.prog 28 #[.int .i64 u, .slice a len cap, .slice a2 len2 cap2] W fun e W' => e = .returned (.tuple #[.int .i64 (jmpV z zs u len), .bool (okG z zs u len)]) ∧ Below W.heap.size W W' := by
  cases he : edgesB z u len
  · have HO : Hid (okG z zs u len = false) := by show _ = _; unfold okG; rw [he]; rfl
    have HV : Hid (jmpV z zs u len = 0) := by show _ = _; unfold jmpV; rw [HO.out]; rfl
    go_enter Try.func28, Try.ntmps28
    go_wp2_with fail
    have hc := spec_edges a len cap u z W hz hlen hcap hcm h
    rw [he] at hc
    refine hc.mono ?_
    rintro e w1 ⟨rfl, hB⟩
    have B1 : Hid (Below W.heap.size W w1) := hB
    clear hB hc
    go_wp2
    go_ret2
    exact ⟨by rw [HO.out, HV.out]; rfl, B1.out⟩
  cases hl : layB zs u
  · have HO : Hid (okG z zs u len = false) := by show _ = _; unfold okG; rw [hl]; simp
    have HV : Hid (jmpV z zs u len = 0) := by show _ = _; unfold jmpV; rw [HO.out]; rfl
    go_enter Try.func28, Try.ntmps28
    go_wp2_with fail
    have hc := spec_edges a len cap u z W hz hlen hcap hcm h
    rw [he] at hc
    refine hc.mono ?_
    rintro e w1 ⟨rfl, hB⟩
    have B1 : Hid (Below W.heap.size W w1) := hB
    clear hB hc
    go_wp2_with fail
    have hc := spec_islay a2 len2 cap2 u zs w1 hz2 hlen2 hcap2 hcm2 (h2.out.kept B1.out)
    rw [hl] at hc
    refine hc.mono ?_
    rintro e w2 ⟨rfl, hw⟩
    rw [hw]
    clear hw w2 hc
    go_wp2
    go_ret2
    exact ⟨by rw [HO.out, HV.out]; rfl, B1.out⟩
  have HO : Hid (okG z zs u len = true) := by show _ = _; unfold okG; rw [he, hl]; rfl
  have HV : Hid (jmpV z zs u len = jmpTo z zs len) := by show _ = _; unfold jmpV; rw [HO.out]; rfl
  obtain ⟨_, hu1, hn, hok⟩ := edges_out he
  have HOK : Hid (∀ k, k < len → EdgeOk z u k) := hok
  have hl8 : len2 ≤ 8 := by have q := (order_out (lay_out hl).2.2.1).1; rw [hz2.out] at q; omega
  clear hok
  obtain ⟨S, HS⟩ : ∃ S, Hid (strTo z zs len = S) := ⟨_, rfl⟩
  obtain ⟨J, HJ⟩ : ∃ J, Hid (jmpTo z zs len = J) := ⟨_, rfl⟩
  go_enter Try.func28, Try.ntmps28
  go_wp2_with fail
  have hc := spec_edges a len cap u z W hz hlen hcap hcm h
  rw [he] at hc
  refine hc.mono ?_
  rintro e w1 ⟨rfl, hB⟩
  have B1 : Hid (Below W.heap.size W w1) := hB
  clear hB hc
  go_wp2_with fail
  have hc := spec_islay a2 len2 cap2 u zs w1 hz2 hlen2 hcap2 hcm2 (h2.out.kept B1.out)
  rw [hl] at hc
  refine hc.mono ?_
  rintro e w2 ⟨rfl, hw⟩
  rw [hw]
  clear hw w2 hc
  go_wp2_with fail
  refine (spec_straight a a2 len cap len2 cap2 u z zs w1 hz hn HOK hz2 hl8 (h.out.kept B1.out) (h2.out.kept B1.out)).mono ?_
  rw [HS.out, HJ.out]
  rintro e w3 ⟨rfl, hB⟩
  have B3 : Hid (Below W.heap.size W w3) := B1.out.trans (hB.mono B1.out.size)
  clear hB
  go_wp2
  go_ret2
  exact ⟨by rw [HO.out, HV.out, HJ.out]; rfl, B3.out⟩
/-- A list of ints that was made: placesIn. -/
theorem impl_places (a : Option Addr) (len cap : Nat) (zs : List Int) (W : World) (hz : Hid (zs.length = len)) (hl8 : len ≤ 8) (ho : Hid (orderB zs (len : Int) = true)) (h : Hid (Ints W a zs)) :
    Calls Try.prog 58 #[.slice a len cap] W fun e W' => ∃ b, e = .returned (.slice (some ⟨b, 0, none⟩) len len) ∧ W'.rowIs b 3 len (fun i => .int .i64 (plcTo zs len (i : Int))) ∧ W.heap.size ≤ b ∧ Below W.heap.size W W' := by
  have hmk := run_make_row' (P := Try.prog) 35 3 (.int .i64 0) 8 Try.underlying35 row_info rfl .i64 .i64 len (by omega) (by omega)
  go_enter Try.func58, Try.ntmps58
  go_wp2
  clear hmk
  go_loopw [11] (fun vi wr => ∃ k : Nat, k ≤ len ∧ vi = .int .i64 k ∧ Hid (wr.rowIs W.heap.size 3 len (fun j => .int .i64 (plcTo zs k (j : Int)))) ∧ Hid (Below W.heap.size W wr)) (fun vi _ => len - (intOf vi).toNat)
  case atStart =>
    refine ⟨0, Nat.zero_le _, rfl, ?_, ?_⟩
    · show World.rowIs _ _ _ _ _
      exact (World.rowIs_made W (.int .i64 0) len 3).congr (fun i hi => by simp [plcTo])
    · show Below _ _ _
      go_grown
  case round =>
    obtain ⟨k, hk, rfl, HC, HB⟩ := hrel
    by_cases hlt : k < len
    rotate_left
    · have HE : Hid (k = len) := by show k = len; omega
      rw [HE.out] at HC
      go_wp2
      go_ret
      exact ⟨W.heap.size, rfl, HC.out, Nat.le_refl _, HB.out⟩
    have hltI : (k : Int) < (len : Int) := by omega
    obtain ⟨b, off, ha, hc⟩ := h.out.at HB.out (k := k) (by rw [hz.out]; exact hlt)
    obtain ⟨x0, x1, _⟩ := (order_out ho.out).2 k (by rw [hz.out]; exact hlt)
    have HST : Hid (∀ i, plcTo zs (k + 1) i = if zs.getD k 0 = i then (k : Int) else plcTo zs k i) := fun i => rfl
    obtain ⟨x, hx⟩ : ∃ x, Hid (zs.getD k 0 = x) := ⟨_, rfl⟩
    rw [hx.out] at hc x0 x1 HST
    obtain ⟨m, rfl⟩ : ∃ m : Nat, x = (m : Int) := ⟨x.toNat, by omega⟩
    have hm : m < len := by omega
    have hmI : (m : Int) < (len : Int) := by omega
    have t0 := HC.out.cell hm
    have t1 := HC.out.frozen m
    subst ha
    go_wp2
    go_roundw
    case rel =>
      refine ⟨k + 1, by omega, by go_num, ?_, ?_⟩
      · show World.rowIs _ _ _ _ _
        refine (HC.out.set m _).congr ?_
        intro j hj
        rw [HST.out]
        by_cases e : j = m
        · subst e; simp
        · rw [if_neg e, if_neg (by omega)]
      · show Below _ _ _
        exact HB.out.setCell (Nat.le_refl _) _
    case measure => simp [intOf]; omega
/-- What goneIn answers. -/
def GoneAns (z zs : List Int) (u : Int) (n : Nat) (W : World) (e : Ending) (W' : World) : Prop := e = .returned (.tuple #[.int .i64 (strV z zs u n), .int .i64 (jmpV z zs u n), .bool (okG z zs u n)]) ∧ Below W.heap.size W W'
set_option maxHeartbeats 4000000 in
theorem impl_gone (a a2 : Option Addr) (len cap len2 cap2 : Nat) (u : Int) (z zs : List Int) (W : World) (hz : Hid (z.length = len * 3)) (hlen : len ≤ 1048576) (hz2 : Hid (zs.length = len2)) (hlen2 : len2 ≤ 1048576) (h : Hid (Ints W a z)) (h2 : Hid (Ints W a2 zs)) :
    Calls Try.prog 46 #[.int .i64 u, .slice a len cap, .slice a2 len2 cap2] W (GoneAns z zs u len W) := by
  cases he : edgesB z u len
  · have HO : Hid (okG z zs u len = false) := by show _ = _; unfold okG; rw [he]; rfl
    have HA : Hid (∀ W', Below W.heap.size W W' → GoneAns z zs u len W (.returned (.tuple #[.int .i64 0, .int .i64 0, .bool false])) W') := fun W' hB => ⟨by unfold strV jmpV; rw [HO.out]; rfl, hB⟩
    go_enter Try.func46, Try.ntmps46
    go_wp2_with fail
    have hc := impl_edges a len cap u z W hz hlen h
    rw [he] at hc
    refine hc.mono ?_
    rintro e w1 ⟨rfl, hB⟩
    have B1 : Hid (Below W.heap.size W w1) := hB
    clear hB hc
    go_wp2
    go_ret3
    exact HA.out _ B1.out
  cases hl : layB zs u
  · have HO : Hid (okG z zs u len = false) := by show _ = _; unfold okG; rw [hl]; simp
    have HA : Hid (∀ W', Below W.heap.size W W' → GoneAns z zs u len W (.returned (.tuple #[.int .i64 0, .int .i64 0, .bool false])) W') := fun W' hB => ⟨by unfold strV jmpV; rw [HO.out]; rfl, hB⟩
    go_enter Try.func46, Try.ntmps46
    go_wp2_with fail
    have hc := impl_edges a len cap u z W hz hlen h
    rw [he] at hc
    refine hc.mono ?_
    rintro e w1 ⟨rfl, hB⟩
    have B1 : Hid (Below W.heap.size W w1) := hB
    clear hB hc
    go_wp2_with fail
    have hc := impl_islay a2 len2 cap2 u zs w1 hz2 hlen2 (h2.out.kept B1.out)
    rw [hl] at hc
    refine hc.mono ?_
    rintro e w2 ⟨rfl, hB⟩
    have B2 : Hid (Below W.heap.size W w2) := B1.out.trans (hB.mono B1.out.size)
    clear hB hc
    go_wp2
    go_ret3
    exact HA.out _ B2.out
  have HO : Hid (okG z zs u len = true) := by show _ = _; unfold okG; rw [he, hl]; rfl
  have HA : Hid (∀ W', Below W.heap.size W W' → GoneAns z zs u len W (.returned (.tuple #[.int .i64 (strTo z zs len), .int .i64 (jmpTo z zs len), .bool true])) W') := fun W' hB => ⟨by unfold strV jmpV; rw [HO.out]; rfl, hB⟩
  obtain ⟨_, hu1, hn, hok⟩ := edges_out he
  have HOK : Hid (∀ k, k < len → EdgeOk z u k) := hok
  have hor := (lay_out hl).2.2.1
  have hlu : (len2 : Int) = u := by have q := (order_out hor).1; rw [hz2.out] at q; exact q
  have hl8 : len2 ≤ 8 := by omega
  have HOR : Hid (orderB zs (len2 : Int) = true) := by show _ = _; rw [hlu]; exact hor
  have HON : Hid (∀ k, k < len → decide (plcTo zs len2 (toE z k) = plcTo zs len2 (frE z k) + 1) = onTo zs (frE z k) (toE z k) (zs.length - 1)) := fun k hk => by
    obtain ⟨⟨r0, r1⟩, ⟨r2, r3⟩, _⟩ := hok k hk
    have := plc_on hor r0 r1 r2 r3
    rw [hz2.out] at this ⊢
    exact this
  have HU : Hid (∀ k, k < len → (0 ≤ frE z k ∧ frE z k < (len2 : Int)) ∧ (0 ≤ toE z k ∧ toE z k < (len2 : Int)) ∧ (0 ≤ ctE z k ∧ ctE z k ≤ 100000)) := fun k hk => by
    obtain ⟨r1, r2, r3, _⟩ := hok k hk
    rw [hlu]; exact ⟨r1, r2, r3⟩
  clear hok hor
  have hnI : (len : Int) ≤ 20 := by omega
  go_enter Try.func46, Try.ntmps46
  go_wp2_with fail
  have hc := impl_edges a len cap u z W hz hlen h
  rw [he] at hc
  refine hc.mono ?_
  rintro e w1 ⟨rfl, hB⟩
  have B1 : Hid (Below W.heap.size W w1) := hB
  clear hB hc
  go_wp2_with fail
  have hc := impl_islay a2 len2 cap2 u zs w1 hz2 hlen2 (h2.out.kept B1.out)
  rw [hl] at hc
  refine hc.mono ?_
  rintro e w2 ⟨rfl, hB⟩
  have B2 : Hid (Below W.heap.size W w2) := B1.out.trans (hB.mono B1.out.size)
  clear hB hc
  go_wp2_with fail
  refine (impl_places a2 len2 cap2 zs w2 hz2 hl8 HOR (h2.out.kept B2.out)).mono ?_
  rintro e w3 ⟨pb, rfl, hR, hpb, hB⟩
  have HR : Hid (w3.rowIs pb 3 len2 (fun i => .int .i64 (plcTo zs len2 (i : Int)))) := hR
  have B3 : Hid (Below W.heap.size W w3) := B2.out.trans (hB.mono B2.out.size)
  clear hB hR hlu
  go_wp2
  go_loopw [10, 11, 28] (fun vs vj vi wr => ∃ k : Nat, k ≤ len ∧ vi = .int .i64 k ∧ vs = .int .i64 (strTo z zs k) ∧ vj = .int .i64 (jmpTo z zs k) ∧ Hid (Below w3.heap.size w3 wr)) (fun _ _ vi _ => len - (intOf vi).toNat)
  case atStart => exact ⟨0, Nat.zero_le _, rfl, rfl, rfl, Below.refl _ _⟩
  case round =>
    obtain ⟨k, hk, rfl, rfl, rfl, HB⟩ := hrel
    have HBW : Hid (Below W.heap.size W wr) := B3.out.trans (HB.out.mono B3.out.size)
    by_cases hlt : k < len
    rotate_left
    · have HE : Hid (k = len) := by show k = len; omega
      have HA2 : Hid (GoneAns z zs u len W (.returned (.tuple #[.int .i64 (strTo z zs k), .int .i64 (jmpTo z zs k), .bool true])) wr) := by
        show GoneAns _ _ _ _ _ _ _
        rw [HE.out]
        exact HA.out _ HBW.out
      go_wp2
      go_ret3
      exact HA2.out
    have hltI : (k : Int) < (len : Int) := by omega
    obtain ⟨⟨s0, s1⟩, ⟨j0, j1⟩⟩ := gone_le (zs := zs) HOK.out k (by omega)
    obtain ⟨b, off, x, y, c, ha, hb, c0, c1, c2, HX, HY, HC⟩ := edge_at h.out hz.out HBW.out hlt
    have HSY : Hid (onTo zs x y (zs.length - 1) = true → strTo z zs (k + 1) = strTo z zs k + c ∧ jmpTo z zs (k + 1) = jmpTo z zs k) := fun q => by rw [← HC.out]; exact str_yes (by rw [HX.out, HY.out]; exact q)
    have HSN : Hid (onTo zs x y (zs.length - 1) = false → strTo z zs (k + 1) = strTo z zs k ∧ jmpTo z zs (k + 1) = jmpTo z zs k + c) := fun q => by rw [← HC.out]; exact str_no (by rw [HX.out, HY.out]; exact q)
    have hon := HON.out k hlt
    obtain ⟨⟨x0, x1⟩, ⟨y0, y1⟩, ⟨hc0, hc1⟩⟩ := HU.out k hlt
    rw [HX.out] at x0 x1 hon
    rw [HY.out] at y0 y1 hon
    rw [HC.out] at hc0 hc1
    obtain ⟨S, HS⟩ : ∃ S, Hid (strTo z zs k = S) := ⟨_, rfl⟩
    obtain ⟨J, HJ⟩ : ∃ J, Hid (jmpTo z zs k = J) := ⟨_, rfl⟩
    rw [HS.out] at s0 s1 HSY HSN ⊢
    rw [HJ.out] at j0 j1 HSY HSN ⊢
    have s1' : S ≤ 2000000 := by omega
    have j1' : J ≤ 2000000 := by omega
    clear s1 j1
    obtain ⟨m, hmx⟩ : ∃ m : Nat, x = (m : Int) := ⟨x.toNat, by omega⟩
    obtain ⟨l, hly⟩ : ∃ l : Nat, y = (l : Int) := ⟨y.toNat, by omega⟩
    subst hmx hly
    have hm8 : m < len2 := by omega
    have hl8 : l < len2 := by omega
    have hpw : pb < w3.heap.size := HR.out.lt
    have p0 : wr.cell? ⟨pb, m, none⟩ = some (.int .i64 (plcTo zs len2 (m : Int))) := (HB.out.cell (p := ⟨pb, m, none⟩) hpw).trans (HR.out.cell hm8)
    have p1 : wr.cell? ⟨pb, l, none⟩ = some (.int .i64 (plcTo zs len2 (l : Int))) := (HB.out.cell (p := ⟨pb, l, none⟩) hpw).trans (HR.out.cell hl8)
    have m0 := plc_le (zs := zs) (b := (m : Int)) len2
    have l0 := plc_le (zs := zs) (b := (l : Int)) len2
    obtain ⟨pm, HPM⟩ : ∃ p, Hid (plcTo zs len2 (m : Int) = p) := ⟨_, rfl⟩
    obtain ⟨pl, HPL⟩ : ∃ p, Hid (plcTo zs len2 (l : Int) = p) := ⟨_, rfl⟩
    rw [HPM.out] at p0 m0 hon
    rw [HPL.out] at p1 l0 hon
    obtain ⟨pm0, pm1⟩ := m0
    obtain ⟨pl0, pl1⟩ := l0
    have pm2 : pm ≤ 8 := by omega
    have HON2 : Hid (decide (pl = pm + 1) = onTo zs (m : Int) (l : Int) (zs.length - 1)) := hon
    clear hon
    subst ha
    have hbw : b < wr.heap.size := by have := HBW.out.size; omega
    have hpwr : pb < wr.heap.size := by have := HB.out.size; omega
    have HBX : Hid (Below w3.heap.size w3 (wr.alloc (.cells #[.int .i64 (m : Int), .int .i64 (l : Int), .int .i64 c] 46))) := HB.out.alloc HB.out.size _
    by_cases ep : pl = pm + 1
    · obtain ⟨q1, q2⟩ := HSY.out (by rw [← HON2.out]; exact decide_eq_true ep)
      have Q1 : Hid (strTo z zs (k + 1) = S + c) := q1
      have Q2 : Hid (jmpTo z zs (k + 1) = J) := q2
      clear q1 q2 HSN HSY HON2
      subst ep
      go_wp2_with fail
      go_quiet (fail)
      go_wp2
      go_roundw
      case rel => exact ⟨k + 1, by omega, by go_num, by rw [Q1.out], by rw [Q2.out], belowN HBX.out _⟩
      case measure => simp [intOf]; omega
    · obtain ⟨q1, q2⟩ := HSN.out (by rw [← HON2.out]; exact decide_eq_false ep)
      have Q1 : Hid (strTo z zs (k + 1) = S) := q1
      have Q2 : Hid (jmpTo z zs (k + 1) = J + c) := q2
      clear q1 q2 HSN HSY HON2
      have f1 : (pl == pm + 1) = false := by simpa using ep
      have f2 : decide (pl = pm + 1) = false := decide_eq_false ep
      go_wp2_with fail
      go_quiet (fail)
      go_wp2
      go_roundw
      case rel => exact ⟨k + 1, by omega, by go_num, by rw [Q1.out], by rw [Q2.out], belowN HBX.out _⟩
      case measure => simp [intOf]; omega
theorem impl_straightin (a a2 : Option Addr) (len cap len2 cap2 : Nat) (u : Int) (z zs : List Int) (W : World) (hz : Hid (z.length = len * 3)) (hlen : len ≤ 1048576) (hz2 : Hid (zs.length = len2)) (hlen2 : len2 ≤ 1048576) (h : Hid (Ints W a z)) (h2 : Hid (Ints W a2 zs)) :
    Calls Try.prog 27 #[.int .i64 u, .slice a len cap, .slice a2 len2 cap2] W fun e W' => e = .returned (.tuple #[.int .i64 (strV z zs u len), .bool (okG z zs u len)]) ∧ Below W.heap.size W W' := by
  obtain ⟨S, HS⟩ : ∃ S, Hid (strV z zs u len = S) := ⟨_, rfl⟩
  obtain ⟨J, HJ⟩ : ∃ J, Hid (jmpV z zs u len = J) := ⟨_, rfl⟩
  obtain ⟨o, HO⟩ : ∃ o, Hid (okG z zs u len = o) := ⟨_, rfl⟩
  go_enter Try.func27, Try.ntmps27
  go_wp2_with fail
  refine (impl_gone a a2 len cap len2 cap2 u z zs W hz hlen hz2 hlen2 h h2).mono ?_
  unfold GoneAns
  rw [HS.out, HJ.out, HO.out]
  rintro e w1 ⟨rfl, hB⟩
  have B1 : Hid (Below W.heap.size W w1) := hB
  clear hB
  go_wp2
  go_ret2
  exact ⟨by rw [HS.out, HO.out]; rfl, B1.out⟩
theorem impl_jumpsin (a a2 : Option Addr) (len cap len2 cap2 : Nat) (u : Int) (z zs : List Int) (W : World) (hz : Hid (z.length = len * 3)) (hlen : len ≤ 1048576) (hz2 : Hid (zs.length = len2)) (hlen2 : len2 ≤ 1048576) (h : Hid (Ints W a z)) (h2 : Hid (Ints W a2 zs)) :
    Calls Try.prog 29 #[.int .i64 u, .slice a len cap, .slice a2 len2 cap2] W fun e W' => e = .returned (.tuple #[.int .i64 (jmpV z zs u len), .bool (okG z zs u len)]) ∧ Below W.heap.size W W' := by
  obtain ⟨S, HS⟩ : ∃ S, Hid (strV z zs u len = S) := ⟨_, rfl⟩
  obtain ⟨J, HJ⟩ : ∃ J, Hid (jmpV z zs u len = J) := ⟨_, rfl⟩
  obtain ⟨o, HO⟩ : ∃ o, Hid (okG z zs u len = o) := ⟨_, rfl⟩
  go_enter Try.func29, Try.ntmps29
  go_wp2_with fail
  refine (impl_gone a a2 len cap len2 cap2 u z zs W hz hlen hz2 hlen2 h h2).mono ?_
  unfold GoneAns
  rw [HS.out, HJ.out, HO.out]
  rintro e w1 ⟨rfl, hB⟩
  have B1 : Hid (Below W.heap.size W w1) := hB
  clear hB
  go_wp2
  go_ret2
  exact ⟨by rw [HJ.out, HO.out]; rfl, B1.out⟩
end Go.Proofs.Ytaepabaabngdiaa.walks
