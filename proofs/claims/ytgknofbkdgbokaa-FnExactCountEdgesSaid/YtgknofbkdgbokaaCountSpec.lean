/-
  What the specification's CountEdges answers, at every argument.
-/
import Derived.Test.YtgknofbkdgbokaaProg
import Derived.Test.YtgknofbkdgbokaaFlowDeep
import Derived.Test.YtgknofbkdgbokaaOwnFlat
import Derived.Test.YtgknofbkdgbokaaCountMath
import Derived.Test.YtgknofbkdgbokaaSpecFlow
import Derived.Test.YtgknofbkdgbokaaSpecPath
import Derived.Test.YtgknofbkdgbokaaFlowSpec
import Derived.Test.YtgknofbkdgbokaaCodeRun
import Derived.WalkKit
import Derived.WalkSpells
import Derived.Below
import Derived.Handy
import Derived.Maps.AppendAt
namespace Go.Proofs.Ytgknofbkdgbokaa.walks
open Go.RowKit Go.Proofs.Ytgknofbkdgbokaa.math Go.Proofs.Ytgknofbkdgbokaa.ints Go.Proofs.Ytgknofbkdgbokaa.deep
set_option linter.unusedVariables false

/-- What CountEdges answers. -/
def CntAns (f : Nat → Bv) (n : Nat) (R : Nat → List Int) (m : Nat) (fuel : Int) (W : World) (e : Ending) (W' : World) : Prop :=
  ∃ v, e = .returned (.tuple #[v, .bool (okE f n R m fuel)]) ∧ OwnF W' W.heap.size 55 3 v (edgN f n R m fuel) (edgZ f n R m fuel) ∧ Below W.heap.size W W'
theorem cnt_no {f : Nat → Bv} {n : Nat} {R : Nat → List Int} {m : Nat} {fuel : Int} {W W' : World} (h : okE f n R m fuel = false) (hB : Below W.heap.size W W') : CntAns f n R m fuel W (.returned (.tuple #[.slice none 0 0, .bool false])) W' :=
  ⟨_, by rw [h], by unfold edgN edgZ; rw [h]; exact ownF_nil _ _ _ _, hB⟩
theorem mine_put {w : World} {B b i : Nat} {a : Option Addr} {zs : List Int} {v : Value} (h : Mine w B a zs) (hb : b < B) : Mine (w.setCell ⟨b, i, none⟩ v) B a zs := by
  rcases h with h | ⟨g, off, e, hB, hl, hc⟩
  · exact Or.inl h
  · exact Or.inr ⟨g, off, e, hB, by simpa [World.setCell] using hl, fun j hj => ⟨by rw [World.cell?_setCell_other _ _ _ _ (by simp; try omega)]; exact (hc j hj).1, by simpa using (hc j hj).2⟩⟩
theorem mine_at {w : World} {B : Nat} {a : Option Addr} {zs : List Int} (h : Mine w B a zs) {j : Nat} (hj : j + 1 < zs.length) : ∃ b off, a = some ⟨b, off, none⟩ ∧ B ≤ b ∧ b < w.heap.size ∧ w.cell? ⟨b, off + j, none⟩ = some (.int .i64 (zs.getD j 0)) ∧ w.cell? ⟨b, off + (j + 1), none⟩ = some (.int .i64 (zs.getD (j + 1) 0)) := by
  rcases h with h | ⟨g, off, e, hB, hl, hc⟩
  · rw [h] at hj; simp at hj
  · exact ⟨g, off, e, hB, hl, (hc j (by omega)).1, (hc (j + 1) hj).1⟩
theorem edge_row : (Try.prog.info? 55).map (fun i => (i.zero, i.size, i.bytes)) = some (some (.agg #[.int .i64 0, .int .i64 0, .int .i64 0]), 3, 24) := by kernel_rfl
set_option maxRecDepth 100000 in
set_option maxHeartbeats 8000000 in
theorem spec_count (a a1 : Option Addr) (n cap m cap1 : Nat) (fuel : Int) (f : Nat → Bv) (rs : Nat → Dv) (W : World) (hn : n ≤ 1048576) (hlen : Hid (∀ k, k < n → (f k).len ≤ 1048576)) (h : Hid (Flow W a n f))
    (hm20 : m ≤ 1048576) (hrl : Hid (∀ k, k < m → (rs k).len ≤ 1048576)) (hf1 : Hid (Fits shIntSS (.l m 1 rs))) (h1 : Hid (Holds W true (.l m 1 rs) (.slice a1 m cap1))) :
    Calls Try.prog 7 #[.slice a n cap, .slice a1 m cap1, .int .i64 fuel] W fun e W' => CntAns f n (fun k => zsD 1 (rs k)) m fuel W e W' := by
  obtain ⟨R, hR⟩ : ∃ R, Hid ((fun k => zsD 1 (rs k)) = R) := ⟨_, rfl⟩
  rw [hR.out]
  cases hf : flowB f n
  · have HO : Hid (okE f n R m fuel = false) := by show _ = _; unfold okE; rw [hf]; rfl
    go_enter Try.func7, Try.ntmps7
    go_wp2_with (first | (go_at_call 26; refine (spec_flow _ _ _ f _ hn hlen h).mono ?_; rw [hf]; rintro e w1 ⟨rfl, hb⟩; have HB : Hid (Below W.heap.size W w1) := hb; clear hb))
    go_ret2
    exact cnt_no HO.out HB.out
  have HF : Hid (flowB f n = true) := hf
  by_cases hm : m ≤ 10
  rotate_left
  · have HO : Hid (okE f n R m fuel = false) := by show _ = _; unfold okE; rw [decide_eq_false hm]; simp
    have hmI : (10 : Int) < (m : Int) := by omega
    clear hm
    go_enter Try.func7, Try.ntmps7
    go_wp2_with (first | (go_at_call 26; refine (spec_flow _ _ _ f _ hn hlen h).mono ?_; rw [hf]; rintro e w1 ⟨rfl, hb⟩; have HB : Hid (Below W.heap.size W w1) := hb; clear hb))
    go_ret2
    exact cnt_no HO.out HB.out
  have hmI : (m : Int) ≤ 10 := by omega
  cases hi : inR fuel 0 300
  · have HO : Hid (okE f n R m fuel = false) := by show _ = _; unfold okE; rw [hi]; simp
    go_enter Try.func7, Try.ntmps7
    go_wp2_with (first | (go_at_call 26; refine (spec_flow _ _ _ f _ hn hlen h).mono ?_; rw [hf]; rintro e w1 ⟨rfl, hb⟩; have HB : Hid (Below W.heap.size W w1) := hb; clear hb) | (go_at_call 27; refine (spec_in _ _ _ _).mono ?_; rw [hi]; rintro e w' ⟨rfl, hw'⟩; rw [hw']; clear hw' w'))
    go_ret2
    exact cnt_no HO.out HB.out
  obtain ⟨f0, f1⟩ := inR_out hi
  obtain ⟨fu, rfl⟩ := Int.eq_ofNat_of_zero_le f0
  have fu300 : fu ≤ 300 := by omega
  obtain ⟨i0, hi0, hz0, hz1, hz2⟩ := parts_of (P := Try.prog) (e := 3) (z := .int .i64 0) (a := 1) (b := 8) (by kernel_rfl)
  obtain ⟨i3, hi3, hz3, hz4, hz5⟩ := parts_of edge_row
  have hmk : ∀ w : World, (Instr.makeSlice 38 (.int .i64 64) (.int .i64 64)).run Try.prog w = .ok (.slice (some ⟨w.heap.size, 0, none⟩) 64 64) (w.alloc (.cells (madeCells #[.int .i64 0] 64) 3)) := by
    intro w
    have hr := run_make (P := Try.prog) w 38 3 i0 _ Try.underlying38 hi0 hz0 .i64 .i64 64 64 (by omega) (Int.le_refl _) (by rw [hz2]; decide) (by decide)
    rw [hr, hz1]; rfl
  obtain ⟨M, HM⟩ : ∃ M, Hid (madeCells #[.int .i64 0] 64 = M) := ⟨_, rfl⟩
  rw [HM.out] at hmk
  clear hi0 hz0 hz1 hz2
  go_enter Try.func7, Try.ntmps7
  go_wp2_with (first | (go_at_call 26; refine (spec_flow _ _ _ f _ hn hlen h).mono ?_; rw [hf]; rintro e w1 ⟨rfl, hb⟩; have HB : Hid (Below W.heap.size W w1) := hb; clear hb) | (go_at_call 27; refine (spec_in _ _ _ _).mono ?_; rw [hi]; rintro e w' ⟨rfl, hw'⟩; rw [hw']; clear hw' w'))
  clear hmk
  obtain ⟨g, hg⟩ : ∃ g, Hid (w1.heap.size = g) := ⟨_, rfl⟩
  have R0 : Hid ((w1.alloc (.cells M 3)).rowIs g 3 64 (fun c => .int .i64 ((cntR f R fu c 0 : Nat) : Int))) := by
    show World.rowIs _ _ _ _ _
    rw [← hg.out, ← HM.out]
    exact World.rowIs_made w1 (.int .i64 0) 64 3
  have B0 : Hid (Below W.heap.size W (w1.alloc (.cells M 3))) := HB.out.alloc HB.out.size _
  have hgW : W.heap.size ≤ g := by have := HB.out.size; rw [← hg.out]; exact this
  rw [hg.out]
  go_loopw [35] (fun vi wr => ∃ k : Nat, k ≤ m ∧ vi = .int .i64 k ∧ Hid (allW R k = true) ∧ Hid (wr.rowIs g 3 64 (fun c => .int .i64 ((cntR f R fu c k : Nat) : Int))) ∧ Hid (Below W.heap.size W wr)) (fun vi _ => m - (intOf vi).toNat)
  case atStart => exact ⟨0, Nat.zero_le _, rfl, rfl, R0, B0⟩
  case round =>
    obtain ⟨k, hk, rfl, HA, HC, HB2⟩ := hrel
    obtain ⟨wo, hwo⟩ : ∃ wo, wo = wr := ⟨_, rfl⟩
    subst hwo
    clear R0 B0
    by_cases hlt : k < m
    rotate_left
    · have HE : Hid (k = m) := by show k = m; omega
      rw [HE.out] at HA HC
      have HO : Hid (okE f n R m (fu : Int) = true) := by show _ = _; unfold okE; rw [HF.out, decide_eq_true hm, hi, HA.out]; rfl
      have HN : Hid (edgN f n R m (fu : Int) = edN (cntC f R m (fu : Int)) 64) := by show _ = _; unfold edgN; rw [if_pos HO.out]
      have HZ : Hid (edgZ f n R m (fu : Int) = edL (cntC f R m (fu : Int)) 64) := by show _ = _; unfold edgZ; rw [if_pos HO.out]
      have h16 := edg_few HO.out
      obtain ⟨C, hC⟩ : ∃ C, Hid (cntC f R m (fu : Int) = C) := ⟨_, rfl⟩
      have HC2 : Hid (wo.rowIs g 3 64 (fun c => .int .i64 ((C c : Nat) : Int))) := by rw [← hC.out]; exact HC
      have hCl : Hid (∀ c, C c ≤ 3000) := fun c => by
        rw [← hC.out]
        have := cnt_le (f := f) (R := R) (fuel := fu) c m
        show cntR f R fu c m ≤ 3000
        have h2 : fu * m ≤ 300 * 10 := Nat.mul_le_mul fu300 hm
        omega
      rw [hC.out] at HN HZ h16
      clear HC
      have hgl : g < wo.heap.size := HC2.out.lt
      have hwW := HB2.out.size
      go_wp2
      go_loopw [16, 76] (fun vo vi wi => ∃ (j : Nat) (v : Value), j ≤ 64 ∧ vi = .int .i64 j ∧ v = vo ∧ Hid (OwnF wi wo.heap.size 55 3 v (edN C j) (edL C j)) ∧ Hid (Below wo.heap.size wo wi)) (fun _ vi _ => 64 - (intOf vi).toNat)
      case atStart => exact ⟨0, _, Nat.zero_le _, rfl, rfl, ownF_nil _ _ _ _, Below.refl _ _⟩
      case round =>
        obtain ⟨j, v, hj, rfl, rfl, HV, HBi⟩ := hrel
        have HBW : Hid (Below W.heap.size W wr) := HB2.out.trans (HBi.out.mono hwW)
        by_cases hj64 : j < 64
        rotate_left
        · have HJ : Hid (j = 64) := by show j = 64; omega
          rw [HJ.out] at HV
          obtain ⟨va, vc, hv, _⟩ := HV.out.mine
          subst hv
          have h20 : ((edN C 64 : Nat) : Int) ≤ 20 := by omega
          obtain ⟨L, hL⟩ : ∃ L, Hid (edN C 64 = L) := ⟨_, rfl⟩
          have HR : Hid (CntAns f n R m (fu : Int) W (.returned (.tuple #[.slice va L vc, .bool true])) wr) := ⟨_, by rw [HO.out], by rw [HN.out, HZ.out, ← hL.out]; exact HV.out.low hwW, HBW.out⟩
          rw [hL.out] at h20
          rw [hL.out]
          clear HV h16
          go_wp2
          go_ret2
          exact HR.out
        have hc : wr.cell? ⟨g, j, none⟩ = some (.int .i64 ((C j : Nat) : Int)) := (HBi.out.cell (p := ⟨g, j, none⟩) hgl).trans (HC2.out.cell hj64)
        have hCj := hCl.out j
        have hjI : (j : Int) < 64 := by omega
        by_cases hp : 0 < C j
        · have HS : Hid (edN C (j + 1) = edN C j + 1 ∧ edL C (j + 1) = edL C j ++ [(j : Int) / 8, (j : Int) % 8, (C j : Int)]) := ⟨by simp only [edN, if_pos hp], by simp only [edL, if_pos hp]⟩
          have hle := edN_le C j
          obtain ⟨x, hx⟩ : ∃ x, Hid (C j = x) := ⟨_, rfl⟩
          rw [hx.out] at hc hCj hp HS
          have hpI : (0 : Int) < (x : Int) := by omega
          have hsz := HBi.out.size
          clear hp
          go_wp2_with (first
            | (at_builtin; refine wpList_append_own _ rfl _ _ 26 rfl wo.heap.size 55 i3 _ 3 24 Try.underlying26 hi3 hz3 hz4 hz5 rfl (by decide) _ _ _ rfl (World.ownsRow.alloc HV.out _) ⟨wr.heap.size, 0, none⟩ 1 1 ([(j : Int) / 8, (j : Int) % 8, (x : Int)].map (Value.int .i64)) rfl ?c1 ?c2 ?c3 ?c4 ?c5 ?c6 ?_))
          case c1 => rfl
          case c2 => exact news_cells wr [(j : Int) / 8, (j : Int) % 8, (x : Int)] _
          case c3 => exact news_one _
          case c4 => unfold maxLen; omega
          case c5 => omega
          case c6 => simp; omega
          intro v' w4 hown' hgrow _
          obtain ⟨q1, q2, _⟩ := OwnF.snoc (zs := [(j : Int) / 8, (j : Int) % 8, (x : Int)]) HV.out hsz HBi.out hown' hgrow
          have H1 : Hid (OwnF w4 wo.heap.size 55 3 v' (edN C (j + 1)) (edL C (j + 1))) := by
            show OwnF _ _ _ _ _ _ _
            rw [HS.out.1, HS.out.2]; exact q1
          have H2 : Hid (Below wo.heap.size wo w4) := q2
          clear q1 q2 hown' hgrow
          go_wp2
          go_roundw
          case rel => exact ⟨j + 1, v', by omega, by go_num, rfl, H1, H2⟩
          case measure => simp [intOf]; omega
        · have hx0 : C j = 0 := by omega
          rw [hx0] at hc
          have H1 : Hid (OwnF wr wo.heap.size 55 3 v (edN C (j + 1)) (edL C (j + 1))) := by
            show OwnF _ _ _ _ _ _ _
            simp only [edN, edL, if_neg hp]; exact HV.out
          have hc : wr.cell? ⟨g, j, none⟩ = some (.int .i64 0) := hc
          clear hp
          go_wp2
          go_roundw
          case rel => exact ⟨j + 1, v, by omega, by go_num, rfl, H1, HBi⟩
          case measure => simp [intOf]; omega
    have hltI : (k : Int) < (m : Int) := by omega
    obtain ⟨b1, o1, a', cap', ha1, hb1, hc1, hI⟩ := h1.out.row hf1.out HB2.out hlt
    subst ha1
    have HI1 : Hid (Ints wo a' (zsD 1 (rs k))) := hI
    have ER : Hid (zsD 1 (rs k) = R k) := by show _ = _; rw [← hR.out]
    have hlk := hrl.out k hlt
    have hzl : Hid ((R k).length = (rs k).len) := by show _ = _; rw [← ER.out, zsD_len]; omega
    rw [ER.out] at HI1
    clear hI
    obtain ⟨lk, hlk2⟩ : ∃ lk, Hid ((rs k).len = lk) := ⟨_, rfl⟩
    rw [hlk2.out] at hc1 hlk hzl
    obtain ⟨ws, hws⟩ : ∃ ws, Hid (R k = ws) := ⟨_, rfl⟩
    rw [hws.out] at HI1 hzl
    have hwW := HB2.out.size
    cases hw : wordsB ws
    · have HO : Hid (okE f n R m (fu : Int) = false) := by show _ = _; unfold okE; rw [allW_no (by rw [hws.out]; exact hw) hlt]; simp
      go_wp2_with (first | (go_at_call 28; refine (spec_words _ _ _ ws _ hzl hlk HI1).mono ?_; rw [hw]; rintro e w' ⟨rfl, hw'⟩; rw [hw']; clear hw' w'))
      go_ret2
      exact cnt_no HO.out HB2.out
    have HW : Hid (wordsB ws = true) := hw
    obtain rfl : lk = 8 := by rw [← hzl.out]; exact (words_out hw).1
    go_wp2_with (first | (go_at_call 28; refine (spec_words _ _ _ ws _ hzl hlk HI1).mono ?_; rw [hw]; rintro e w' ⟨rfl, hw'⟩; rw [hw']; clear hw' w') | (go_at_call 29; refine (spec_l5run _ _ _ _ _ _ f ws _ HF HW fu300 (h.out.kept HB2.out) HI1).mono ?_; rintro e w2 ⟨q, ta, tc, wa, wc, pa, pc, hS, rfl, -, -, i3', hb⟩; have HS : Hid (Stands f ws fu q) := hS; have I3 : Hid (Mine w2 wo.heap.size pa (flowTo f ws q).path) := i3'; have HB3 : Hid (Below wo.heap.size wo w2) := hb; clear hS i3' hb))
    obtain ⟨pl, pr, pn⟩ := pth_in HF.out HW.out HS.out
    obtain ⟨p, hp⟩ : ∃ p, Hid (pthV f ws fu = p) := ⟨_, rfl⟩
    have EP : Hid ((flowTo f ws q).path = p) := by show _ = _; rw [← hp.out, pth_is HS.out]
    rw [hp.out] at pl pr
    rw [EP.out] at I3
    have hq300 : q ≤ 300 := Nat.le_trans HS.out.2.1 fu300
    have hqI : (q : Int) ≤ 300 := by omega
    have hn8 : n ≤ 8 := (flow_out HF.out).1.2
    have PR : Hid (∀ j, j < q → 0 ≤ p.getD j 0 ∧ p.getD j 0 < 8) := fun j hj => by have := pr j hj; omega
    have PL : Hid (p.length = q) := pl
    have HC1 : Hid (w2.rowIs g 3 64 (fun c => .int .i64 ((cntR f R fu c k + goneP p c 0 : Nat) : Int))) := HC.out.of_block (HB3.out.block g HC.out.lt)
    have HNX : Hid (∀ c, cntR f R fu c (k + 1) = cntR f R fu c k + goneP p c (q - 1)) := fun c => by
      show cntR f R fu c k + goneP (pthV f (R k) fu) c ((pthV f (R k) fu).length - 1) = _
      rw [hws.out, hp.out, PL.out]
    have HLE : Hid (∀ c, cntR f R fu c k ≤ 3000) := fun c => by
      have := cnt_le (f := f) (R := R) (fuel := fu) c k
      have h2 : fu * k ≤ 300 * 10 := Nat.mul_le_mul fu300 (by omega)
      omega
    have HAN : Hid (allW R (k + 1) = true) := allW_step HA.out (by rw [hws.out]; exact HW.out)
    have HB4 : Hid (Below W.heap.size W w2) := HB2.out.trans (HB3.out.mono hwW)
    obtain ⟨C, hC⟩ : ∃ C : Nat → Nat, Hid ((fun c => cntR f R fu c k) = C) := ⟨_, rfl⟩
    have HC2 : Hid (w2.rowIs g 3 64 (fun c => .int .i64 ((C c + goneP p c 0 : Nat) : Int))) := by rw [← hC.out]; exact HC1
    have HLE2 : Hid (∀ c, C c ≤ 3000) := by rw [← hC.out]; exact HLE
    have HNX2 : Hid (∀ c, cntR f R fu c (k + 1) = C c + goneP p c (q - 1)) := by rw [← hC.out]; exact HNX
    have hgo : g < wo.heap.size := HC.out.lt
    clear HC HC1 HLE HNX pl pr pn HA HS EP hq300 HI1
    clear HB2 HB3
    go_loopw [15] (fun vj wi => ∃ j : Nat, j ≤ q - 1 ∧ vj = .int .i64 ((j : Int) + 1) ∧ Hid (wi.rowIs g 3 64 (fun c => .int .i64 ((C c + goneP p c j : Nat) : Int))) ∧ Hid (Mine wi wo.heap.size pa p) ∧ Hid (Below W.heap.size W wi)) (fun vj _ => q - (intOf vj).toNat)
    case atStart => exact ⟨0, Nat.zero_le _, rfl, HC2, I3, HB4⟩
    case round =>
      obtain ⟨j, hj, rfl, HR, HM, HBi⟩ := hrel
      clear HC2 I3 HB4
      by_cases hjq : j + 1 < q
      rotate_left
      · have HJ : Hid (j = q - 1) := by show j = q - 1; omega
        have H1 : Hid (wr.rowIs g 3 64 (fun c => .int .i64 ((cntR f R fu c (k + 1) : Nat) : Int))) := by
          show World.rowIs _ _ _ _ _
          refine HR.out.congr (fun c _ => ?_)
          rw [HNX2.out, HJ.out]
        have hjI : (q : Int) ≤ (j : Int) + 1 := by omega
        clear hjq
        go_wp2
        go_roundw
        case rel => exact ⟨k + 1, by omega, by go_num, HAN, H1, HBi⟩
        case measure => simp [intOf]; omega
      obtain ⟨pb, po, ha, hpb, hpl, c0, c1⟩ := mine_at HM.out (j := j) (by rw [PL.out]; exact hjq)
      subst ha
      obtain ⟨x0, x1⟩ := PR.out j (by omega)
      obtain ⟨y0, y1⟩ := PR.out (j + 1) hjq
      obtain ⟨x, hx⟩ : ∃ x : Nat, p.getD j 0 = (x : Int) := ⟨(p.getD j 0).toNat, by omega⟩
      obtain ⟨y, hy⟩ : ∃ y : Nat, p.getD (j + 1) 0 = (y : Int) := ⟨(p.getD (j + 1) 0).toNat, by omega⟩
      have HST : Hid (∀ c, goneP p c (j + 1) = goneP p c j + (if c = 8 * x + y then 1 else 0)) := fun c => by
        simp only [goneP]
        rw [hx, hy]
        by_cases e : c = 8 * x + y
        · rw [if_pos e, if_pos (by omega)]
        · rw [if_neg e, if_neg (by omega)]
      rw [hx] at c0 x0 x1
      rw [hy] at c1 y0 y1
      have hi64 : 8 * x + y < 64 := by omega
      have t0 := HR.out.cell hi64
      have t1 := HR.out.frozen (8 * x + y)
      have hcl := HLE2.out (8 * x + y)
      have hgl := goneP_le p (8 * x + y) j
      obtain ⟨z, hz⟩ : ∃ z, Hid (C (8 * x + y) + goneP p (8 * x + y) j = z) := ⟨_, rfl⟩
      have hz2 : z ≤ 4000 := by rw [← hz.out]; omega
      rw [hz.out] at t0
      have hidx : (0 : Int) ≤ 8 * (x : Int) + (y : Int) := by omega
      have hidx2 : 8 * (x : Int) + (y : Int) < 64 := by omega
      have hjI : (j : Int) + 1 < (q : Int) := by omega
      have hgp : g < wr.heap.size := HR.out.lt
      have hne : pb ≠ g := by omega
      clear hcl hgl hx hy
      go_wp2
      go_region
      go_wp2
      go_roundw
      case rel =>
        refine ⟨j + 1, by omega, by go_num, ?_, ?_, ?_⟩
        · show World.rowIs _ _ _ _ _
          refine World.rowIs.drew ((HR.out.set (8 * x + y) (.int .i64 ((z : Int) + 1))).congr ?_)
          intro c hc
          rw [HST.out]
          by_cases e : c = 8 * x + y
          · rw [if_pos e, if_pos e, e, ← hz.out]
            congr 1
          · rw [if_neg e, if_neg e]; rfl
        · show Mine _ _ _ _
          exact (mine_put HM.out hgo).kept (Below.refl _ _).drew
        · show Below _ _ _
          exact (HBi.out.setCell hgW _).drew
      case measure => simp [intOf]; omega
end Go.Proofs.Ytgknofbkdgbokaa.walks
