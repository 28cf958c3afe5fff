/-
  What the program's CountEdges answers, at every argument.
-/
import Derived.Test.YtgknofbkdgbokaaProg
import Derived.Test.YtgknofbkdgbokaaFlowDeep
import Derived.Test.YtgknofbkdgbokaaOwnFlat
import Derived.Test.YtgknofbkdgbokaaCountMath
import Derived.Test.YtgknofbkdgbokaaCountSpec
import Derived.Test.YtgknofbkdgbokaaArrs
import Derived.Test.YtgknofbkdgbokaaFlowImpl2
import Derived.Test.YtgknofbkdgbokaaFlowImpl
import Derived.Test.YtgknofbkdgbokaaRunOf
import Derived.WalkKit
import Derived.WalkSpells
import Derived.Below
import Derived.Handy
import Derived.Maps.AppendAt
namespace Go.Proofs.Ytgknofbkdgbokaa.walks
open Go.RowKit Go.Proofs.Ytgknofbkdgbokaa.math Go.Proofs.Ytgknofbkdgbokaa.ints Go.Proofs.Ytgknofbkdgbokaa.deep
set_option linter.unusedVariables false
set_option maxRecDepth 100000

set_option maxHeartbeats 8000000 in
theorem impl_addpath (g q cap B : Nat) (pa : Option Addr) (p : List Int) (C : Nat → Nat) (W : World) (hgB : g < B) (HR0 : Hid (W.rowIs g 63 64 (fun c => .int .i64 ((C c : Nat) : Int)))) (HM0 : Hid (Mine W B pa p)) (PL : Hid (p.length = q)) (hqI : (q : Int) ≤ 300)
    (PR : Hid (∀ j, j < q → 0 ≤ p.getD j 0 ∧ p.getD j 0 < 8)) (HLE : Hid (∀ c, C c ≤ 3000)) :
    Calls Try.prog 34 #[.pointer (some ⟨g, 0, none⟩), .slice pa q cap] W fun e W' => e = .returned (.tuple #[]) ∧ W'.rowIs g 63 64 (fun c => .int .i64 ((C c + goneP p c (q - 1) : Nat) : Int)) ∧ Below g W W' := by
  go_enter Try.func34, Try.ntmps34
  go_wp2
  go_loopw [4] (fun vj wi => ∃ j : Nat, j ≤ q - 1 ∧ vj = .int .i64 ((j : Int) + 1) ∧ Hid (wi.rowIs g 63 64 (fun c => .int .i64 ((C c + goneP p c j : Nat) : Int))) ∧ Hid (Mine wi B pa p) ∧ Hid (Below g W wi)) (fun vj _ => q - (intOf vj).toNat)
  case atStart => exact ⟨0, Nat.zero_le _, rfl, HR0, HM0, Below.refl _ _⟩
  case round =>
    obtain ⟨j, hj, rfl, HR, HM, HBi⟩ := hrel
    by_cases hjq : j + 1 < q
    rotate_left
    · have HJ : Hid (j = q - 1) := by show j = q - 1; omega
      rw [HJ.out] at HR
      have hjI : (q : Int) ≤ (j : Int) + 1 := by omega
      clear hjq
      go_wp2
      go_end0
      exact ⟨rfl, HR.out, HBi.out⟩
    obtain ⟨pb, po, ha, hpb, hpl, c0, c1⟩ := mine_at HM.out (j := j) (by rw [PL.out]; exact hjq)
    subst ha
    obtain ⟨x0, x1⟩ := PR.out j (by omega)
    obtain ⟨y0, y1⟩ := PR.out (j + 1) hjq
    obtain ⟨x, hx⟩ : ∃ x : Nat, p.getD j 0 = (x : Int) := ⟨(p.getD j 0).toNat, by omega⟩
    obtain ⟨y, hy⟩ : ∃ y : Nat, p.getD (j + 1) 0 = (y : Int) := ⟨(p.getD (j + 1) 0).toNat, by omega⟩
    have HST : Hid (∀ c, goneP p c (j + 1) = goneP p c j + (if c = x * 8 + y then 1 else 0)) := fun c => by
      simp only [goneP]
      rw [hx, hy]
      by_cases e : c = x * 8 + y
      · rw [if_pos e, if_pos (by omega)]
      · rw [if_neg e, if_neg (by omega)]
    rw [hx] at c0 x0 x1
    rw [hy] at c1 y0 y1
    have hi64 : x * 8 + y < 64 := by omega
    have t0 := HR.out.cell hi64
    have t1 := HR.out.frozen (x * 8 + y)
    have hcl := HLE.out (x * 8 + y)
    have hgl := goneP_le p (x * 8 + y) j
    obtain ⟨z, hz⟩ : ∃ z, Hid (C (x * 8 + y) + goneP p (x * 8 + y) j = z) := ⟨_, rfl⟩
    have hz2 : z ≤ 4000 := by rw [← hz.out]; omega
    rw [hz.out] at t0
    have hjI : (j : Int) + 1 < (q : Int) := by omega
    have hgp : g < wr.heap.size := HR.out.lt
    have hne : pb ≠ g := by omega
    clear hcl hgl hx hy
    go_wp2
    go_region
    go_wp2
    go_roundw
    case rel =>
      refine ⟨j + 1, by omega, by go_num, ?_, ?_, ?_⟩
      · show World.rowIs _ _ _ _ _
        refine World.rowIs.drew ((HR.out.set (x * 8 + y) (.int .i64 ((z : Int) + 1))).congr ?_)
        intro c hc
        rw [HST.out]
        by_cases e : c = x * 8 + y
        · rw [if_pos e, if_pos e, e, ← hz.out]
          congr 1
        · rw [if_neg e, if_neg e]; rfl
      · show Mine _ _ _ _
        exact (mine_put HM.out hgB).kept (Below.refl _ _).drew
      · show Below _ _ _
        exact (HBi.out.setCell (Nat.le_refl _) _).drew
    case measure => simp [intOf]; omega

set_option maxHeartbeats 8000000 in
theorem impl_edgesof (g : Nat) (C : Nat → Nat) (W : World) (HR0 : Hid (W.rowIs g 63 64 (fun c => .int .i64 ((C c : Nat) : Int)))) (HLE : Hid (∀ c, C c ≤ 3000)) :
    Calls Try.prog 35 #[.pointer (some ⟨g, 0, none⟩)] W fun e W' => ∃ v, e = .returned v ∧ OwnF W' W.heap.size 55 3 v (edN C 64) (edL C 64) ∧ Below W.heap.size W W' := by
  obtain ⟨i3, hi3, hz3, hz4, hz5⟩ := parts_of edge_row
  have hgl : g < W.heap.size := HR0.out.lt
  go_enter Try.func35, Try.ntmps35
  go_wp2
  go_loopw [3, 10] (fun vo vi wr => ∃ (i : Nat) (v : Value), i ≤ 8 ∧ vi = .int .i64 i ∧ v = vo ∧ Hid (OwnF wr W.heap.size 55 3 v (edN C (i * 8)) (edL C (i * 8))) ∧ Hid (Below W.heap.size W wr)) (fun _ vi _ => 8 - (intOf vi).toNat)
  case atStart => exact ⟨0, _, Nat.zero_le _, rfl, rfl, ownF_nil _ _ _ _, Below.refl _ _⟩
  case round =>
    obtain ⟨i, v, hi8, rfl, rfl, HV, HB⟩ := hrel
    obtain ⟨wo, hwo⟩ : ∃ wo, wo = wr := ⟨_, rfl⟩
    subst hwo
    by_cases hlt : i < 8
    rotate_left
    · have HE : Hid (i * 8 = 64) := by show _ = _; omega
      rw [HE.out] at HV
      go_wp2
      go_ret
      exact ⟨_, rfl, HV.out, HB.out⟩
    have hiI : (i : Int) < 8 := by omega
    have cel : ∀ j, j < 8 → wo.cell? ⟨g, i * 8 + j, none⟩ = some (.int .i64 ((C (i * 8 + j) : Nat) : Int)) := fun j hj => (HB.out.cell (p := ⟨g, i * 8 + j, none⟩) hgl).trans (HR0.out.cell (by omega))
    have c0 := cel 0 (by decide)
    rw [Nat.add_zero] at c0
    have c1 := cel 1 (by decide)
    have c2 := cel 2 (by decide)
    have c3 := cel 3 (by decide)
    have c4 := cel 4 (by decide)
    have c5 := cel 5 (by decide)
    have c6 := cel 6 (by decide)
    have c7 := cel 7 (by decide)
    clear cel
    have HX : Hid (∀ (x0 x1 x2 x3 x4 x5 x6 x7 : Value), x0 = .int .i64 ((C (i * 8) : Nat) : Int) → x1 = .int .i64 ((C (i * 8 + 1) : Nat) : Int) → x2 = .int .i64 ((C (i * 8 + 2) : Nat) : Int) → x3 = .int .i64 ((C (i * 8 + 3) : Nat) : Int) → x4 = .int .i64 ((C (i * 8 + 4) : Nat) : Int) → x5 = .int .i64 ((C (i * 8 + 5) : Nat) : Int) → x6 = .int .i64 ((C (i * 8 + 6) : Nat) : Int) → x7 = .int .i64 ((C (i * 8 + 7) : Nat) : Int) → IsArr #[x0, x1, x2, x3, x4, x5, x6, x7] 8 (fun j => ((C (i * 8 + j) : Nat) : Int))) := by
      intro x0 x1 x2 x3 x4 x5 x6 x7 h0 h1 h2 h3 h4 h5 h6 h7
      refine ⟨rfl, fun j hj => ?_⟩
      match j, hj with
      | 0, _ => rw [h0]; rfl
      | 1, _ => rw [h1]; rfl
      | 2, _ => rw [h2]; rfl
      | 3, _ => rw [h3]; rfl
      | 4, _ => rw [h4]; rfl
      | 5, _ => rw [h5]; rfl
      | 6, _ => rw [h6]; rfl
      | 7, _ => rw [h7]; rfl
    obtain ⟨x0, e0⟩ : ∃ x, x = C (i * 8) := ⟨_, rfl⟩
    obtain ⟨x1, e1⟩ : ∃ x, x = C (i * 8 + 1) := ⟨_, rfl⟩
    obtain ⟨x2, e2⟩ : ∃ x, x = C (i * 8 + 2) := ⟨_, rfl⟩
    obtain ⟨x3, e3⟩ : ∃ x, x = C (i * 8 + 3) := ⟨_, rfl⟩
    obtain ⟨x4, e4⟩ : ∃ x, x = C (i * 8 + 4) := ⟨_, rfl⟩
    obtain ⟨x5, e5⟩ : ∃ x, x = C (i * 8 + 5) := ⟨_, rfl⟩
    obtain ⟨x6, e6⟩ : ∃ x, x = C (i * 8 + 6) := ⟨_, rfl⟩
    obtain ⟨x7, e7⟩ : ∃ x, x = C (i * 8 + 7) := ⟨_, rfl⟩
    have HA := HX.out (.int .i64 (x0 : Int)) (.int .i64 (x1 : Int)) (.int .i64 (x2 : Int)) (.int .i64 (x3 : Int)) (.int .i64 (x4 : Int)) (.int .i64 (x5 : Int)) (.int .i64 (x6 : Int)) (.int .i64 (x7 : Int)) (by rw [e0]) (by rw [e1]) (by rw [e2]) (by rw [e3]) (by rw [e4]) (by rw [e5]) (by rw [e6]) (by rw [e7])
    rw [← e0] at c0
    rw [← e1] at c1
    rw [← e2] at c2
    rw [← e3] at c3
    rw [← e4] at c4
    rw [← e5] at c5
    rw [← e6] at c6
    rw [← e7] at c7
    obtain ⟨ca, hca⟩ : ∃ ca, Hid (#[Value.int .i64 (x0 : Int), .int .i64 (x1 : Int), .int .i64 (x2 : Int), .int .i64 (x3 : Int), .int .i64 (x4 : Int), .int .i64 (x5 : Int), .int .i64 (x6 : Int), .int .i64 (x7 : Int)] = ca) := ⟨_, rfl⟩
    have HARR : Hid (IsArr ca 8 (fun j => ((C (i * 8 + j) : Nat) : Int))) := by rw [← hca.out]; exact HA
    clear HA HX e0 e1 e2 e3 e4 e5 e6 e7
    have hgo : g < wo.heap.size := by have := HB.out.size; omega
    have hsz := HB.out.size
    go_wp2
    go_region
    go_wp2
    have BX : Below W.heap.size W ((wo.alloc (.cells #[Value.int .i64 (x0 : Int), .int .i64 (x1 : Int), .int .i64 (x2 : Int), .int .i64 (x3 : Int), .int .i64 (x4 : Int), .int .i64 (x5 : Int), .int .i64 (x6 : Int), .int .i64 (x7 : Int)] 61)).drew) := (HB.out.alloc hsz _).drew
    have VX : OwnF ((wo.alloc (.cells #[Value.int .i64 (x0 : Int), .int .i64 (x1 : Int), .int .i64 (x2 : Int), .int .i64 (x3 : Int), .int .i64 (x4 : Int), .int .i64 (x5 : Int), .int .i64 (x6 : Int), .int .i64 (x7 : Int)] 61)).drew) W.heap.size 55 3 v (edN C (i * 8 + 0)) (edL C (i * 8 + 0)) := (HV.out.alloc _).drew
    obtain ⟨WX, hWX⟩ : ∃ WX, Hid ((wo.alloc (.cells #[Value.int .i64 (x0 : Int), .int .i64 (x1 : Int), .int .i64 (x2 : Int), .int .i64 (x3 : Int), .int .i64 (x4 : Int), .int .i64 (x5 : Int), .int .i64 (x6 : Int), .int .i64 (x7 : Int)] 61)).drew = WX) := ⟨_, rfl⟩
    rw [hWX.out] at BX VX
    have HBX : Hid (Below W.heap.size W WX) := BX
    have HVX : Hid (OwnF WX W.heap.size 55 3 v (edN C (i * 8 + 0)) (edL C (i * 8 + 0))) := VX
    rw [hWX.out, hca.out]
    clear BX VX hWX hca HV HB c0 c1 c2 c3 c4 c5 c6 c7 hsz hgo
    go_loopw [3, 17] (fun vo vj wi => ∃ (j : Nat) (v : Value), j ≤ 8 ∧ vj = .int .i64 j ∧ v = vo ∧ Hid (OwnF wi W.heap.size 55 3 v (edN C (i * 8 + j)) (edL C (i * 8 + j))) ∧ Hid (Below W.heap.size W wi)) (fun _ vj _ => 8 - (intOf vj).toNat)
    case atStart => exact ⟨0, _, Nat.zero_le _, rfl, rfl, HVX, HBX⟩
    case round =>
      obtain ⟨j, v, hj8, rfl, rfl, HV, HB⟩ := hrel
      clear HVX HBX
      by_cases hjl : j < 8
      rotate_left
      · have HE : Hid (i * 8 + j = (i + 1) * 8) := by show _ = _; omega
        rw [HE.out] at HV
        have hjI : (8 : Int) ≤ (j : Int) := by omega
        clear hjl
        go_wp2
        go_roundw
        case rel => exact ⟨i + 1, v, by omega, by go_num, rfl, HV, HB⟩
        case measure => simp [intOf]; omega
      have hjI : (j : Int) < 8 := by omega
      have hix : ∀ w : World, (Instr.index 61 (.agg ca) (.int .i64 (j : Int))).run Try.prog w = .ok (.int .i64 ((C (i * 8 + j) : Nat) : Int)) w := fun w => index_arr HARR.out Try.underlying61 Try.underlying3 (by kernel_rfl) hjl w
      have hcl := HLE.out (i * 8 + j)
      have hle := edN_le C (i * 8 + j)
      have hsz := HB.out.size
      by_cases hp : 0 < C (i * 8 + j)
      · have HS : Hid (edN C (i * 8 + (j + 1)) = edN C (i * 8 + j) + 1 ∧ edL C (i * 8 + (j + 1)) = edL C (i * 8 + j) ++ [(i : Int), (j : Int), (C (i * 8 + j) : Int)]) := by
          rw [← Nat.add_assoc]
          refine ⟨by simp only [edN, if_pos hp], ?_⟩
          simp only [edL, if_pos hp]
          congr 2
          · omega
          · congr 1; omega
        obtain ⟨x, hx⟩ : ∃ x, Hid (C (i * 8 + j) = x) := ⟨_, rfl⟩
        rw [hx.out] at hix hcl hp HS
        have hpI : (0 : Int) < (x : Int) := by omega
        clear hp
        go_wp2_with (first
          | (at_builtin; refine wpList_append_own _ rfl _ _ 26 rfl W.heap.size 55 i3 _ 3 24 Try.underlying26 hi3 hz3 hz4 hz5 rfl (by decide) _ _ _ rfl (World.ownsRow.alloc HV.out _) ⟨wr.heap.size, 0, none⟩ 1 1 ([(i : Int), (j : Int), (x : Int)].map (Value.int .i64)) rfl ?c1 ?c2 ?c3 ?c4 ?c5 ?c6 ?_))
        case c1 => rfl
        case c2 => exact news_cells wr [(i : Int), (j : Int), (x : Int)] _
        case c3 => exact news_one _
        case c4 => unfold maxLen; omega
        case c5 => omega
        case c6 => simp; omega
        intro v' w4 hown' hgrow _
        obtain ⟨q1, q2, _⟩ := OwnF.snoc (zs := [(i : Int), (j : Int), (x : Int)]) HV.out hsz HB.out hown' hgrow
        have H1 : Hid (OwnF w4 W.heap.size 55 3 v' (edN C (i * 8 + (j + 1))) (edL C (i * 8 + (j + 1)))) := by
          show OwnF _ _ _ _ _ _ _
          rw [HS.out.1, HS.out.2]; exact q1
        have H2 : Hid (Below W.heap.size W w4) := q2
        clear q1 q2 hown' hgrow hix
        go_wp2
        go_roundw
        case rel => exact ⟨j + 1, v', by omega, by go_num, rfl, H1, H2⟩
        case measure => simp [intOf]; omega
      · have hx0 : C (i * 8 + j) = 0 := by omega
        rw [hx0] at hix
        have H1 : Hid (OwnF wr W.heap.size 55 3 v (edN C (i * 8 + (j + 1))) (edL C (i * 8 + (j + 1)))) := by
          show OwnF _ _ _ _ _ _ _
          rw [← Nat.add_assoc]
          simp only [edN, edL, if_neg hp]; exact HV.out
        have hix : ∀ w : World, (Instr.index 61 (.agg ca) (.int .i64 (j : Int))).run Try.prog w = .ok (.int .i64 0) w := hix
        clear hp hx0
        go_wp2
        go_roundw
        case rel => exact ⟨j + 1, v, by omega, by go_num, rfl, H1, HB⟩
        case measure => simp [intOf]; omega

theorem okrun_of {f : Nat → Bv} {n : Nat} {ws : List Int} {fuel : Int} (h1 : flowB f n = true) (h2 : inR fuel 0 300 = true) : okRun f n ws fuel = wordsB ws := by
  unfold okRun
  rw [h1, h2]
  cases wordsB ws <;> rfl
theorem zero64 (W : World) (T : TypeId) (c : Array Value) (hc : c = Array.replicate 64 (.int .i64 0)) : (W.alloc (.cells c T)).rowIs W.heap.size T 64 (fun _ => .int .i64 0) := by
  subst hc
  exact arr_new (f := fun _ => 0) (arr_zero 64)
set_option maxHeartbeats 8000000 in
theorem impl_count (a a1 : Option Addr) (n cap m cap1 : Nat) (fuel : Int) (f : Nat → Bv) (rs : Nat → Dv) (W : World) (hn : n ≤ 1048576) (hlen : Hid (∀ k, k < n → (f k).len ≤ 1048576)) (h : Hid (Flow W a n f))
    (hm20 : m ≤ 1048576) (hrl : Hid (∀ k, k < m → (rs k).len ≤ 1048576)) (hf1 : Hid (Fits shIntSS (.l m 1 rs))) (h1 : Hid (Holds W true (.l m 1 rs) (.slice a1 m cap1))) :
    Calls Try.prog 10 #[.slice a n cap, .slice a1 m cap1, .int .i64 fuel] W fun e W' => CntAns f n (fun k => zsD 1 (rs k)) m fuel W e W' := by
  obtain ⟨R, hR⟩ : ∃ R, Hid ((fun k => zsD 1 (rs k)) = R) := ⟨_, rfl⟩
  rw [hR.out]
  cases hf : flowB f n
  · have HO : Hid (okE f n R m fuel = false) := by show _ = _; unfold okE; rw [hf]; rfl
    go_enter Try.func10, Try.ntmps10
    go_wp2_with (first | (go_at_call 31; refine (impl_flow _ _ _ f _ hn hlen h).mono ?_; rw [hf]; rintro e w1 ⟨rfl, hb⟩; have HB : Hid (Below W.heap.size W w1) := hb; clear hb))
    go_ret2
    exact cnt_no HO.out HB.out
  have HF : Hid (flowB f n = true) := hf
  by_cases hm : m ≤ 10
  rotate_left
  · have HO : Hid (okE f n R m fuel = false) := by show _ = _; unfold okE; rw [decide_eq_false hm]; simp
    have hmI : (10 : Int) < (m : Int) := by omega
    clear hm
    go_enter Try.func10, Try.ntmps10
    go_wp2_with (first | (go_at_call 31; refine (impl_flow _ _ _ f _ hn hlen h).mono ?_; rw [hf]; rintro e w1 ⟨rfl, hb⟩; have HB : Hid (Below W.heap.size W w1) := hb; clear hb))
    go_ret2
    exact cnt_no HO.out HB.out
  have hmI : (m : Int) ≤ 10 := by omega
  cases hi : inR fuel 0 300
  · have HO : Hid (okE f n R m fuel = false) := by show _ = _; unfold okE; rw [hi]; simp
    go_enter Try.func10, Try.ntmps10
    go_wp2_with (first | (go_at_call 31; refine (impl_flow _ _ _ f _ hn hlen h).mono ?_; rw [hf]; rintro e w1 ⟨rfl, hb⟩; have HB : Hid (Below W.heap.size W w1) := hb; clear hb) | (go_at_call 32; refine (fuel_quiet hi _).mono ?_; rintro e w' ⟨rfl, hw'⟩; rw [hw']; clear hw' w'))
    go_ret2
    exact cnt_no HO.out HB.out
  have HI : Hid (inR fuel 0 300 = true) := hi
  obtain ⟨f0, f1⟩ := inR_out hi
  obtain ⟨fu, rfl⟩ := Int.eq_ofNat_of_zero_le f0
  have fu300 : fu ≤ 300 := by omega
  go_enter Try.func10, Try.ntmps10
  go_wp2_with (first | (go_at_call 31; refine (impl_flow _ _ _ f _ hn hlen h).mono ?_; rw [hf]; rintro e w1 ⟨rfl, hb⟩; have HB : Hid (Below W.heap.size W w1) := hb; clear hb) | (go_at_call 32; refine (fuel_quiet hi _).mono ?_; rintro e w' ⟨rfl, hw'⟩; rw [hw']; clear hw' w'))
  obtain ⟨Z, hZ⟩ : ∃ Z : Array Value, Hid (#[Value.int .i64 0, Value.int .i64 0, Value.int .i64 0, Value.int .i64 0, Value.int .i64 0, Value.int .i64 0, Value.int .i64 0, Value.int .i64 0, Value.int .i64 0, Value.int .i64 0, Value.int .i64 0, Value.int .i64 0, Value.int .i64 0, Value.int .i64 0, Value.int .i64 0, Value.int .i64 0, Value.int .i64 0, Value.int .i64 0, Value.int .i64 0, Value.int .i64 0, Value.int .i64 0, Value.int .i64 0, Value.int .i64 0, Value.int .i64 0, Value.int .i64 0, Value.int .i64 0, Value.int .i64 0, Value.int .i64 0, Value.int .i64 0, Value.int .i64 0, Value.int .i64 0, Value.int .i64 0, Value.int .i64 0, Value.int .i64 0, Value.int .i64 0, Value.int .i64 0, Value.int .i64 0, Value.int .i64 0, Value.int .i64 0, Value.int .i64 0, Value.int .i64 0, Value.int .i64 0, Value.int .i64 0, Value.int .i64 0, Value.int .i64 0, Value.int .i64 0, Value.int .i64 0, Value.int .i64 0, Value.int .i64 0, Value.int .i64 0, Value.int .i64 0, Value.int .i64 0, Value.int .i64 0, Value.int .i64 0, Value.int .i64 0, Value.int .i64 0, Value.int .i64 0, Value.int .i64 0, Value.int .i64 0, Value.int .i64 0, Value.int .i64 0, Value.int .i64 0, Value.int .i64 0, Value.int .i64 0] = Z) := ⟨_, rfl⟩
  have HZ0 : Hid (Z = Array.replicate 64 (.int .i64 0)) := by show _ = _; rw [← hZ.out]; rfl
  rw [hZ.out]
  have B0 : Hid (Below W.heap.size W (w1.alloc (.cells Z 63))) := HB.out.alloc HB.out.size _
  obtain ⟨g, hg⟩ : ∃ g, Hid (w1.heap.size = g) := ⟨_, rfl⟩
  have R0 : Hid ((w1.alloc (.cells Z 63)).rowIs g 63 64 (fun c => .int .i64 ((cntR f R fu c 0 : Nat) : Int))) := by
    show World.rowIs _ _ _ _ _
    rw [← hg.out]
    exact zero64 w1 _ Z HZ0.out
  have hgW : W.heap.size ≤ g := by have := HB.out.size; rw [← hg.out]; exact this
  rw [hg.out]
  obtain ⟨W2, hW2⟩ : ∃ W2, Hid (w1.alloc (.cells Z 63) = W2) := ⟨_, rfl⟩
  rw [hW2.out] at B0 R0 ⊢
  clear hW2 hZ HZ0 hg HB
  go_loopw [28] (fun vi wr => ∃ k : Nat, k ≤ m ∧ vi = .int .i64 k ∧ Hid (allW R k = true) ∧ Hid (wr.rowIs g 63 64 (fun c => .int .i64 ((cntR f R fu c k : Nat) : Int))) ∧ Hid (Below W.heap.size W wr)) (fun vi _ => m - (intOf vi).toNat)
  case atStart => exact ⟨0, Nat.zero_le _, rfl, rfl, R0, B0⟩
  case round =>
    obtain ⟨k, hk, rfl, HA, HC, HB2⟩ := hrel
    clear R0 B0
    have HLE : Hid (∀ c, cntR f R fu c k ≤ 3000) := fun c => by
      have := cnt_le (f := f) (R := R) (fuel := fu) c k
      have h2 : fu * k ≤ 300 * 10 := Nat.mul_le_mul fu300 (by omega)
      omega
    have hwW := HB2.out.size
    have hgo : g < wr.heap.size := HC.out.lt
    by_cases hlt : k < m
    rotate_left
    · have HE : Hid (k = m) := by show k = m; omega
      rw [HE.out] at HA HC HLE
      have HO : Hid (okE f n R m (fu : Int) = true) := by show _ = _; unfold okE; rw [HF.out, decide_eq_true hm, HI.out, HA.out]; rfl
      go_wp2_with fail
      refine (impl_edgesof g (fun c => cntR f R fu c m) _ HC HLE).mono ?_
      rintro e w3 ⟨v, rfl, hV, hB⟩
      have HR : Hid (CntAns f n R m (fu : Int) W (.returned (.tuple #[v, .bool true])) w3) := by
        refine ⟨v, by rw [HO.out], ?_, HB2.out.trans (hB.mono hwW)⟩
        unfold edgN edgZ
        rw [if_pos HO.out, if_pos HO.out]
        exact hV.low hwW
      clear hV hB
      go_wp2
      go_ret2
      exact HR.out
    have hltI : (k : Int) < (m : Int) := by omega
    obtain ⟨b1, o1, a', cap', ha1, hb1, hc1, hI⟩ := h1.out.row hf1.out HB2.out hlt
    subst ha1
    have HI1 : Hid (Ints wr a' (zsD 1 (rs k))) := hI
    have ER : Hid (zsD 1 (rs k) = R k) := by show _ = _; rw [← hR.out]
    have hlk := hrl.out k hlt
    have hzl : Hid ((R k).length = (rs k).len) := by show _ = _; rw [← ER.out, zsD_len]; omega
    rw [ER.out] at HI1
    clear hI
    obtain ⟨lk, hlk2⟩ : ∃ lk, Hid ((rs k).len = lk) := ⟨_, rfl⟩
    rw [hlk2.out] at hc1 hlk hzl
    obtain ⟨ws, hws⟩ : ∃ ws, Hid (R k = ws) := ⟨_, rfl⟩
    rw [hws.out] at HI1 hzl
    obtain ⟨wo, hwo⟩ : ∃ wo, wo = wr := ⟨_, rfl⟩
    subst hwo
    go_wp2_with fail
    refine (impl_pathof a a' n cap lk cap' (fu : Int) f ws _ hn hlen (h.out.kept HB2.out) hzl hlk HI1).mono ?_
    rw [okrun_of HF.out HI.out]
    rintro e w2 (⟨hw, q, pa, pc, hS, rfl, hM, hb⟩ | ⟨hw, rfl, hb⟩)
    rotate_left
    · have HO : Hid (okE f n R m (fu : Int) = false) := by show _ = _; unfold okE; rw [allW_no (by rw [hws.out]; exact hw) hlt]; simp
      have HB3 : Hid (Below W.heap.size W w2) := HB2.out.trans (hb.mono hwW)
      clear hb hw
      go_wp2
      go_ret2
      exact cnt_no HO.out HB3.out
    rw [Int.toNat_natCast] at hS
    obtain ⟨pl, pr, -⟩ := pth_in HF.out hw hS
    obtain ⟨p, hp⟩ : ∃ p, Hid (pthV f ws fu = p) := ⟨_, rfl⟩
    have EP : (flowTo f ws q).path = p := by rw [← hp.out, pth_is hS]
    rw [hp.out] at pl pr
    rw [EP] at hM
    have hq300 : q ≤ 300 := Nat.le_trans hS.2.1 fu300
    have hqI : (q : Int) ≤ 300 := by omega
    have hn8 : n ≤ 8 := (flow_out HF.out).1.2
    have PR : Hid (∀ j, j < q → 0 ≤ p.getD j 0 ∧ p.getD j 0 < 8) := fun j hj => by have := pr j hj; omega
    have PL : Hid (p.length = q) := pl
    have HC1 : Hid (w2.rowIs g 63 64 (fun c => .int .i64 ((cntR f R fu c k : Nat) : Int))) := HC.out.of_block (hb.block g HC.out.lt)
    have HNX : Hid (∀ c, cntR f R fu c (k + 1) = cntR f R fu c k + goneP p c (q - 1)) := fun c => by
      show cntR f R fu c k + goneP (pthV f (R k) fu) c ((pthV f (R k) fu).length - 1) = _
      rw [hws.out, hp.out, PL.out]
    have HAN : Hid (allW R (k + 1) = true) := allW_step HA.out (by rw [hws.out]; exact hw)
    have HB4 : Hid (Below W.heap.size W w2) := HB2.out.trans (hb.mono hwW)
    have HM : Hid (Mine w2 wo.heap.size pa p) := hM
    clear HC pl pr HA hS EP hq300 HI1 hM hb hw HB2
    go_wp2_with fail
    refine (impl_addpath g q pc wo.heap.size pa p (fun c => cntR f R fu c k) _ hgo HC1 HM PL hqI PR HLE).mono ?_
    rintro e w3 ⟨rfl, hr, hb⟩
    have H1 : Hid (w3.rowIs g 63 64 (fun c => .int .i64 ((cntR f R fu c (k + 1) : Nat) : Int))) := by
      show World.rowIs _ _ _ _ _
      refine hr.congr (fun c _ => ?_)
      rw [HNX.out]
    have H2 : Hid (Below W.heap.size W w3) := HB4.out.trans (hb.mono hgW)
    clear hr hb
    go_wp2
    go_roundw
    case rel => exact ⟨k + 1, by omega, by go_num, HAN, H1, H2⟩
    case measure => simp [intOf]; omega
end Go.Proofs.Ytgknofbkdgbokaa.walks
