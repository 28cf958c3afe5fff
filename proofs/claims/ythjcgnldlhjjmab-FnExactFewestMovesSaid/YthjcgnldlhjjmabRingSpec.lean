/-
  What the specification's l8Into and l8Ring answer, at good moves; they make new memory alone.
-/
import Derived.Test.YthjcgnldlhjjmabProg
import Derived.Test.YthjcgnldlhjjmabRingMath
import Derived.Test.YthjcgnldlhjjmabMoveBase
import Derived.Test.YthjcgnldlhjjmabInts
import Derived.Test.YthjcgnldlhjjmabOwnInts
import Derived.Test.YthjcgnldlhjjmabRecsMove
import Derived.Test.YthjcgnldlhjjmabGoodSpec
import Derived.WalkKit
import Derived.WalkSpells
import Derived.Below
import Derived.Handy
import Derived.Laws.OwnMore
import Derived.Deep.LoopGhost
namespace Go.Proofs.Ythjcgnldlhjjmab.walks
open Go.RowKit Go.Proofs.Ythjcgnldlhjjmab.math Go.Proofs.Ythjcgnldlhjjmab.ints
set_option linter.unusedVariables false
set_option maxRecDepth 100000

set_option maxHeartbeats 2000000 in
theorem spec_into (a : Option Addr) (len cap : Nat) (zs : List Int) (p : Int) (W : World) (hz : Hid (zs.length = len * 2)) (hlen : len ≤ 1048576) (hG : Hid (GoodM zs len)) (h : Hid (Ints W a zs)) :
    Calls Try.prog 27 #[.slice a len cap, .int .i64 p] W fun e W' => e = .returned (.int .i64 (intM zs len p)) ∧ Below W.heap.size W W' := by
  go_enter Try.func27, Try.ntmps27
  go_wp2
  go_loopw [9] (fun vi wr => ∃ k : Nat, k ≤ len ∧ vi = .int .i64 k ∧ Hid (∀ j, j < k → toM zs j ≠ p) ∧ Hid (Below W.heap.size W wr)) (fun vi _ => len - (intOf vi).toNat)
  case atStart => exact ⟨0, Nat.zero_le _, rfl, fun j hj => by omega, Below.refl _ _⟩
  case round =>
    obtain ⟨k, hk, rfl, HN, HB⟩ := hrel
    by_cases hlt : k < len
    · obtain ⟨b, off, x, y, ha, hb, c0, c1, HX, HY⟩ := move_at h.out hz.out HB.out hlt
      have hbw : b < wr.heap.size := by have := HB.out.size; omega
      have HB1 : Hid (Below W.heap.size W (wr.alloc (.cells #[.int .i64 x, .int .i64 y] 33))) := HB.out.alloc HB.out.size _
      subst ha
      by_cases e : y = p
      · have HE : Hid (intM zs len p = x) := by
          show intM zs len p = x
          rw [int_of k hG.out hlt (by rw [HY.out]; exact e)]
          exact HX.out
        subst e
        go_wp2
        go_ret
        exact ⟨by rw [HE.out]; rfl, HB1.out⟩
      · have HN' : Hid (∀ j, j < k + 1 → toM zs j ≠ p) := by
          show ∀ j, j < k + 1 → _
          intro j hj
          by_cases q : j = k
          · rw [q, HY.out]; exact e
          · exact HN.out j (by omega)
        have e1 : (y == p) = false := by simpa using e
        have e2 : decide (y = p) = false := decide_eq_false e
        go_wp2
        go_roundw
        case rel => exact ⟨k + 1, by omega, by go_num, HN', HB1⟩
        case measure => simp [intOf]; omega
    · have HE : Hid (intM zs len p = -1) := int_none (fun j hj => HN.out j (by omega))
      go_wp2
      go_ret
      exact ⟨by rw [HE.out]; rfl, HB.out⟩
/-- f 0, f 1 and so on. -/
def upsL (f : Nat → Int) : Nat → List Int
  | 0 => []
  | k + 1 => upsL f k ++ [f k]
theorem ups_len (f : Nat → Int) : ∀ k, (upsL f k).length = k
  | 0 => rfl
  | k + 1 => by simp [upsL, ups_len f k]
theorem ups_at (f : Nat → Int) : ∀ {k j}, j < k → (upsL f k).getD j 0 = f j
  | 0, j, h => by omega
  | k + 1, j, h => by
    show (upsL f k ++ [f k]).getD j 0 = f j
    by_cases e : j = k
    · subst e
      simp [List.getD, ups_len]
    · have hj : j < (upsL f k).length := by rw [ups_len]; omega
      have := ups_at f (k := k) (j := j) (by omega)
      simp only [List.getD] at this ⊢
      rw [List.getElem?_append_left hj]
      exact this
/-- A list of ints in memory of its own. -/
def RingAns (r : List Int) (W : World) (e : Ending) (W' : World) : Prop := ∃ v, e = .returned v ∧ Own W' W.heap.size v r ∧ Below W.heap.size W W'
theorem own_lit (W : World) (B : Nat) (hB : B ≤ W.heap.size) (x : Int) : Own (W.alloc (.cells #[.int .i64 x] 3)) B (.slice (some ⟨W.heap.size, 0, none⟩) 1 1) [x] := by
  unfold Own
  exact World.ownsRow_lit W #[.int .i64 x] 1 hB (by unfold maxLen; omega) rfl
theorem park8 {P : Prop} (h : Hid P) : P := h
theorem own_low8 {w : World} {B B' : Nat} {v : Value} {zs : List Int} (h : Own w B v zs) (hB : B' ≤ B) : Own w B' v zs :=
  ⟨h.1, h.2.imp id fun ⟨g, cap, cur, a, b, r⟩ => ⟨g, cap, cur, a, Nat.le_trans hB b, r⟩⟩
theorem own_kept8 {w w' : World} {B : Nat} {v : Value} {zs : List Int} (h : Own w B v zs) (hb : Below w.heap.size w w') : Own w' B v zs :=
  World.ownsRow.kept h (row := none) ⟨hb.os, hb.tape, hb.output, hb.size, fun i hi _ => hb.block i hi⟩ (by
    cases q : v.ownBlock with
    | none => exact Or.inl rfl
    | some g => exact Or.inr (by simp))
set_option maxHeartbeats 4000000 in
theorem spec_ring (a : Option Addr) (len cap : Nat) (zs : List Int) (m : Nat) (W : World) (hm : m < 10) (hz : Hid (zs.length = len * 2)) (hlen : len ≤ 1048576) (hG : Hid (GoodM zs len)) (h : Hid (Ints W a zs)) :
    Calls Try.prog 21 #[.slice a len cap, .int .i64 (m : Int)] W fun e W' => RingAns (ringL (intM zs len) (m : Int)) W e W' := by
  obtain ⟨i0, hi, hz0, hz1, hz2⟩ := info_parts row_info
  have hP : Hid (Pl (m : Int)) := by show Pl _; unfold Pl; omega
  have hC : Hid (Cl (intM zs len)) := int_cl hG.out
  obtain ⟨I, HI⟩ : ∃ I, Hid (intM zs len = I) := ⟨_, rfl⟩
  rw [HI.out] at hC ⊢
  have HB0 : Hid (Below W.heap.size W (W.alloc (.cells #[.int .i64 (m : Int)] 3))) := (Below.refl _ _).alloc (Nat.le_refl _) _
  have HO0 : Hid (Own (W.alloc (.cells #[.int .i64 (m : Int)] 3)) W.heap.size (.slice (some ⟨W.heap.size, 0, none⟩) 1 1) [(m : Int)]) := own_lit W _ (Nat.le_refl _) _
  go_enter Try.func21, Try.ntmps21
  go_wp2_with fail
  refine (spec_into _ _ _ zs _ _ hz hlen hG (h.out.kept HB0.out)).mono ?_
  rw [HI.out]
  rintro e w1 ⟨rfl, hB⟩
  have HB1 : Hid (Below W.heap.size W w1) := HB0.out.trans (hB.mono HB0.out.size)
  have HO1 : Hid (Own w1 W.heap.size (.slice (some ⟨W.heap.size, 0, none⟩) 1 1) [(m : Int)]) := World.ownsRow.kept HO0.out (row := none) ⟨hB.os, hB.tape, hB.output, hB.size, fun i hi _ => hB.block i hi⟩ (Or.inr (by simp [Value.ownBlock]))
  clear hB HB0 HO0
  go_wp2
  go_loopg [5, 6] 12 (fun gk vb va wr => ∃ (k : Nat) (v : Value) (x : Int), k + gk = 13 ∧ 1 ≤ k ∧ k ≤ 11 ∧ v = vb ∧ va = .int .i64 x ∧ Hid (itS I (m : Int) k = x) ∧ Hid (∀ j, 1 ≤ j → j < k → itS I (m : Int) j ≠ (m : Int)) ∧ Hid (Own wr W.heap.size v (upsL (itS I (m : Int)) k)) ∧ Hid (Below W.heap.size W wr))
  case atStart => exact ⟨1, _, _, by omega, by omega, by omega, rfl, rfl, rfl, fun j h1 h2 => by omega, HO1, HB1⟩
  case round =>
    obtain ⟨k, v, x, hk, hk1, hk2, rfl, rfl, HX, HN, HO, HB⟩ := hrel
    clear HB1 HO1
    obtain ⟨va, vc, hv, hM⟩ := HO.out.mine
    have hul : Hid ((upsL (itS I (m : Int)) k).length = k) := ups_len _ _
    rw [hul.out] at hv
    subst hv
    have HM : Hid (Ints wr va (upsL (itS I (m : Int)) k)) := hM.ints
    have hsz : W.heap.size ≤ wr.heap.size := HB.out.size
    clear hM
    by_cases hx : x = (m : Int)
    · by_cases h1 : k = 1
      · subst h1
        have HE : Hid (ringL I (m : Int) = []) := ring_nil (fun q => q.1 (HX.out.trans hx))
        subst hx
        go_wp2
        go_ret
        exact ⟨_, rfl, by rw [HE.out]; exact own_nil _ _, HB.out⟩
      · have ho : OnC I (m : Int) := ⟨HN.out 1 (by omega) (by omega), k, hk1, HX.out.trans hx⟩
        obtain ⟨n, n2, n10, en⟩ := ho.short hC.out hP.out
        have hkn : k ≤ n := Nat.le_of_not_lt (fun r => HN.out n (by omega) r en)
        have HP : Hid (perTo I (m : Int) 10 = k) := per_is hk1 (by omega) (HX.out.trans hx) HN.out
        have HE : Hid (ringL I (m : Int) = (m : Int) :: downL (itS I (m : Int)) (k - 1) (k - 1)) := by
          show ringL I (m : Int) = _
          rw [ring_on hC.out hP.out ho, HP.out]
        have hk10 : k ≤ 10 := by omega
        have d1 : ((k : Int) == 1) = false := by simp; omega
        have d2 : decide ((k : Int) = 1) = false := decide_eq_false (by omega)
        have hkI : (2 : Int) ≤ (k : Int) := by omega
        have hkJ : (k : Int) ≤ 10 := by omega
        subst hx
        clear h1 ho en hkn n2 n10 HP
        obtain ⟨wo, hwo⟩ : ∃ wo, wo = wr := ⟨_, rfl⟩
        subst hwo
        have HO2 : Hid (Own (wo.alloc (.cells #[.int .i64 (m : Int)] 3)) wo.heap.size (.slice (some ⟨wo.heap.size, 0, none⟩) 1 1) [(m : Int)]) := own_lit wo _ (Nat.le_refl _) _
        have HB2 : Hid (Below wo.heap.size wo (wo.alloc (.cells #[.int .i64 (m : Int)] 3))) := (Below.refl _ _).alloc (Nat.le_refl _) _
        go_wp2
        go_loopg [7, 8] 12 (fun gk vb va wr => ∃ (c : Nat) (v : Value), c + gk = 12 ∧ c ≤ k - 1 ∧ v = vb ∧ va = .int .i64 ((k : Int) - 1 - (c : Int)) ∧ Hid (Own wr wo.heap.size v ((m : Int) :: downL (itS I (m : Int)) (k - 1) c)) ∧ Hid (Below wo.heap.size wo wr))
        case atStart => exact ⟨0, _, by omega, by omega, rfl, by simp, HO2, HB2⟩
        case round =>
          obtain ⟨c, v, hc, hc1, rfl, rfl, HO3, HB3⟩ := hrel
          clear HO2 HB2
          have hdl : Hid ((downL (itS I (m : Int)) (k - 1) c).length = c) := down_len _ _ _
          have hsz3 : wo.heap.size ≤ wr.heap.size := HB3.out.size
          by_cases hlt : c < k - 1
          · obtain ⟨b, off, ha, hcell⟩ := HM.out.at HB3.out (k := k - 1 - c) (by rw [hul.out]; omega)
            rw [ups_at _ (show k - 1 - c < k by omega)] at hcell
            subst ha
            obtain ⟨i, hi'⟩ : ∃ i : Nat, Hid (k - 1 - c = i) := ⟨_, rfl⟩
            rw [hi'.out] at hcell
            have hii : (k : Int) - 1 - (c : Int) = (i : Int) := by have := hi'.out; omega
            rw [hii]
            have hi0 : (0 : Int) < (i : Int) := by have := hi'.out; omega
            have hi1 : (i : Int) < (k : Int) := by omega
            have HI2 : Hid ((i : Int) - 1 = (k : Int) - 1 - ((c + 1 : Nat) : Int)) := by show _ = _; omega
            clear hii
            obtain ⟨y, hy⟩ : ∃ y, Hid (itS I (m : Int) i = y) := ⟨_, rfl⟩
            rw [hy.out] at hcell
            have HD : Hid (downL (itS I (m : Int)) (k - 1) (c + 1) = downL (itS I (m : Int)) (k - 1) c ++ [y]) := by
              show downL (itS I (m : Int)) (k - 1) c ++ [itS I (m : Int) (k - 1 - c)] = _
              rw [hi'.out, hy.out]
            obtain ⟨D, hD⟩ : ∃ D, Hid ((m : Int) :: downL (itS I (m : Int)) (k - 1) c = D) := ⟨_, rfl⟩
            have hDl : Hid (D.length = c + 1) := by rw [← hD.out]; show List.length _ = _; rw [List.length_cons, hdl.out]
            rw [hD.out] at HO3
            go_wp2_with (first
              | (at_builtin; refine wpList_append_own _ rfl _ _ 43 rfl wo.heap.size 3 i0 (.int .i64 0) 1 8 Try.underlying43 hi hz0 hz1 hz2 rfl (by decide) _ _ _ rfl (World.ownsRow.alloc HO3.out _) ⟨wr.heap.size, 0, none⟩ 1 1 [.int .i64 y] rfl rfl ?c1 ?c2 ?c3 ?c4 ?c5 ?_)
              | go_in)
            case c1 => exact new_one _ _ _
            case c2 => exact one_of _
            case c3 => rw [hDl.out]; unfold maxLen; omega
            case c4 => rw [hDl.out]; omega
            case c5 => simp; omega
            · intro v' w1 hown' hgrow _
              obtain ⟨o1, o2, o3⟩ := Own.snoc HO3.out hsz3 HB3.out hown' hgrow
              have HO4 : Hid (Own w1 wo.heap.size v' ((m : Int) :: (downL (itS I (m : Int)) (k - 1) c ++ [y]))) := by
                rw [← List.cons_append, hD.out]; exact o1
              have HB4 : Hid (Below wo.heap.size wo w1) := o2
              clear hown' hgrow o1 o2
              go_wp2
              go_roundg (gk - 1)
              case measure => omega
              case rel => exact ⟨c + 1, _, by omega, by omega, rfl, by rw [HI2.out], by rw [HD.out]; exact HO4, HB4⟩
          · have hck : c = k - 1 := by omega
            have hii : (k : Int) - 1 - (c : Int) = 0 := by omega
            rw [hii]
            rw [hck] at HO3
            clear hii
            go_wp2
            go_ret
            refine ⟨_, rfl, ?_, HB.out.trans (HB3.out.mono hsz)⟩
            rw [HE.out]
            exact own_low8 HO3.out hsz
    · by_cases hx0 : x < 0
      · have HE : Hid (ringL I (m : Int) = []) := ring_nil (fun q => by have := q.pl hC.out hP.out k; rw [HX.out] at this; unfold Pl at this; omega)
        have e1 : (x == (m : Int)) = false := by simpa using hx
        have e2 : decide (x = (m : Int)) = false := decide_eq_false hx
        go_wp2
        go_ret
        exact ⟨_, rfl, by rw [HE.out]; exact own_nil _ _, HB.out⟩
      · have e1 : (x == (m : Int)) = false := by simpa using hx
        have e2 : decide (x = (m : Int)) = false := decide_eq_false hx
        have e3 : decide (x < 0) = false := decide_eq_false hx0
        have hx1 : 0 ≤ x := by omega
        by_cases h10 : k = 11
        · have HE : Hid (ringL I (m : Int) = []) := by
            show ringL I (m : Int) = []
            have : perTo I (m : Int) 10 = 0 := by
              apply Classical.byContradiction
              intro q
              obtain ⟨q0, q1, q2, _⟩ := per_out q
              exact HN.out _ q0 (by omega) q2
            unfold ringL
            rw [if_pos (by omega)]
          subst h10
          go_wp2
          go_ret
          exact ⟨_, rfl, by rw [HE.out]; exact own_nil _ _, HB.out⟩
        · have hk10 : (k : Int) ≤ 10 := by omega
          have e4 : decide (10 < (k : Int)) = false := decide_eq_false (by omega)
          have HN' : Hid (∀ j, 1 ≤ j → j < k + 1 → itS I (m : Int) j ≠ (m : Int)) := by
            show ∀ j, 1 ≤ j → j < k + 1 → _
            intro j j1 j2
            by_cases q : j = k
            · rw [q, HX.out]; exact hx
            · exact HN.out j j1 (by omega)
          have HU : Hid (upsL (itS I (m : Int)) (k + 1) = upsL (itS I (m : Int)) k ++ [x]) := by
            show upsL (itS I (m : Int)) k ++ [itS I (m : Int) k] = _
            rw [HX.out]
          clear hx hx0
          go_wp2_with (first
            | (at_builtin; refine wpList_append_own _ rfl _ _ 43 rfl W.heap.size 3 i0 (.int .i64 0) 1 8 Try.underlying43 hi hz0 hz1 hz2 rfl (by decide) _ _ _ rfl (World.ownsRow.alloc HO.out _) ⟨wr.heap.size, 0, none⟩ 1 1 [.int .i64 x] rfl rfl ?c1 ?c2 ?c3 ?c4 ?c5 ?_)
            | (go_at_call 27; refine park8 ?_)
            | go_in)
          case c1 => exact new_one _ _ _
          case c2 => exact one_of _
          case c3 => rw [hul.out]; unfold maxLen; omega
          case c4 => rw [hul.out]; omega
          case c5 => simp; omega
          · intro v' w1 hown' hgrow _
            obtain ⟨o1, o2, o3⟩ := Own.snoc HO.out hsz HB.out hown' hgrow
            have HO4 : Hid (Own w1 W.heap.size v' (upsL (itS I (m : Int)) k ++ [x])) := o1
            have HB4 : Hid (Below W.heap.size W w1) := o2
            clear hown' hgrow o1 o2
            go_wp2_with fail
            refine (spec_into _ _ _ zs _ _ hz hlen hG (h.out.kept HB4.out)).mono ?_
            rw [HI.out]
            rintro e w2 ⟨rfl, hB⟩
            have HB5 : Hid (Below W.heap.size W w2) := HB4.out.trans (hB.mono HB4.out.size)
            have HO5 : Hid (Own w2 W.heap.size v' (upsL (itS I (m : Int)) k ++ [x])) := own_kept8 HO4.out hB
            clear hB HO4 HB4
            go_wp2
            go_roundg (gk - 1)
            case measure => omega
            case rel => exact ⟨k + 1, _, _, by omega, by omega, by omega, rfl, rfl, by show I (itS I (m : Int) k) = _; rw [HX.out], HN', by rw [HU.out]; exact HO5, HB5⟩
end Go.Proofs.Ythjcgnldlhjjmab.walks
