/-
  What the specification's l8Rings, RingsIn and NeedsSpare answer, at all moves; they make new memory alone.
-/
import Derived.Test.YthjcgnldlhjjmabProg
import Derived.Test.YthjcgnldlhjjmabRingMath
import Derived.Test.YthjcgnldlhjjmabMoveBase
import Derived.Test.YthjcgnldlhjjmabInts
import Derived.Test.YthjcgnldlhjjmabOwnInts
import Derived.Test.YthjcgnldlhjjmabOwnLists
import Derived.Test.YthjcgnldlhjjmabRecsMove
import Derived.Test.YthjcgnldlhjjmabGoodSpec
import Derived.Test.YthjcgnldlhjjmabRingSpec
import Derived.WalkKit
import Derived.WalkSpells
import Derived.Below
import Derived.Handy
namespace Go.Proofs.Ythjcgnldlhjjmab.walks
open Go.RowKit Go.Proofs.Ythjcgnldlhjjmab.math Go.Proofs.Ythjcgnldlhjjmab.ints Go.Proofs.Ythjcgnldlhjjmab.lists
set_option linter.unusedVariables false
set_option maxRecDepth 100000

/-- The rings, each in a list of its own. -/
def ringZ (s : Int → Int) : Nat → List Int := fun k => (ringsTo s 10).getD k []
def RingsAns (s : Int → Int) (W : World) (e : Ending) (W' : World) : Prop := ∃ v X, e = .returned v ∧ OwnL W' W.heap.size v (ringsTo s 10).length (ringZ s) X ∧ Below W.heap.size W W'
/-- Whether the first j of a ring are not below p. -/
def lowB (r : List Int) (p : Int) : Nat → Bool
  | 0 => decide (0 < r.length)
  | j + 1 => lowB r p j && decide (p ≤ r.getD j 0)
theorem low_all (r : List Int) (p : Int) : ∀ j, j ≤ r.length → lowB r p j = (decide (r ≠ []) && (r.take j).all (fun x => decide (p ≤ x)))
  | 0, _ => by
    show decide (0 < r.length) = _
    rw [List.take_zero, List.all_nil, Bool.and_true]
    cases r with
    | nil => rfl
    | cons x r => simp
  | j + 1, h => by
    show (lowB r p j && decide (p ≤ r.getD j 0)) = _
    rw [low_all r p j (by omega), List.take_succ_eq_append_getElem (by omega), List.all_append, Bool.and_assoc]
    simp [List.getD, show j < r.length by omega]
theorem low_least (s : Int → Int) (p : Int) : lowB (ringL s p) p (ringL s p).length = leastR s p := by
  rw [low_all _ _ _ (Nat.le_refl _), List.take_of_length_le (Nat.le_refl _)]
  rfl
set_option maxHeartbeats 4000000 in
theorem spec_rings (a : Option Addr) (len cap : Nat) (zs : List Int) (W : World) (hz : Hid (zs.length = len * 2)) (hlen : len ≤ 1048576) (hG : Hid (GoodM zs len)) (h : Hid (Ints W a zs)) :
    Calls Try.prog 16 #[.slice a len cap] W fun e W' => RingsAns (intM zs len) W e W' := by
  obtain ⟨i0, hi, hz0, hz1, hz2⟩ := lists_parts lists_info
  obtain ⟨I, HI⟩ : ∃ I, Hid (intM zs len = I) := ⟨_, rfl⟩
  rw [HI.out]
  go_enter Try.func16, Try.ntmps16
  go_wp2
  go_loopw [3, 4] (fun vl vi wr => ∃ (m k : Nat) (X : Nat → Value) (v : Value), m ≤ 10 ∧ vi = .int .i64 m ∧ v = vl ∧ Hid ((ringsTo I m).length = k) ∧ k ≤ m ∧ Hid (OwnL wr W.heap.size v k (ringZ I) X) ∧ Hid (Below W.heap.size W wr)) (fun _ vi _ => 20 - (intOf vi).toNat)
  case atStart => exact ⟨0, 0, fun _ => .slice none 0 0, _, by omega, rfl, rfl, rfl, by omega, ownL_nil _ _ _ _, Below.refl _ _⟩
  case round =>
    obtain ⟨m, k, X, v, hm, rfl, rfl, HK, hkm, HO, HB⟩ := hrel
    obtain ⟨wo, hwo⟩ : ∃ wo, wo = wr := ⟨_, rfl⟩
    subst hwo
    have hWs := HB.out.size
    by_cases hlt : m < 10
    · go_wp2_with fail
      refine (spec_ring _ _ _ zs m _ hlt hz hlen hG (h.out.kept HB.out)).mono ?_
      rw [HI.out]
      rintro e w1 ⟨u, rfl, hu, hB1⟩
      obtain ⟨ua, uc, hue, hUM⟩ := hu.mine
      obtain ⟨r, hr⟩ : ∃ r, Hid (ringL I (m : Int) = r) := ⟨_, rfl⟩
      rw [hr.out] at hue hu hUM
      obtain ⟨ul, hul⟩ : ∃ ul, Hid (r.length = ul) := ⟨_, rfl⟩
      have hul10 : ul ≤ 10 := by rw [← hul.out, ← hr.out]; exact ring_len _ _
      rw [hul.out] at hue
      subst hue
      have HU : Hid (Own w1 wo.heap.size (.slice ua ul uc) r) := hu
      have HUI : Hid (Ints w1 ua r) := hUM.ints
      have HB1 : Hid (Below wo.heap.size wo w1) := hB1
      have HO1 : Hid (OwnL w1 W.heap.size v k (ringZ I) X) := HO.out.grow hB1
      have HW1 : Hid (Below W.heap.size W w1) := HB.out.trans (hB1.mono hWs)
      have hW1s := HW1.out.size
      have HL0 : Hid (decide (0 < ul) = lowB r (m : Int) 0) := by
        show decide (0 < ul) = decide (0 < r.length)
        rw [hul.out]
      clear hu hB1 hUM
      go_wp2
      rw [HL0.out]
      go_loop [6, 21] (fun vb vj => ∃ (j : Nat) (b : Bool), j ≤ ul ∧ vj = .int .i64 j ∧ vb = .bool b ∧ Hid (lowB r (m : Int) j = b)) (fun _ vj => 20 - (intOf vj).toNat)
      case atStart => exact ⟨0, _, by omega, rfl, rfl, rfl⟩
      case round =>
        obtain ⟨j, b, hj, rfl, rfl, HL⟩ := hrel
        by_cases hjl : j < ul
        · obtain ⟨b', off, ha, hcell⟩ := HUI.out.at (Below.refl _ _) (k := j) (by rw [hul.out]; exact hjl)
          subst ha
          obtain ⟨x, hx⟩ : ∃ x, Hid (r.getD j 0 = x) := ⟨_, rfl⟩
          rw [hx.out] at hcell
          have HL' : Hid (lowB r (m : Int) (j + 1) = (b && decide ((m : Int) ≤ x))) := by
            show (lowB r (m : Int) j && decide ((m : Int) ≤ r.getD j 0)) = _
            rw [HL.out, hx.out]
          cases b
          · go_wp2
            go_round
            case rel => exact ⟨j + 1, false, by omega, by go_num, rfl, by rw [HL'.out]; rfl⟩
            case measure => simp [intOf]; omega
          · obtain ⟨d, hd⟩ : ∃ d, decide ((m : Int) ≤ x) = d := ⟨_, rfl⟩
            rw [hd] at HL'
            go_wp2
            go_round
            case rel => exact ⟨j + 1, d, by omega, by go_num, by first | rfl | rw [hd], by rw [HL'.out]; rfl⟩
            case measure => simp [intOf]; omega
        · have hju : j = ul := by omega
          have HLE : Hid (leastR I (m : Int) = b) := by
            show leastR I (m : Int) = b
            rw [← low_least, hr.out, hul.out, ← hju]; exact HL.out
          cases b
          · have HK2 : Hid ((ringsTo I (m + 1)).length = k) := by
              show _ = _
              rw [rings_skip HLE.out]; exact HK.out
            go_wp2
            go_roundw
            case rel => exact ⟨m + 1, k, X, _, by omega, by go_num, rfl, HK2, by omega, HO1, HW1⟩
            case measure => simp [intOf]; omega
          · have HK2 : Hid ((ringsTo I (m + 1)).length = k + 1) := by
              show _ = _
              rw [rings_go HLE.out, List.length_append, HK.out]; rfl
            have HZ : Hid (Own w1 wo.heap.size (.slice ua ul uc) (ringZ I k)) := by
              have := rings_at hlt HLE.out
              rw [HK.out, hr.out] at this
              show Own w1 wo.heap.size (.slice ua ul uc) ((ringsTo I 10).getD k [])
              rw [this]; exact HU.out
            go_wp2_with (first
              | (at_builtin; refine wpList_append_own _ rfl _ _ 41 rfl W.heap.size 43 i0 (.slice none 0 0) 1 24 Try.underlying41 hi hz0 hz1 hz2 rfl (by decide) _ k ((List.range k).map X) rfl (World.ownsRow.alloc HO1.out.row _) ⟨w1.heap.size, 0, none⟩ 1 1 [.slice ua ul uc] rfl rfl (new_cell w1 _ _) (by intro q hq; simp at hq; subst hq; rfl) (by unfold maxLen; omega) (by omega) (by simp; omega) ?_)
              | fail)
            intro v2 w2 hown hgrow _
            have HO2 : Hid (OwnL w2 W.heap.size v2 (k + 1) (ringZ I) (updX X k (.slice ua ul uc))) := HO.out.snoc (B1 := 0) hWs HB1.out HZ.out hown hgrow
            have HB2 : Hid (Below W.heap.size W w2) := (HW1.out.alloc hW1s _).grown hgrow (by simp; omega) (fun j hj => (World.ownsRow.lt HO1.out.row j hj).1)
            clear hown hgrow
            go_wp2
            go_roundw
            case rel => exact ⟨m + 1, k + 1, _, _, by omega, by go_num, rfl, HK2, by omega, HO2, HB2⟩
            case measure => simp [intOf]; omega
    · have hm10 : m = 10 := by omega
      have HA : Hid (RingsAns I W (.returned v) wo) := ⟨v, X, rfl, by rw [← hm10, HK.out]; exact HO.out, HB.out⟩
      go_wp2
      go_ret
      exact HA.out
/-- What the specification's RingsIn answers. -/
def SpecR (ok : Bool) (s : Int → Int) (W : World) (e : Ending) (W' : World) : Prop :=
  Below W.heap.size W W' ∧ ((ok = true ∧ ∃ v X, e = .returned (.tuple #[v, .bool true]) ∧ OwnL W' W.heap.size v (ringsTo s 10).length (ringZ s) X) ∨ (ok = false ∧ e = .returned (.tuple #[.slice none 0 0, .bool false])))
theorem ownL_low {w : World} {B B' : Nat} {v : Value} {k : Nat} {Z : Nat → List Int} {X : Nat → Value} (h : OwnL w B v k Z X) (hB : B' ≤ B) : OwnL w B' v k Z X := ⟨row_low h.row hB, fun j hj => own_low8 (h.own j hj) hB, h.ap⟩
end Go.Proofs.Ythjcgnldlhjjmab.walks
