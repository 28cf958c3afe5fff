/-
  What the specification's GoodMoves answers, at every list; it makes new memory alone.
-/
import Derived.Test.YthjcgnldlhjjmabProg
import Derived.Test.YthjcgnldlhjjmabMoveMath
import Derived.Test.YthjcgnldlhjjmabMoveBase
import Derived.Test.YthjcgnldlhjjmabInts
import Derived.Test.YthjcgnldlhjjmabRecsMove
import Derived.WalkKit
import Derived.WalkSpells
import Derived.Below
import Derived.Handy
namespace Go.Proofs.Ythjcgnldlhjjmab.walks
open Go.RowKit Go.Proofs.Ythjcgnldlhjjmab.math Go.Proofs.Ythjcgnldlhjjmab.ints
set_option linter.unusedVariables false

/-- The two numbers of one move. -/
theorem move_at {W wr : World} {a : Option Addr} {zs : List Int} {len k : Nat} (h : Ints W a zs) (hz : zs.length = len * 2) (hB : Below W.heap.size W wr) (hk : k < len) : ∃ b off x y, a = some ⟨b, off, none⟩ ∧ b < W.heap.size ∧ wr.cell? ⟨b, off + k * 2, none⟩ = some (.int .i64 x) ∧ wr.cell? ⟨b, off + k * 2 + 1, none⟩ = some (.int .i64 y) ∧ Hid (frM zs k = x) ∧ Hid (toM zs k = y) := by
  obtain ⟨b, off, ha, hb, c0, c1⟩ := Move_at h hz hB hk
  exact ⟨b, off, _, _, ha, hb, c0, c1, rfl, rfl⟩

set_option maxHeartbeats 2000000 in
set_option maxRecDepth 100000 in
theorem spec_good8 (a : Option Addr) (len cap : Nat) (zs : List Int) (W : World) (hz : Hid (zs.length = len * 2)) (hlen : len ≤ 1048576) (hcap : len ≤ cap) (hcm : cap ≤ maxLen) (h : Hid (Ints W a zs)) :
    Calls Try.prog 9 #[.slice a len cap] W fun e W' => e = .returned (.bool (movesB zs len)) ∧ Below W.heap.size W W' := by
  unfold maxLen at hcm
  go_enter Try.func9, Try.ntmps9
  go_wp2
  go_loopw [9] (fun vi wr => ∃ k : Nat, k ≤ len ∧ vi = .int .i64 k ∧ Hid (GoodM zs k) ∧ Hid (Below W.heap.size W wr)) (fun vi _ => len - (intOf vi).toNat)
  case atStart => exact ⟨0, Nat.zero_le _, rfl, fun j hj => by omega, Below.refl _ _⟩
  case round =>
    obtain ⟨k, hk, rfl, HG, HB⟩ := hrel
    obtain ⟨wo, hwo⟩ : ∃ wo, wo = wr := ⟨_, rfl⟩
    subst hwo
    by_cases hlt : k < len
    · obtain ⟨b, off, x, y, ha, hb, c0, c1, HX, HY⟩ := move_at h.out hz.out HB.out hlt
      have hbw : b < wo.heap.size := by have := HB.out.size; omega
      have HB1 : Hid (Below W.heap.size W (wo.alloc (.cells #[.int .i64 x, .int .i64 y] 33))) := HB.out.alloc HB.out.size _
      cases hx : inR x 0 9
      · have HE : Hid (movesB zs len = false) := moves_fr hlt (by rw [HX.out]; exact hx)
        subst ha
        go_wp2_with (go_at_call 14; refine (spec_place _ _).mono ?_; rw [hx]; rintro e w' ⟨rfl, rfl⟩)
        go_ret
        exact ⟨by rw [HE.out]; rfl, HB1.out⟩
      cases hy : inR y 0 9
      · have HE : Hid (movesB zs len = false) := moves_to hlt (by rw [HY.out]; exact hy)
        subst ha
        go_wp2_with (go_at_call 14; refine (spec_place _ _).mono ?_; (first | rw [hx] | rw [hy]); rintro e w' ⟨rfl, rfl⟩)
        go_ret
        exact ⟨by rw [HE.out]; rfl, HB1.out⟩
      have hka : (k : Int) ≤ (cap : Int) := by omega
      subst ha
      go_wp2_with (go_at_call 14; refine (spec_place _ _).mono ?_; (first | rw [hx] | rw [hy]); rintro e w' ⟨rfl, rfl⟩)
      go_loopw [28] (fun vj w2 => ∃ j : Nat, j ≤ k ∧ vj = .int .i64 j ∧ Hid (∀ i, i < j → toM zs i ≠ toM zs k) ∧ Hid (Below W.heap.size W w2) ∧ Hid (w2.cell? ⟨wo.heap.size, 1, none⟩ = some (.int .i64 y)) ∧ wo.heap.size < w2.heap.size) (fun vj _ => k - (intOf vj).toNat)
      case atStart => exact ⟨0, Nat.zero_le _, rfl, fun i hi => by omega, HB1, by show World.cell? _ _ = _; simp, by simp⟩
      case round =>
        obtain ⟨j, hj, rfl, HN, HB2, HC, hsz⟩ := hrel
        by_cases hjl : j < k
        · obtain ⟨b', off', u, v, ha, hb', c2, c3, HU, HV⟩ := move_at h.out hz.out HB2.out (show j < len by omega)
          obtain ⟨rfl, rfl⟩ : b = b' ∧ off = off' := by simpa using ha
          have hbwr : b < wr.heap.size := by omega
          have HB3 : Hid (Below W.heap.size W (wr.alloc (.cells #[.int .i64 u, .int .i64 v] 33))) := HB2.out.alloc HB2.out.size _
          have c4 := HC.out
          by_cases e : v = y
          · have HE : Hid (movesB zs len = false) := moves_two hjl hlt (by rw [HV.out, HY.out]; exact e)
            subst e
            go_wp2
            go_ret
            exact ⟨by rw [HE.out]; rfl, HB3.out⟩
          · have HN' : Hid (∀ i, i < j + 1 → toM zs i ≠ toM zs k) := by
              show ∀ i, i < j + 1 → _
              intro i hi
              by_cases q : i = j
              · rw [q, HV.out, HY.out]; exact e
              · exact HN.out i (by omega)
            have e1 : (v == y) = false := by simpa using e
            have e2 : decide (v = y) = false := decide_eq_false e
            go_wp2
            go_roundw
            case rel => exact ⟨j + 1, by omega, by go_num, HN', HB3, by show World.cell? _ _ = _; rw [World.cell?_alloc_past _ _ _ hsz]; exact HC.out, by simp; omega⟩
            case measure => simp [intOf]; omega
        · have HG' : Hid (GoodM zs (k + 1)) := good_step HG.out (by rw [HX.out]; exact hx) (by rw [HY.out]; exact hy) (fun i hi => HN.out i (by omega))
          go_wp2
          go_roundw
          case rel => exact ⟨k + 1, by omega, by go_num, HG', HB2⟩
          case measure => simp [intOf]; omega
    · have HE : Hid (GoodM zs len) := by
        show GoodM zs len
        rw [show len = k by omega]; exact HG.out
      by_cases h10 : len ≤ 10
      · have HM : Hid (movesB zs len = true) := moves_mk h10 HE.out
        have d : decide ((len : Int) ≤ 10) = true := decide_eq_true (by omega)
        go_wp2
        go_ret
        exact ⟨by rw [HM.out]; rfl, HB.out⟩
      · have HM : Hid (movesB zs len = false) := moves_long (by omega)
        have d : decide ((len : Int) ≤ 10) = false := decide_eq_false (by omega)
        have h10' : (10 : Int) < (len : Int) := by omega
        clear h10
        go_wp2
        go_ret
        exact ⟨by rw [HM.out]; rfl, HB.out⟩
end Go.Proofs.Ythjcgnldlhjjmab.walks
