/-
  What the specification's BackStep does: rising names, one name left out, one step back, all steps back.
-/
import Derived.Test.YtngjodklbkahbaaProg
import Derived.Test.YtngjodklbkahbaaMagMath
import Derived.Test.YtngjodklbkahbaaCodeMath
import Derived.Test.YtngjodklbkahbaaRunMath
import Derived.Test.YtngjodklbkahbaaNamesMath
import Derived.Test.YtngjodklbkahbaaBackMath
import Derived.Test.YtngjodklbkahbaaInts
import Derived.Test.YtngjodklbkahbaaOwnInts
import Derived.Test.YtngjodklbkahbaaRecsInstr
import Derived.Test.YtngjodklbkahbaaCodeGood
import Derived.Test.YtngjodklbkahbaaPutSpec
import Derived.Test.YtngjodklbkahbaaNamesSpec
import Derived.Test.YtngjodklbkahbaaNeedSpec
import Derived.WalkKit
import Derived.WalkSpells
import Derived.Below
import Derived.Handy
import Derived.Deep.OwnRows
namespace Go.Proofs.Ytngjodklbkahbaa.walks
open Go.RowKit Go.Proofs.Ytngjodklbkahbaa.math Go.Proofs.Ytngjodklbkahbaa.ints
set_option linter.unusedVariables false
set_option maxRecDepth 100000

theorem LRow.of_own {w : World} {B : Nat} {v : Value} {zs : List Int} (h : Own w B v zs) : LRow w v zs := by
  by_cases h0 : 0 < zs.length
  · exact LRow.own h h0
  · have hz : zs = [] := List.length_eq_zero_iff.1 (by omega)
    subst hz
    have hl := fun g e => (World.ownsRow.lt h g e).2
    rcases h.2 with ⟨rfl, _⟩ | ⟨g, cap, cur, rfl, hg, hw, hle, _, _, _⟩
    · exact Or.inl ⟨rfl, rfl⟩
    · exact Or.inr ⟨g, 0, cap, rfl, Nat.zero_le _, hl g rfl, fun i hi => by simp at hi⟩
theorem names_no {zs : List Int} {len k : Nat} (hz : zs.length = len) (hk : k < len) (h : (inR (zs.getD k 0) 0 7 && (k == 0 || decide (zs.getD (k - 1) 0 < zs.getD k 0))) = false) : namesB zs = false := by
  unfold namesB
  refine names_bad (k := k) ?_ _ (by omega)
  simp only [namesTo, Bool.and_assoc]
  rw [h, Bool.and_false]
theorem names_yes {zs : List Int} {k : Nat} (h0 : namesTo zs k = true) (h : (inR (zs.getD k 0) 0 7 && (k == 0 || decide (zs.getD (k - 1) 0 < zs.getD k 0))) = true) : namesTo zs (k + 1) = true := by
  simp only [namesTo, Bool.and_assoc]
  rw [h0, h]
  rfl
set_option maxHeartbeats 1000000 in
theorem spec_names7 (a : Option Addr) (len cap : Nat) (zs : List Int) (W : World) (hz : Hid (zs.length = len)) (hlen : len ≤ 1048576) (h : Hid (Ints W a zs)) :
    Calls Try.prog 15 #[.slice a len cap] W fun e W' => e = .returned (.bool (namesB zs)) ∧ W' = W := by
  go_enter Try.func15, Try.ntmps15
  go_wp2
  go_loop [7] (fun vi => ∃ k : Nat, k ≤ len ∧ vi = .int .i64 k ∧ Hid (namesTo zs k = true)) (fun vi => len - (intOf vi).toNat)
  case atStart => exact ⟨0, Nat.zero_le _, rfl, rfl⟩
  case round =>
    obtain ⟨k, hk, rfl, HN⟩ := hrel
    by_cases hlt : k < len
    · obtain ⟨b, off, ha, hc⟩ := h.out.at (Below.refl _ _) (k := k) (by have := hz.out; omega)
      subst ha
      cases e1 : inR (zs.getD k 0) 0 7
      · have HE : Hid (namesB zs = false) := names_no hz.out hlt (by rw [e1]; rfl)
        generalize zs.getD k 0 = x at hc e1
        go_wp2_with (go_at_call 25; refine (spec_name _ _).mono ?_; rw [e1]; rintro e w' ⟨rfl, rfl⟩)
        go_ret
        exact ⟨by rw [HE.out]; rfl, rfl⟩
      · rcases k with _ | m
        · have HN' : Hid (namesTo zs 1 = true) := names_yes HN.out (by rw [e1]; rfl)
          rw [Nat.add_zero] at hc
          generalize zs.getD 0 0 = x at hc e1
          go_wp2_with (go_at_call 25; refine (spec_name _ _).mono ?_; rw [e1]; rintro e w' ⟨rfl, rfl⟩)
          go_round
          case rel => exact ⟨1, by omega, by go_num, HN'⟩
          case measure => simp [intOf]; omega
        · obtain ⟨b', off', ha', hc'⟩ := h.out.at (Below.refl _ _) (k := m) (by have := hz.out; omega)
          simp only [Option.some.injEq, Addr.mk.injEq] at ha'
          obtain ⟨rfl, rfl, _⟩ := ha'
          have hm1 : decide ((0 : Int) < ((m + 1 : Nat) : Int)) = true := decide_eq_true (by omega)
          cases e2 : decide (zs.getD m 0 < zs.getD (m + 1) 0)
          · have HE : Hid (namesB zs = false) := names_no hz.out hlt (by rw [e1]; simp only [Nat.add_sub_cancel]; rw [e2]; rfl)
            have hge : zs.getD (m + 1) 0 ≤ zs.getD m 0 := by have := of_decide_eq_false e2; omega
            generalize zs.getD (m + 1) 0 = x at hc e1 hge e2
            generalize zs.getD m 0 = y at hc' hge e2
            go_wp2_with (go_at_call 25; refine (spec_name _ _).mono ?_; rw [e1]; rintro e w' ⟨rfl, rfl⟩)
            go_ret
            exact ⟨by rw [HE.out]; rfl, rfl⟩
          · have HN' : Hid (namesTo zs (m + 1 + 1) = true) := names_yes HN.out (by rw [e1]; simp only [Nat.add_sub_cancel]; rw [e2]; simp)
            have hge : zs.getD m 0 < zs.getD (m + 1) 0 := of_decide_eq_true e2
            generalize zs.getD (m + 1) 0 = x at hc e1 hge e2
            generalize zs.getD m 0 = y at hc' hge e2
            go_wp2_with (go_at_call 25; refine (spec_name _ _).mono ?_; rw [e1]; rintro e w' ⟨rfl, rfl⟩)
            go_round
            case rel => exact ⟨m + 1 + 1, by omega, by go_num, HN'⟩
            case measure => simp [intOf]; omega
    · have HE : Hid (namesB zs = true) := by
        show _ = _
        have := HN.out
        unfold namesB
        rw [hz.out, ← show k = len by omega]
        exact this
      go_wp2
      go_ret
      exact ⟨by rw [HE.out]; rfl, rfl⟩
/-- A list without n. -/
def outL (zs : List Int) (n : Int) : List Int := zs.filter fun x => !(x == n)
theorem out_yes {zs : List Int} {n : Int} {k : Nat} (h : k < zs.length) (e : zs.getD k 0 ≠ n) : outL (zs.take (k + 1)) n = outL (zs.take k) n ++ [zs.getD k 0] := by
  rw [take_next h]
  generalize zs.getD k 0 = x at e ⊢
  unfold outL
  rw [List.filter_append]
  simp [e]
theorem out_no {zs : List Int} {n : Int} {k : Nat} (h : k < zs.length) (e : zs.getD k 0 = n) : outL (zs.take (k + 1)) n = outL (zs.take k) n := by
  rw [take_next h]
  generalize zs.getD k 0 = x at e ⊢
  unfold outL
  rw [List.filter_append]
  simp [e]
theorem out_len (zs : List Int) (n : Int) (k : Nat) : (outL (zs.take k) n).length ≤ k := by
  unfold outL
  refine Nat.le_trans (List.length_filter_le _ _) ?_
  simp; omega
theorem out_row : ∀ (b0 b1 b2 b3 b4 b5 b6 b7 : Bool) (n : Fin 8), (row8 b0 b1 b2 b3 b4 b5 b6 b7).filter (fun x => !(x == (n.val : Int))) = row8 (b0 && !(0 == n.val)) (b1 && !(1 == n.val)) (b2 && !(2 == n.val)) (b3 && !(3 == n.val)) (b4 && !(4 == n.val)) (b5 && !(5 == n.val)) (b6 && !(6 == n.val)) (b7 && !(7 == n.val)) := by decide +kernel
theorem out_rising (f : Nat → Bool) {n : Nat} (h : n < 8) : outL (risingTo f 8) (n : Int) = risingTo (fun i => f i && !(i == n)) 8 := by
  rw [rising_row, rising_row]
  exact out_row _ _ _ _ _ _ _ _ ⟨n, h⟩
set_option maxHeartbeats 1000000 in
theorem spec_without (a : Option Addr) (len cap : Nat) (zs : List Int) (n : Int) (W : World) (hz : Hid (zs.length = len)) (hlen : len ≤ 1000) (h : Hid (Ints W a zs)) :
    Calls Try.prog 39 #[.slice a len cap, .int .i64 n] W fun e W' => PutAns W (outL zs n) e W' := by
  obtain ⟨i0, hi, hz0, hz1, hz2⟩ := info_parts row_info
  go_enter Try.func39, Try.ntmps39
  go_wp2
  go_loopw [5, 10] (fun vt vi wr => ∃ k : Nat, k ≤ len ∧ vi = .int .i64 k ∧ Hid (Own wr W.heap.size vt (outL (zs.take k) n)) ∧ Hid (Below W.heap.size W wr)) (fun _ vi _ => len - (intOf vi).toNat)
  case atStart => exact ⟨0, Nat.zero_le _, rfl, own_nil _ _, Below.refl _ _⟩
  case round =>
    obtain ⟨k, hk, rfl, HO, HB⟩ := hrel
    have hsz := HB.out.size
    by_cases hlt : k < len
    · have hkl : k < zs.length := by have := hz.out; omega
      obtain ⟨b, off, ha, hc⟩ := h.out.at HB.out hkl
      subst ha
      have HY : Hid (zs.getD k 0 ≠ n → outL (zs.take (k + 1)) n = outL (zs.take k) n ++ [zs.getD k 0]) := out_yes hkl
      have HNo : Hid (zs.getD k 0 = n → outL (zs.take (k + 1)) n = outL (zs.take k) n) := out_no hkl
      have HL : Hid ((outL (zs.take k) n).length ≤ k) := out_len _ _ _
      generalize zs.getD k 0 = x at hc HY HNo
      by_cases e : x = n
      · subst e
        have HE : Hid (outL (zs.take (k + 1)) x = outL (zs.take k) x) := HNo.out rfl
        go_wp2
        go_roundw
        case rel => exact ⟨k + 1, by omega, by go_num, by rw [HE.out]; exact HO.out, HB⟩
        case measure => simp [intOf]; omega
      · have HE : Hid (outL (zs.take (k + 1)) n = outL (zs.take k) n ++ [x]) := HY.out e
        have s1 : (x == n) = false := by simpa using e
        have s2 : decide (x = n) = false := decide_eq_false e
        clear e
        go_wp2_with (first
          | (at_builtin; refine wpList_append_own _ rfl _ _ 23 rfl W.heap.size 3 i0 (.int .i64 0) 1 8 Try.underlying23 hi hz0 hz1 hz2 rfl (by decide) _ _ _ rfl (World.ownsRow.alloc HO.out _) ⟨wr.heap.size, 0, none⟩ 1 1 [.int .i64 x] rfl rfl (new_one wr x _) (one_of x) (by have := HL.out; unfold maxLen; omega) (by have := HL.out; omega) (by simp; omega) ?_)
          | go_in)
        intro v' w1 hown' hgrow _
        obtain ⟨q0, q1, q2⟩ := Own.snoc HO.out hsz HB.out hown' hgrow
        have Q0 : Hid (Own w1 W.heap.size v' (outL (zs.take (k + 1)) n)) := by show Own _ _ _ _; rw [HE.out]; exact q0
        have Q1 : Hid (Below W.heap.size W w1) := q1
        clear hown' hgrow q0 q1 q2
        go_wp2
        go_roundw
        case rel => exact ⟨k + 1, by omega, by go_num, Q0, Q1⟩
        case measure => simp [intOf]; omega
    · have HA : Hid (∀ v, Own wr W.heap.size v (outL (zs.take k) n) → PutAns W (outL zs n) (.returned v) wr) := fun v hv => by
        rw [List.take_of_length_le (by have := hz.out; omega)] at hv
        exact ⟨v, rfl, LRow.of_own hv, HB.out⟩
      have HA' := HA.out _ HO.out
      have HA'' : Hid (PutAns W (outL zs n) (.returned _) wr) := HA'
      clear HA'
      go_wp2
      go_ret
      exact HA''.out
end Go.Proofs.Ytngjodklbkahbaa.walks
