/-
  What the specification's BackStep does: rising names, one name left out, one step back, all steps back.
-/
import Derived.Test.YtfmgbalfabpogaaProg
import Derived.Test.YtfmgbalfabpogaaMagMath
import Derived.Test.YtfmgbalfabpogaaCodeMath
import Derived.Test.YtfmgbalfabpogaaRunMath
import Derived.Test.YtfmgbalfabpogaaNamesMath
import Derived.Test.YtfmgbalfabpogaaBackMath
import Derived.Test.YtfmgbalfabpogaaInts
import Derived.Test.YtfmgbalfabpogaaOwnInts
import Derived.Test.YtfmgbalfabpogaaRecsInstr
import Derived.Test.YtfmgbalfabpogaaCodeGood
import Derived.Test.YtfmgbalfabpogaaPutSpec
import Derived.Test.YtfmgbalfabpogaaNamesSpec
import Derived.Test.YtfmgbalfabpogaaNeedSpec
import Derived.WalkKit
import Derived.WalkSpells
import Derived.Below
import Derived.Handy
import Derived.Deep.OwnRows
namespace Go.Proofs.Ytfmgbalfabpogaa.walks
open Go.RowKit Go.Proofs.Ytfmgbalfabpogaa.math Go.Proofs.Ytfmgbalfabpogaa.ints
set_option linter.unusedVariables false
set_option maxRecDepth 100000

theorem LRow.of_own {w : World} {B : Nat} {v : Value} {zs : List Int} (h : Own w B v zs) : LRow w v zs := by
  by_cases h0 : 0 < zs.length
  · exact LRow.own h h0
  · have hz : zs = [] := List.length_eq_zero_iff.1 (by omega)
    subst hz
    have hl := fun g e => (World.ownsRow.lt h g e).2
    rcases h.2 with ⟨rfl, _⟩ | ⟨g, cap, cur, rfl, hg, hw, hle, _, _, _⟩
    · exact Or.inl ⟨rfl, rfl⟩
    · exact Or.inr ⟨g, 0, cap, rfl, Nat.zero_le _, hl g rfl, fun i hi => by simp at hi⟩
theorem names_no {zs : List Int} {len k : Nat} (hz : zs.length = len) (hk : k < len) (h : (inR (zs.getD k 0) 0 7 && (k == 0 || decide (zs.getD (k - 1) 0 < zs.getD k 0))) = false) : namesB zs = false := by
  unfold namesB
  refine names_bad (k := k) ?_ _ (by omega)
  simp only [namesTo, Bool.and_assoc]
  rw [h, Bool.and_false]
theorem names_yes {zs : List Int} {k : Nat} (h0 : namesTo zs k = true) (h : (inR (zs.getD k 0) 0 7 && (k == 0 || decide (zs.getD (k - 1) 0 < zs.getD k 0))) = true) : namesTo zs (k + 1) = true := by
  simp only [namesTo, Bool.and_assoc]
  rw [h0, h]
  rfl
/-- A list without n. -/
def outL (zs : List Int) (n : Int) : List Int := zs.filter fun x => !(x == n)
theorem out_yes {zs : List Int} {n : Int} {k : Nat} (h : k < zs.length) (e : zs.getD k 0 ≠ n) : outL (zs.take (k + 1)) n = outL (zs.take k) n ++ [zs.getD k 0] := by
  rw [take_next h]
  generalize zs.getD k 0 = x at e ⊢
  unfold outL
  rw [List.filter_append]
  simp [e]
theorem out_no {zs : List Int} {n : Int} {k : Nat} (h : k < zs.length) (e : zs.getD k 0 = n) : outL (zs.take (k + 1)) n = outL (zs.take k) n := by
  rw [take_next h]
  generalize zs.getD k 0 = x at e ⊢
  unfold outL
  rw [List.filter_append]
  simp [e]
theorem out_len (zs : List Int) (n : Int) (k : Nat) : (outL (zs.take k) n).length ≤ k := by
  unfold outL
  refine Nat.le_trans (List.length_filter_le _ _) ?_
  simp; omega
theorem out_row : ∀ (b0 b1 b2 b3 b4 b5 b6 b7 : Bool) (n : Fin 8), (row8 b0 b1 b2 b3 b4 b5 b6 b7).filter (fun x => !(x == (n.val : Int))) = row8 (b0 && !(0 == n.val)) (b1 && !(1 == n.val)) (b2 && !(2 == n.val)) (b3 && !(3 == n.val)) (b4 && !(4 == n.val)) (b5 && !(5 == n.val)) (b6 && !(6 == n.val)) (b7 && !(7 == n.val)) := by decide +kernel
theorem out_rising (f : Nat → Bool) {n : Nat} (h : n < 8) : outL (risingTo f 8) (n : Int) = risingTo (fun i => f i && !(i == n)) 8 := by
  rw [rising_row, rising_row]
  exact out_row _ _ _ _ _ _ _ _ ⟨n, h⟩
set_option maxHeartbeats 1000000 in
theorem spec_without (a : Option Addr) (len cap : Nat) (zs : List Int) (n : Int) (W : World) (hz : Hid (zs.length = len)) (hlen : len ≤ 1000) (h : Hid (Ints W a zs)) :
    Calls Try.prog 71 #[.slice a len cap, .int .i64 n] W fun e W' => PutAns W (outL zs n) e W' := by
  obtain ⟨i0, hi, hz0, hz1, hz2⟩ := info_parts row_info
  go_enter Try.func71, Try.ntmps71
  go_wp2
  go_loopw [5, 10] (fun vt vi wr => ∃ k : Nat, k ≤ len ∧ vi = .int .i64 k ∧ Hid (Own wr W.heap.size vt (outL (zs.take k) n)) ∧ Hid (Below W.heap.size W wr)) (fun _ vi _ => len - (intOf vi).toNat)
  case atStart => exact ⟨0, Nat.zero_le _, rfl, own_nil _ _, Below.refl _ _⟩
  case round =>
    obtain ⟨k, hk, rfl, HO, HB⟩ := hrel
    have hsz := HB.out.size
    by_cases hlt : k < len
    · have hkl : k < zs.length := by have := hz.out; omega
      obtain ⟨b, off, ha, hc⟩ := h.out.at HB.out hkl
      subst ha
      have HY : Hid (zs.getD k 0 ≠ n → outL (zs.take (k + 1)) n = outL (zs.take k) n ++ [zs.getD k 0]) := out_yes hkl
      have HNo : Hid (zs.getD k 0 = n → outL (zs.take (k + 1)) n = outL (zs.take k) n) := out_no hkl
      have HL : Hid ((outL (zs.take k) n).length ≤ k) := out_len _ _ _
      generalize zs.getD k 0 = x at hc HY HNo
      by_cases e : x = n
      · subst e
        have HE : Hid (outL (zs.take (k + 1)) x = outL (zs.take k) x) := HNo.out rfl
        go_wp2
        go_roundw
        case rel => exact ⟨k + 1, by omega, by go_num, by rw [HE.out]; exact HO.out, HB⟩
        case measure => simp [intOf]; omega
      · have HE : Hid (outL (zs.take (k + 1)) n = outL (zs.take k) n ++ [x]) := HY.out e
        have s1 : (x == n) = false := by simpa using e
        have s2 : decide (x = n) = false := decide_eq_false e
        clear e
        go_wp2_with (first
          | (at_builtin; refine wpList_append_own _ rfl _ _ 48 rfl W.heap.size 3 i0 (.int .i64 0) 1 8 Try.underlying48 hi hz0 hz1 hz2 rfl (by decide) _ _ _ rfl (World.ownsRow.alloc HO.out _) ⟨wr.heap.size, 0, none⟩ 1 1 [.int .i64 x] rfl rfl (new_one wr x _) (one_of x) (by have := HL.out; unfold maxLen; omega) (by have := HL.out; omega) (by simp; omega) ?_)
          | go_in)
        intro v' w1 hown' hgrow _
        obtain ⟨q0, q1, q2⟩ := Own.snoc HO.out hsz HB.out hown' hgrow
        have Q0 : Hid (Own w1 W.heap.size v' (outL (zs.take (k + 1)) n)) := by show Own _ _ _ _; rw [HE.out]; exact q0
        have Q1 : Hid (Below W.heap.size W w1) := q1
        clear hown' hgrow q0 q1 q2
        go_wp2
        go_roundw
        case rel => exact ⟨k + 1, by omega, by go_num, Q0, Q1⟩
        case measure => simp [intOf]; omega
    · have HA : Hid (∀ v, Own wr W.heap.size v (outL (zs.take k) n) → PutAns W (outL zs n) (.returned v) wr) := fun v hv => by
        rw [List.take_of_length_le (by have := hz.out; omega)] at hv
        exact ⟨v, rfl, LRow.of_own hv, HB.out⟩
      have HA' := HA.out _ HO.out
      have HA'' : Hid (PutAns W (outL zs n) (.returned _) wr) := HA'
      clear HA'
      go_wp2
      go_ret
      exact HA''.out
end Go.Proofs.Ytfmgbalfabpogaa.walks
