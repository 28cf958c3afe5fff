/-
  What code costs: the specification's CostOf and the program's.
-/
import Derived.Test.YtldmeffhbabanaaProg
import Derived.Test.YtldmeffhbabanaaMagMath
import Derived.Test.YtldmeffhbabanaaCodeMath
import Derived.Test.YtldmeffhbabanaaRunMath
import Derived.Test.YtldmeffhbabanaaInts
import Derived.Test.YtldmeffhbabanaaRecsInstr
import Derived.Test.YtldmeffhbabanaaCodeGood
import Derived.Test.YtldmeffhbabanaaStepsOf
import Derived.WalkKit
import Derived.WalkSpells
import Derived.Below
import Derived.Handy
namespace Go.Proofs.Ytldmeffhbabanaa.walks
open Go.RowKit Go.Proofs.Ytldmeffhbabanaa.math Go.Proofs.Ytldmeffhbabanaa.ints
set_option linter.unusedVariables false

def costI (o : Int) : Int := if o = 5 then 3 else if 3 ≤ o ∧ o ≤ 7 then 1 else 0
def costTo (zs : List Int) : Nat → Int
  | 0 => 0
  | k + 1 => costTo zs k + costI (zs.getD (k * 5) 0)
theorem cost_bd (o : Int) : 0 ≤ costI o ∧ costI o ≤ 3 := by unfold costI; split <;> (try split) <;> omega
theorem costTo_bd (zs : List Int) : ∀ k : Nat, 0 ≤ costTo zs k ∧ costTo zs k ≤ 3 * (k : Int)
  | 0 => by simp [costTo]
  | k + 1 => by
    have h := costTo_bd zs k
    have h1 := cost_bd (zs.getD (k * 5) 0)
    simp only [costTo]
    omega
/-- What CostOf answers. -/
def CostAns (zs : List Int) (len : Nat) (W : World) (e : Ending) (W' : World) : Prop :=
  ((codeB zs len = true ∧ e = .returned (.tuple #[.int .i64 (costTo zs len), .bool true])) ∨ (codeB zs len = false ∧ e = .returned (.tuple #[.int .i64 0, .bool false]))) ∧ Below W.heap.size W W'
theorem impl_stepCost (o : Int) (W : World) (h0 : 1 ≤ o) (h1 : o ≤ 8) : Calls Try.prog 35 #[.int .i64 o] W fun e W' => e = .returned (.int .i64 (costI o)) ∧ W' = W := by
  obtain rfl | rfl | rfl | rfl | rfl | rfl | rfl | rfl : o = 1 ∨ o = 2 ∨ o = 3 ∨ o = 4 ∨ o = 5 ∨ o = 6 ∨ o = 7 ∨ o = 8 := by omega
  all_goals clear h0 h1
  all_goals go_enter Try.func35, Try.ntmps35
  all_goals go_wp2
  all_goals go_ret
  all_goals exact ⟨rfl, rfl⟩
set_option maxHeartbeats 2000000 in
theorem impl_cost (a : Option Addr) (len cap : Nat) (zs : List Int) (W : World) (hz : Hid (zs.length = len * 5)) (hlen : len ≤ 1048576) (h : Hid (Ints W a zs)) :
    Calls Try.prog 10 #[.slice a len cap] W fun e W' => CostAns zs len W e W' := by
  go_enter Try.func10, Try.ntmps10
  go_wp2_with fail
  refine (impl_code _ _ _ zs _ hz hlen h).mono ?_
  cases hc : codeB zs len
  · rintro e w1 ⟨rfl, hb⟩
    have HA : Hid (CostAns zs len W (.returned (.tuple #[.int .i64 0, .bool false])) w1) := ⟨Or.inr ⟨hc, rfl⟩, hb⟩
    clear hb hc
    go_wp2
    go_ret2
    exact HA.out
  rintro e w1 ⟨rfl, hb⟩
  have HB : Hid (Below W.heap.size W w1) := hb
  have HC : Hid (codeB zs len = true) := hc
  have h30 : len ≤ 30 := (code_out hc).1
  clear hb hc
  go_wp2
  go_loopw [4, 12] (fun vn vi wr => ∃ k : Nat, k ≤ len ∧ vi = .int .i64 k ∧ vn = .int .i64 (costTo zs k) ∧ Hid (Below W.heap.size W wr)) (fun _ vi _ => len - (intOf vi).toNat)
  case atStart => exact ⟨0, Nat.zero_le _, rfl, rfl, HB⟩
  case round =>
    obtain ⟨k, hk, rfl, rfl, HK⟩ := hrel
    have hsz := HK.out.size
    by_cases hlt : k < len
    · obtain ⟨b, off, ha, hb, c0, c1, c2, c3, c4⟩ := Instr_at h.out hz.out HK.out hlt
      subst ha
      have hgo := good_range ((code_out HC.out).2 k hlt)
      obtain ⟨g0, g1⟩ := hgo
      have HT : Hid (costTo zs (k + 1) = costTo zs k + costI (zs.getD (k * 5) 0)) := rfl
      obtain ⟨p0, p1⟩ := costTo_bd zs k
      obtain ⟨r0, r1⟩ := cost_bd (zs.getD (k * 5) 0)
      generalize zs.getD (k * 5) 0 = o at c0 g0 g1 HT r0 r1
      generalize zs.getD (k * 5 + 1) 0 = d at c1
      generalize zs.getD (k * 5 + 2) 0 = x at c2
      generalize zs.getD (k * 5 + 3) 0 = y at c3
      generalize zs.getD (k * 5 + 4) 0 = n at c4
      generalize costTo zs k = c at p0 p1 HT
      have hks : (k : Int) ≤ 30 := by omega
      go_wp2_with (go_at_call 35; refine (impl_stepCost o _ g0 g1).mono ?_; rintro e w' ⟨rfl, hw⟩; rw [hw]; clear hw w'; generalize costI o = ci at r0 r1 HT)
      go_roundw
      case rel => exact ⟨k + 1, by omega, by go_num, by rw [HT.out], by show Below _ _ _; refine Below.trans HK.out ?_; go_grown⟩
      case measure => simp [intOf]; omega
    · have HE : Hid (k = len) := by show k = len; omega
      go_wp2
      go_ret2
      rw [← HE.out]
      exact ⟨Or.inl ⟨HE.out ▸ HC.out, rfl⟩, HK.out⟩
set_option maxHeartbeats 2000000 in
theorem spec_cost (a : Option Addr) (len cap : Nat) (zs : List Int) (W : World) (hz : Hid (zs.length = len * 5)) (hlen : len ≤ 1048576) (h : Hid (Ints W a zs)) :
    Calls Try.prog 13 #[.slice a len cap] W fun e W' => CostAns zs len W e W' := by
  go_enter Try.func13, Try.ntmps13
  go_wp2_with fail
  refine (spec_code _ _ _ zs _ hz hlen h).mono ?_
  cases hc : codeB zs len
  · rintro e w1 ⟨rfl, hb⟩
    have HA : Hid (CostAns zs len W (.returned (.tuple #[.int .i64 0, .bool false])) w1) := ⟨Or.inr ⟨hc, rfl⟩, hb⟩
    clear hb hc
    go_wp2
    go_ret2
    exact HA.out
  rintro e w1 ⟨rfl, hb⟩
  have HB : Hid (Below W.heap.size W w1) := hb
  have HC : Hid (codeB zs len = true) := hc
  have h30 : len ≤ 30 := (code_out hc).1
  clear hb hc
  go_wp2
  go_loopw [4, 12] (fun vn vi wr => ∃ k : Nat, k ≤ len ∧ vi = .int .i64 k ∧ vn = .int .i64 (costTo zs k) ∧ Hid (Below W.heap.size W wr)) (fun _ vi _ => len - (intOf vi).toNat)
  case atStart => exact ⟨0, Nat.zero_le _, rfl, rfl, HB⟩
  case round =>
    obtain ⟨k, hk, rfl, rfl, HK⟩ := hrel
    have hsz := HK.out.size
    by_cases hlt : k < len
    · obtain ⟨b, off, ha, hb, c0, c1, c2, c3, c4⟩ := Instr_at h.out hz.out HK.out hlt
      subst ha
      have HT : Hid (costTo zs (k + 1) = costTo zs k + costI (zs.getD (k * 5) 0)) := rfl
      obtain ⟨p0, p1⟩ := costTo_bd zs k
      generalize zs.getD (k * 5) 0 = o at c0 HT
      generalize zs.getD (k * 5 + 1) 0 = d at c1
      generalize zs.getD (k * 5 + 2) 0 = x at c2
      generalize zs.getD (k * 5 + 3) 0 = y at c3
      generalize zs.getD (k * 5 + 4) 0 = n at c4
      generalize costTo zs k = c at p0 p1 HT
      have hks : (k : Int) ≤ 30 := by omega
      by_cases h5 : o = 5
      · have HT' : Hid (costTo zs (k + 1) = c + 3) := by show _ = _; rw [HT.out]; unfold costI; rw [if_pos h5]
        clear HT
        subst h5
        go_wp2_with fail
        go_roundw
        case rel => exact ⟨k + 1, by omega, by go_num, by rw [HT'.out], by show Below _ _ _; refine Below.trans HK.out ?_; go_grown⟩
        case measure => simp [intOf]; omega
      · have q5 : (o == 5) = false := by simpa using h5
        cases hin : inR o 3 7
        · have HT' : Hid (costTo zs (k + 1) = c) := by
            show _ = _
            rw [HT.out]; unfold costI
            rw [if_neg h5, if_neg (fun hh => by rw [inR_mk hh.1 hh.2] at hin; cases hin)]
            omega
          clear HT h5
          go_wp2_with (go_at_call 37; refine (spec_two _ _).mono ?_; rw [hin]; rintro e w' ⟨rfl, hw⟩; rw [hw]; clear hw w')
          go_roundw
          case rel => exact ⟨k + 1, by omega, by go_num, by rw [HT'.out], by show Below _ _ _; refine Below.trans HK.out ?_; go_grown⟩
          case measure => simp [intOf]; omega
        · have HT' : Hid (costTo zs (k + 1) = c + 1) := by
            show _ = _
            rw [HT.out]; unfold costI
            rw [if_neg h5, if_pos (inR_out hin)]
          clear HT h5
          go_wp2_with (go_at_call 37; refine (spec_two _ _).mono ?_; rw [hin]; rintro e w' ⟨rfl, hw⟩; rw [hw]; clear hw w')
          go_roundw
          case rel => exact ⟨k + 1, by omega, by go_num, by rw [HT'.out], by show Below _ _ _; refine Below.trans HK.out ?_; go_grown⟩
          case measure => simp [intOf]; omega
    · have HE : Hid (k = len) := by show k = len; omega
      go_wp2
      go_ret2
      rw [← HE.out]
      exact ⟨Or.inl ⟨HE.out ▸ HC.out, rfl⟩, HK.out⟩
end Go.Proofs.Ytldmeffhbabanaa.walks
