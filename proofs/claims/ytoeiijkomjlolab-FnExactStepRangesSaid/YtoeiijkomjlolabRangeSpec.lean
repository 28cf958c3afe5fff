/-
  What the specification's l5Facts answers, at every list of ranges.
-/
import Derived.Test.YtoeiijkomjlolabProg
import Derived.Test.YtoeiijkomjlolabRangeRun
import Derived.Test.YtoeiijkomjlolabRangeGood
import Derived.Test.YtoeiijkomjlolabRanges
import Derived.WalkKit
import Derived.WalkSpells
import Derived.Below
import Derived.Handy
namespace Go.Proofs.Ytoeiijkomjlolab.walks
open Go.RowKit Go.Proofs.Ytoeiijkomjlolab.math Go.Proofs.Ytoeiijkomjlolab.ints
set_option linter.unusedVariables false

set_option maxRecDepth 100000 in
set_option maxHeartbeats 2000000 in
theorem spec_facts (a : Option Addr) (len cap : Nat) (g : Nat → Rv) (W : World) (hlen : len ≤ 1048576) (h : Hid (Facts W a len g)) :
    Calls Try.prog 48 #[.slice a len cap] W fun e W' => e = .returned (.bool (rangesB g len)) ∧ Below W.heap.size W W' := by
  go_enter Try.func48, Try.ntmps48
  go_wp2
  go_loopw [7] (fun vi wr => ∃ k : Nat, k ≤ len ∧ vi = .int .i64 k ∧ Hid (∀ j, j < k → (g j).good = true) ∧ Hid (Below W.heap.size W wr)) (fun vi _ => len - (intOf vi).toNat)
  case atStart => exact ⟨0, Nat.zero_le _, rfl, fun j hj => by omega, Below.refl _ _⟩
  case round =>
    obtain ⟨k, hk, rfl, HG, HB⟩ := hrel
    by_cases hlt : k < len
    · obtain ⟨b, off, ha, hb, c0, c1, c2⟩ := fact_at h.out HB.out hlt
      subst ha
      rcases hx : g k with ⟨t, kn, n⟩
      have HX : Hid (g k = ⟨t, kn, n⟩) := hx
      rw [hx] at c0 c1 c2
      clear hx
      simp only at c0 c1 c2
      have HW := HB.out.size
      go_wp2_with fail
      refine (spec_goodR _ _ _ _).mono ?_
      rintro e w1 ⟨rfl, B1⟩
      have HB1 : Hid (Below W.heap.size W w1) := HB.out.trans ((belR (by repeat (first | exact Below.refl _ _ | refine Below.drew ?_ | refine Below.setCell ?_ (by simp; try omega) _ | refine Below.alloc ?_ (by simp; try omega) _)) B1).mono HW)
      have l1 : wr.heap.size < w1.heap.size := by have := B1.size; simp at this; omega
      have x0 : w1.cell? ⟨wr.heap.size, 0, none⟩ = some (.bool t) := by rw [(bcellR B1).1 wr.heap.size 0 (by simp)]; go_simp
      clear B1
      cases hg : goodR t kn n
      · have HE : Hid (rangesB g len = false) := ranges_bad hlt (by rw [HX.out]; simp [Rv.good, hg])
        go_wp2
        go_ret
        exact ⟨by rw [HE.out]; rfl, HB1.out⟩
      · have HG' : Hid (∀ j, j < k + 1 → (g j).good = true) := by
          show ∀ j, j < k + 1 → _
          intro j hj
          by_cases e : j = k
          · rw [e, HX.out]; simp [Rv.good, hg]
          · exact HG.out j (by omega)
        go_wp2
        go_roundw
        case rel => exact ⟨k + 1, by omega, by go_num, HG', HB1.out⟩
        case measure => simp [intOf]; omega
    · by_cases h8 : len = 8
      · have HE : Hid (rangesB g len = true) := ranges_mk h8 (fun i hi => HG.out i (by omega))
        subst h8
        go_wp2
        go_ret
        exact ⟨by rw [HE.out]; rfl, HB.out⟩
      · have HE : Hid (rangesB g len = false) := ranges_no h8
        have q8 : ((len : Int) == 8) = false := by simp; omega
        go_wp2
        go_ret
        exact ⟨by rw [HE.out]; simp <;> omega, HB.out⟩
end Go.Proofs.Ytoeiijkomjlolab.walks
