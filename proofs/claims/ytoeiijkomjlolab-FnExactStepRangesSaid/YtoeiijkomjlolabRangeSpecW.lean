/-
  What the specification's StepRanges answers, at every list of steps and every list of ranges; it makes new memory alone.
-/
import Derived.Test.YtoeiijkomjlolabProg
import Derived.Test.YtoeiijkomjlolabRangeImpl
import Derived.Test.YtoeiijkomjlolabRangeSteps
import Derived.Test.YtoeiijkomjlolabRangeSpec
import Derived.Test.YtoeiijkomjlolabCodeGood
import Derived.WalkKit
import Derived.WalkSpells
import Derived.Below
import Derived.Handy
namespace Go.Proofs.Ytoeiijkomjlolab.walks
open Go.RowKit Go.Proofs.Ytoeiijkomjlolab.math Go.Proofs.Ytoeiijkomjlolab.ints
set_option linter.unusedVariables false

set_option maxRecDepth 100000 in
set_option maxHeartbeats 4000000 in
theorem spec_stepfacts (a a' : Option Addr) (len cap lf cap' : Nat) (zs : List Int) (g : Nat → Rv) (W : World) (hz : Hid (zs.length = len * 5)) (hlen : len ≤ 1048576) (h : Hid (Ints W a zs)) (hlf : lf ≤ 1048576) (h' : Hid (Facts W a' lf g)) :
    Calls Try.prog 21 #[.slice a len cap, .slice a' lf cap'] W fun e W' => FactsTold (codeB zs len && rangesB g lf) (runR zs g len) W e W' := by
  cases hc : codeB zs len
  · go_enter Try.func21, Try.ntmps21
    go_wp2_with (go_at_call 47; refine (spec_code _ _ _ zs _ hz hlen h).mono ?_; rw [hc]; rintro e w1 ⟨rfl, hb⟩; have HB : Hid (Below W.heap.size W w1) := hb; clear hb)
    go_ret2
    exact Or.inr ⟨rfl, rfl, HB.out⟩
  cases hf : rangesB g lf
  · go_enter Try.func21, Try.ntmps21
    go_wp2_with fail
    refine (spec_code _ _ _ zs _ hz hlen h).mono ?_
    rw [hc]
    rintro e w1 ⟨rfl, hb⟩
    have HB : Hid (Below W.heap.size W w1) := hb
    clear hb
    go_wp2_with fail
    refine (spec_facts _ _ _ g _ hlf (h'.out.kept HB.out)).mono ?_
    rw [hf]
    rintro e w2 ⟨rfl, hb⟩
    have HB2 : Hid (Below W.heap.size W w2) := belR HB.out hb
    clear hb
    go_wp2
    go_ret2
    exact Or.inr ⟨rfl, rfl, HB2.out⟩
  obtain ⟨rfl, hcome⟩ := ranges_out hf
  have HM : Hid (∀ i, i < 8 → (g i).good = true) := hcome
  have h30 := (code_out hc).1
  have HG : Hid (∀ k, k < len → stepB zs k = true) := (code_out hc).2
  have HC : Hid (codeB zs len = true) := hc
  have HF : Hid (rangesB g 8 = true) := hf
  clear hc hf hcome
  go_enter Try.func21, Try.ntmps21
  go_wp2_with fail
  refine (spec_code _ _ _ zs _ hz hlen h).mono ?_
  rw [HC.out]
  rintro e w1 ⟨rfl, hb⟩
  have HB : Hid (Below W.heap.size W w1) := hb
  clear hb
  go_wp2_with fail
  refine (spec_facts _ _ _ g _ hlf (h'.out.kept HB.out)).mono ?_
  rw [HF.out]
  rintro e w2 ⟨rfl, hb⟩
  have HB2 : Hid (Below W.heap.size W w2) := belR HB.out hb
  clear hb
  go_wp2_with fail
  refine (spec_stepR _ _ _ _ _ zs g _ hz h30 (h.out.kept HB2.out) HG (h'.out.kept HB2.out) HM).mono ?_
  rintro e w3 ⟨b, c, rfl, hb1, hb2, hC, hb⟩
  have HA : Hid (FactsTold true (runR zs g len) W (.returned (.tuple #[.slice (some ⟨b, 0, none⟩) 8 c, .bool true])) w3) := Or.inl ⟨rfl, ⟨b, c, rfl, hC.mine (Nat.le_trans HB2.out.size hb1) hb2⟩, belR HB2.out hb⟩
  clear hb hC hb1 hb2
  go_wp2
  go_ret2
  exact HA.out
end Go.Proofs.Ytoeiijkomjlolab.walks
