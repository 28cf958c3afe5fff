/-
  What the specification's GoodFlow answers, at every flow; it makes new memory alone.
-/
import Derived.Test.YtemlhhogcdgofaaProg
import Derived.Test.YtemlhhogcdgofaaFlow
import Derived.Test.YtemlhhogcdgofaaFlowEq
import Derived.Test.YtemlhhogcdgofaaFlowMath
import Derived.Test.YtemlhhogcdgofaaCodeGood
import Derived.WalkKit
import Derived.WalkSpells
import Derived.Below
import Derived.Handy
import Derived.Deep.DeepFit
namespace Go.Proofs.Ytemlhhogcdgofaa.walks
open Go.RowKit Go.Proofs.Ytemlhhogcdgofaa.math Go.Proofs.Ytemlhhogcdgofaa.ints
set_option linter.unusedVariables false

set_option maxRecDepth 100000 in
set_option maxHeartbeats 8000000 in
theorem spec_flow (a : Option Addr) (n cap : Nat) (f : Nat → Bv) (W : World) (hn : n ≤ 1048576) (hlen : Hid (∀ k, k < n → (f k).len ≤ 1048576)) (h : Hid (Flow W a n f)) :
    Calls Try.prog 19 #[.slice a n cap] W fun e W' => e = .returned (.bool (flowB f n)) ∧ Below W.heap.size W W' := by
  go_enter Try.func19, Try.ntmps19
  go_wp2
  go_loopw [7] (fun vi wr => ∃ k : Nat, k ≤ n ∧ vi = .int .i64 k ∧ Hid (∀ j, j < k → blockB (f j) n = true) ∧ Hid (Below W.heap.size W wr)) (fun vi _ => n - (intOf vi).toNat)
  case atStart => exact ⟨0, Nat.zero_le _, rfl, fun j hj => by omega, Below.refl _ _⟩
  case round =>
    obtain ⟨k, hk, rfl, HG, HB⟩ := hrel
    by_cases hlt : k < n
    · obtain ⟨b, off, ca, cc, ha, hb, c0, c1, c2, c3, hI, hZ⟩ := flow_at h.out HB.out hlt
      subst ha
      have HI : Hid (Ints wr ca (f k).zs) := hI
      have HZ : Hid ((f k).zs.length = (f k).len * 5) := hZ
      have HLn := hlen.out k hlt
      have hnn : (1 : Int) ≤ (n : Int) := by omega
      obtain ⟨t, ET⟩ : ∃ t, Hid (t = (f k).t) := ⟨_, rfl⟩
      obtain ⟨th, EH⟩ : ∃ th, Hid (th = (f k).th) := ⟨_, rfl⟩
      obtain ⟨el, EE⟩ : ∃ el, Hid (el = (f k).el) := ⟨_, rfl⟩
      rw [← ET.out] at c1
      rw [← EH.out] at c2
      rw [← EE.out] at c3
      have HBB : Hid (blockB (f k) n = (codeB (f k).zs (f k).len && inR t 0 7 && inR th (-1) ((n : Int) - 1) && inR el (-1) ((n : Int) - 1))) := by show _ = _; rw [ET.out, EH.out, EE.out]; rfl
      clear hI hZ ET EH EE
      have hwb := HB.out.size
      go_wp2_with fail
      refine (spec_code _ _ _ (f k).zs _ HZ HLn (HI.out.kept ((Below.refl _ _).alloc (Nat.le_refl _) _))).mono ?_
      rintro e w1 ⟨rfl, hB⟩
      have x1 : w1.cell? ⟨wr.heap.size, 1, none⟩ = some (.int .i64 t) := by rw [hB.cell (p := ⟨wr.heap.size, 1, none⟩) (by show wr.heap.size < (wr.alloc _).heap.size; simp)]; simp
      have x2 : w1.cell? ⟨wr.heap.size, 2, none⟩ = some (.int .i64 th) := by rw [hB.cell (p := ⟨wr.heap.size, 2, none⟩) (by show wr.heap.size < (wr.alloc _).heap.size; simp)]; simp
      have x3 : w1.cell? ⟨wr.heap.size, 3, none⟩ = some (.int .i64 el) := by rw [hB.cell (p := ⟨wr.heap.size, 3, none⟩) (by show wr.heap.size < (wr.alloc _).heap.size; simp)]; simp
      have HB1 : Hid (Below W.heap.size W w1) := bel2' (HB.out.alloc hwb _) hB
      clear hB
      cases hc : codeB (f k).zs (f k).len
      · have HE : Hid (flowB f n = false) := flow_bad hlt (by rw [HBB.out, hc]; rfl)
        go_wp2
        go_ret
        exact ⟨by rw [HE.out]; rfl, HB1.out⟩
      cases e1 : inR t 0 7
      · have HE : Hid (flowB f n = false) := flow_bad hlt (by rw [HBB.out, hc, e1]; rfl)
        go_wp2_with (first | (go_at_call 34; refine (spec_name _ _).mono ?_; rw [e1]; rintro e w' ⟨rfl, hw⟩; rw [hw]; clear hw w'))
        go_ret
        exact ⟨by rw [HE.out]; rfl, HB1.out⟩
      cases e2 : inR th (-1) ((n : Int) - 1)
      · have HE : Hid (flowB f n = false) := flow_bad hlt (by rw [HBB.out, hc, e1, e2]; rfl)
        go_wp2_with (first | (go_at_call 34; refine (spec_name _ _).mono ?_; rw [e1]; rintro e w' ⟨rfl, hw⟩; rw [hw]; clear hw w') | (go_at_call 35; go_fit (spec_in th _ _ _); rw [e2]; rintro e w' ⟨rfl, hw⟩; rw [hw]; clear hw w'))
        go_ret
        exact ⟨by rw [HE.out]; rfl, HB1.out⟩
      cases e3 : inR el (-1) ((n : Int) - 1)
      · have HE : Hid (flowB f n = false) := flow_bad hlt (by rw [HBB.out, hc, e1, e2, e3]; rfl)
        go_wp2_with (first | (go_at_call 34; refine (spec_name _ _).mono ?_; rw [e1]; rintro e w' ⟨rfl, hw⟩; rw [hw]; clear hw w') | (go_at_call 35; go_fit (spec_in th _ _ _); rw [e2]; rintro e w' ⟨rfl, hw⟩; rw [hw]; clear hw w') | (go_at_call 35; go_fit (spec_in el _ _ _); rw [e3]; rintro e w' ⟨rfl, hw⟩; rw [hw]; clear hw w'))
        go_ret
        exact ⟨by rw [HE.out]; rfl, HB1.out⟩
      have HG' : Hid (∀ j, j < k + 1 → blockB (f j) n = true) := by
        show ∀ j, j < k + 1 → _
        intro j hj
        by_cases e : j = k
        · rw [e, HBB.out, hc, e1, e2, e3]; rfl
        · exact HG.out j (by omega)
      go_wp2_with (first | (go_at_call 34; refine (spec_name _ _).mono ?_; rw [e1]; rintro e w' ⟨rfl, hw⟩; rw [hw]; clear hw w') | (go_at_call 35; go_fit (spec_in th _ _ _); rw [e2]; rintro e w' ⟨rfl, hw⟩; rw [hw]; clear hw w') | (go_at_call 35; go_fit (spec_in el _ _ _); rw [e3]; rintro e w' ⟨rfl, hw⟩; rw [hw]; clear hw w'))
      go_roundw
      case rel => exact ⟨k + 1, by omega, by go_num, HG', HB1.out⟩
      case measure => simp [intOf]; omega
    · cases e8 : inR (n : Int) 1 8
      · have HE : Hid (flowB f n = false) := flow_no (fun q => by rw [inR_mk (by omega) (by omega)] at e8; cases e8)
        go_wp2_with (go_at_call 35; refine (spec_in _ _ _ _).mono ?_; rw [e8]; rintro e w' ⟨rfl, hw⟩; rw [hw]; clear hw w')
        go_ret
        exact ⟨by rw [HE.out]; rfl, HB.out⟩
      · have HE : Hid (flowB f n = true) := by
          have := inR_out e8
          exact flow_mk (by omega) (by omega) (fun j hj => HG.out j (by omega))
        go_wp2_with (go_at_call 35; refine (spec_in _ _ _ _).mono ?_; rw [e8]; rintro e w' ⟨rfl, hw⟩; rw [hw]; clear hw w')
        go_ret
        exact ⟨by rw [HE.out]; rfl, HB.out⟩
end Go.Proofs.Ytemlhhogcdgofaa.walks
