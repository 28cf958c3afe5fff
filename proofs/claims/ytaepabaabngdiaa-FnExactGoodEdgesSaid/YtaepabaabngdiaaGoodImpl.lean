/-
  What the program's GoodEdges answers.
-/
import Derived.Test.YtaepabaabngdiaaProg
import Derived.Test.YtaepabaabngdiaaMagMath
import Derived.Test.YtaepabaabngdiaaEdgeMath
import Derived.Test.YtaepabaabngdiaaEdgeSpec
import Derived.Test.YtaepabaabngdiaaEdgeImpl
import Derived.Test.YtaepabaabngdiaaInts
import Derived.Test.YtaepabaabngdiaaRecsEdge
import Derived.WalkKit
import Derived.WalkSpells
import Derived.Below
import Derived.Handy
import Derived.Deep.OwnRows
import Derived.Deep.RegionWith
import Derived.Deep.QuietTactic
import Derived.BigQuiet
namespace Go.Proofs.Ytaepabaabngdiaa.walks
open Go.RowKit Go.Proofs.Ytaepabaabngdiaa.math Go.Proofs.Ytaepabaabngdiaa.ints
set_option linter.unusedVariables false
set_option maxRecDepth 100000

theorem falses64 (W : World) (t : TypeId) : (W.alloc (.cells (Array.replicate 64 (.bool false)) t)).rowIs W.heap.size t 64 (fun _ => .bool false) := by
  have h := World.rowIs_alloc W (Array.replicate 64 (.bool false)) t (fun _ => .bool false) (fun i hi => by simp at hi; simp [hi])
  simpa using h
set_option maxHeartbeats 4000000 in
theorem impl_edges (a : Option Addr) (len cap : Nat) (u : Int) (zs : List Int) (W : World) (hz : Hid (zs.length = len * 3)) (hlen : len ≤ 1048576) (h : Hid (Ints W a zs)) :
    Calls Try.prog 12 #[.int .i64 u, .slice a len cap] W fun e W' => e = .returned (.bool (edgesB zs u len)) ∧ Below W.heap.size W W' := by
  cases hu : inR u 1 8
  · have HE : Hid (edgesB zs u len = false) := edges_u hu
    go_enter Try.func12, Try.ntmps12
    go_wp2_with (go_at_call 35; refine (blocks_quiet hu _).mono ?_; rintro e w' ⟨rfl, hw⟩; rw [hw]; clear hw w')
    go_ret
    exact ⟨by rw [HE.out]; rfl, Below.refl _ _⟩
  obtain ⟨hu0, hu1⟩ := inR_out hu
  by_cases hm : 20 < len
  · have HE : Hid (edgesB zs u len = false) := edges_many hm
    have hmI : (20 : Int) < (len : Int) := by omega
    go_enter Try.func12, Try.ntmps12
    go_wp2_with (go_at_call 35; refine (blocks_quiet hu _).mono ?_; rintro e w' ⟨rfl, hw⟩; rw [hw]; clear hw w')
    go_ret
    exact ⟨by rw [HE.out]; rfl, Below.refl _ _⟩
  have hm' : len ≤ 20 := by omega
  have hmI : (len : Int) ≤ 20 := by omega
  clear hm
  go_enter Try.func12, Try.ntmps12
  go_wp2_with (go_at_call 35; refine (blocks_quiet hu _).mono ?_; rintro e w' ⟨rfl, hw⟩; rw [hw]; clear hw w')
  go_loopw [18] (fun vi wr => ∃ k : Nat, k ≤ len ∧ vi = .int .i64 k ∧ Hid (∀ j, j < k → EdgeOk zs u j) ∧ Hid (wr.rowIs W.heap.size 52 64 (fun i => .bool (takE zs k (i : Int)))) ∧ Hid (Below W.heap.size W wr)) (fun vi _ => len - (intOf vi).toNat)
  case atStart =>
    refine ⟨0, Nat.zero_le _, rfl, fun j hj => by omega, ?_, ?_⟩
    · show World.rowIs _ _ _ _ _
      exact (falses64 W 52)
    · show Below _ _ _
      go_grown
  case round =>
    obtain ⟨k, hk, rfl, HG, HT, HB⟩ := hrel
    by_cases hlt : k < len
    rotate_left
    · have HE : Hid (edgesB zs u len = true) := edges_yes hu hm' (fun j hj => HG.out j (by omega))
      go_wp2
      go_ret
      exact ⟨by rw [HE.out]; rfl, HB.out⟩
    obtain ⟨b, off, x, y, c, ha, hb, c0, c1, c2, HX, HY, HC⟩ := edge_at h.out hz.out HB.out hlt
    have hbw : b < wr.heap.size := by have := HB.out.size; omega
    have hbW : b ≠ W.heap.size := by omega
    subst ha
    have hltI : (k : Int) < (len : Int) := by omega
    have HB1 : Hid (Below W.heap.size W (wr.alloc (.cells #[.int .i64 x, .int .i64 y, .int .i64 c] 46))) := HB.out.alloc HB.out.size _
    have HT1 : Hid ((wr.alloc (.cells #[.int .i64 x, .int .i64 y, .int .i64 c] 46)).rowIs W.heap.size 52 64 (fun i => .bool (takE zs k (i : Int)))) := HT.out.alloc _
    have hWw : W.heap.size < wr.heap.size := HT.out.lt
    have HNO : Hid ((inR x 0 (u - 1) = false ∨ inR y 0 (u - 1) = false ∨ inR c 0 100000 = false ∨ takE zs k (x * 8 + y) = true) → edgesB zs u len = false) := fun q => edges_bad hlt (edge_no hu1 HG.out (by rw [HX.out, HY.out, HC.out]; exact q))
    have HYES : Hid (inR x 0 (u - 1) = true → inR y 0 (u - 1) = true → inR c 0 100000 = true → takE zs k (x * 8 + y) = false → ∀ j, j < k + 1 → EdgeOk zs u j) := fun q0 q1 q2 q3 i hi => by
      by_cases e : i = k
      · subst e; exact edge_ok hu1 HG.out (by rw [HX.out]; exact q0) (by rw [HY.out]; exact q1) (by rw [HC.out]; exact q2) (by rw [HX.out, HY.out]; exact q3)
      · exact HG.out i (by omega)
    have HST : Hid (∀ i, takE zs (k + 1) i = (takE zs k i || decide (x * 8 + y = i))) := fun i => by rw [← HX.out, ← HY.out]; rfl
    cases hx : inR x 0 (u - 1)
    · have HE : Hid (edgesB zs u len = false) := HNO.out (Or.inl hx)
      clear HNO HYES HST
      go_wp2_with fail
      go_quiet (first | (go_at_call 36; with_reducible exact Calls.quiet_of_same (block_quiet hu0 hu1 hx _)))
      go_wp2
      go_ret
      exact ⟨by rw [HE.out]; rfl, belowN HB1.out _⟩
    cases hy : inR y 0 (u - 1)
    · have HE : Hid (edgesB zs u len = false) := HNO.out (Or.inr (Or.inl hy))
      clear HNO HYES HST
      go_wp2_with fail
      go_quiet (first | (go_at_call 36; with_reducible exact Calls.quiet_of_same (block_quiet hu0 hu1 hx _)) | (go_at_call 36; with_reducible exact Calls.quiet_of_same (block_quiet hu0 hu1 hy _)))
      go_wp2
      go_ret
      exact ⟨by rw [HE.out]; rfl, belowN HB1.out _⟩
    cases hc : inR c 0 100000
    · have HE : Hid (edgesB zs u len = false) := HNO.out (Or.inr (Or.inr (Or.inl hc)))
      clear HNO HYES HST
      go_wp2_with fail
      go_quiet (first | (go_at_call 36; with_reducible exact Calls.quiet_of_same (block_quiet hu0 hu1 hx _)) | (go_at_call 36; with_reducible exact Calls.quiet_of_same (block_quiet hu0 hu1 hy _)) | (go_at_call 37; with_reducible exact Calls.quiet_of_same (between_quiet hc _)))
      go_wp2
      go_ret
      exact ⟨by rw [HE.out]; rfl, belowN HB1.out _⟩
    obtain ⟨x0, x1⟩ := inR_out hx
    obtain ⟨y0, y1⟩ := inR_out hy
    obtain ⟨m, hmx⟩ : ∃ m : Nat, x = (m : Int) := ⟨x.toNat, by omega⟩
    obtain ⟨l, hly⟩ : ∃ l : Nat, y = (l : Int) := ⟨y.toNat, by omega⟩
    subst hmx hly
    have hm8 : m < 8 := by omega
    have hl8 : l < 8 := by omega
    have hm8I : (m : Int) < 8 := by omega
    have hl8I : (l : Int) < 8 := by omega
    have hml : m * 8 + l < 64 := by omega
    have t0 := HT1.out.cell hml
    have t1 := HT1.out.frozen (m * 8 + l)
    rw [show ((m * 8 + l : Nat) : Int) = (m : Int) * 8 + (l : Int) by omega] at t0
    cases ht : takE zs k ((m : Int) * 8 + (l : Int))
    rotate_left
    · have HE : Hid (edgesB zs u len = false) := HNO.out (Or.inr (Or.inr (Or.inr ht)))
      rw [ht] at t0
      clear HNO HYES HST
      go_wp2_with fail
      go_quiet (first | (go_at_call 36; with_reducible exact Calls.quiet_of_same (block_quiet hu0 hu1 hx _)) | (go_at_call 36; with_reducible exact Calls.quiet_of_same (block_quiet hu0 hu1 hy _)) | (go_at_call 37; with_reducible exact Calls.quiet_of_same (between_quiet hc _)))
      go_wp2
      go_ret
      exact ⟨by rw [HE.out]; rfl, belowN HB1.out _⟩
    · have HN : Hid (∀ j, j < k + 1 → EdgeOk zs u j) := HYES.out hx hy hc ht
      rw [ht] at t0
      clear HNO HYES
      go_wp2_with fail
      go_quiet (first | (go_at_call 36; with_reducible exact Calls.quiet_of_same (block_quiet hu0 hu1 hx _)) | (go_at_call 36; with_reducible exact Calls.quiet_of_same (block_quiet hu0 hu1 hy _)) | (go_at_call 37; with_reducible exact Calls.quiet_of_same (between_quiet hc _)))
      go_wp2
      first | go_region | fail
      all_goals
        go_wp2
        go_roundw
        case rel =>
          refine ⟨k + 1, by omega, by go_num, HN, ?_, ?_⟩
          · show World.rowIs _ _ _ _ _
            refine World.rowIs.congr (World.rowIs.set (World.rowIs.of_block HT1.out (by simp)) (m * 8 + l) (.bool true)) ?_
            intro i hi
            rw [HST.out]
            by_cases e : i = m * 8 + l
            · subst e; simp
            · rw [if_neg e, decide_eq_false (by omega), Bool.or_false]
          · show Below _ _ _
            refine Below.setCell ?_ (show W.heap.size ≤ W.heap.size from Nat.le_refl _) _
            first | exact belowN HB1.out _ | exact (belowN HB1.out _).drew | exact belowN (belowN HB1.out _) _
        case measure => simp [intOf]; omega
end Go.Proofs.Ytaepabaabngdiaa.walks
