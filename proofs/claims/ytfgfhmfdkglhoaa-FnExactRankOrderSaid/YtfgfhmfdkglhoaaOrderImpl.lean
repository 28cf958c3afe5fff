/-
  What the program's RankOrder answers, by its sort.
-/
import Derived.Test.YtfgfhmfdkglhoaaProg
import Derived.Test.YtfgfhmfdkglhoaaMagMath
import Derived.Test.YtfgfhmfdkglhoaaTaskMath
import Derived.Test.YtfgfhmfdkglhoaaRankMath
import Derived.Test.YtfgfhmfdkglhoaaOrderMath
import Derived.Test.YtfgfhmfdkglhoaaTaskSpec
import Derived.Test.YtfgfhmfdkglhoaaTaskImpl
import Derived.Test.YtfgfhmfdkglhoaaRankImpl
import Derived.Test.YtfgfhmfdkglhoaaOrderSpec
import Derived.Test.YtfgfhmfdkglhoaaSortImpl
import Derived.Test.YtfgfhmfdkglhoaaInts
import Derived.Test.YtfgfhmfdkglhoaaOwnInts
import Derived.Test.YtfgfhmfdkglhoaaPats
import Derived.Test.YtfgfhmfdkglhoaaTaskMark
import Derived.WalkKit
import Derived.WalkSpells
import Derived.Below
import Derived.Handy
import Derived.Deep.QuietTactic
import Derived.BigQuiet
import Derived.Deep.RegionHeld3
namespace Go.Proofs.Ytfgfhmfdkglhoaa.walks
open Go.RowKit Go.Proofs.Ytfgfhmfdkglhoaa.math Go.Proofs.Ytfgfhmfdkglhoaa.ints
set_option linter.unusedVariables false
set_option linter.unusedSimpArgs false
set_option maxRecDepth 100000

set_option maxHeartbeats 4000000 in
theorem impl_stable (sa : Option Addr) (oc g n rb rg : Nat) (R : Nat → Int) (W : World) (hsa : Hid (0 < n → sa = some ⟨g, 0, none⟩)) (hn : n ≤ 12) (hrb : rb ≠ g) (hrg : rg ≠ g) (h : Hid (RankB W rb rg n R)) (hs : Hid (SortI W W g n (fun x => x))) :
    Calls Try.prog 51 #[.slice sa n oc, .int .i64 (n : Int), .func (.func 35) #[] #[.pointer (some ⟨rb, 0, none⟩)]] W fun e W' => e = .returned (.tuple #[]) ∧ SortI W W' g n (rowS R n) := by
  have hnI : (n : Int) < 20 := by omega
  go_enter Try.func51, Try.ntmps51
  go_wp2
  go_loop [7, 8] (fun va vb => va = .int .i64 0 ∧ vb = .int .i64 20) (fun _ _ => 1)
  case atStart => exact ⟨rfl, rfl⟩
  case round =>
    obtain ⟨rfl, rfl⟩ := hrel
    go_wp2_with fail
    refine (impl_insert _ _ _ _ _ _ R _ hsa hn hrb hrg h hs).mono ?_
    rintro e w1 ⟨rfl, hS⟩
    have HS : Hid (SortI W w1 g n (rowS R n)) := hS
    clear hS
    go_wp2
    go_loop [6] (fun va => va = .int .i64 20) (fun _ => 1)
    case atStart => rfl
    case round =>
      subst hrel
      go_wp2
      exact bodyPost_end (v := .tuple #[]) (by simp [results, Try.results51]) rfl ⟨rfl, HS.out⟩
theorem impl_sort (sa : Option Addr) (oc g n rb rg : Nat) (R : Nat → Int) (W : World) (hsa : Hid (0 < n → sa = some ⟨g, 0, none⟩)) (hn : n ≤ 12) (hrb : rb ≠ g) (hrg : rg ≠ g) (h : Hid (RankB W rb rg n R)) (hs : Hid (SortI W W g n (fun x => x))) :
    Calls Try.prog 34 #[.slice sa n oc, .func (.func 35) #[] #[.pointer (some ⟨rb, 0, none⟩)]] W fun e W' => e = .returned (.tuple #[]) ∧ SortI W W' g n (rowS R n) := by
  go_enter Try.func34, Try.ntmps34
  go_wp2_with fail
  refine (impl_stable _ _ _ _ _ _ R _ hsa hn hrb hrg h hs).mono ?_
  rintro e w1 ⟨rfl, hS⟩
  have HS : Hid (SortI W w1 g n (rowS R n)) := hS
  clear hS
  go_wp2
  exact bodyPost_end (v := .tuple #[]) (by simp [results, Try.results34]) rfl ⟨rfl, HS.out⟩
/-- The numbers below k. -/
def idZ (k : Nat) : List Int := (List.range k).map (fun x : Nat => (x : Int))
theorem idZ_len (k : Nat) : (idZ k).length = k := by simp [idZ]
theorem idZ_at {k i : Nat} (h : i < k) : (idZ k).getD i 0 = (i : Int) := by simp [idZ, List.getD, h]
theorem idZ_next (k : Nat) : idZ (k + 1) = idZ k ++ [(k : Int)] := by simp [idZ, List.range_succ]
set_option maxHeartbeats 8000000 in
theorem impl_order (a : Option Addr) (n cap : Nat) (f : Nat → Pv) (W : World) (hn : n ≤ 1048576) (hlen : Hid (∀ k, k < n → (f k).zs.length ≤ 1048576)) (h : Hid (Pats W a n f)) :
    Calls Try.prog 16 #[.slice a n cap] W fun e W' => OrdAns f n W e W' := by
  obtain ⟨i0, hi, hz0, hz1, hz2⟩ := info_parts row_info
  cases hg : tasksB f n
  · have HV : Hid (orZ f n = []) := by show _ = _; unfold orZ; rw [hg]; rfl
    go_enter Try.func16, Try.ntmps16
    go_wp2_with fail
    refine (impl_tasks _ _ _ f _ hn hlen h).mono ?_
    rw [hg]
    rintro e w1 ⟨rfl, hB⟩
    have HB : Hid (Below W.heap.size W w1) := hB
    clear hB
    go_wp2
    go_ret2
    exact ⟨none, 0, by rw [HV.out, hg]; rfl, by rw [HV.out]; exact Or.inl rfl, HB.out⟩
  have HV : Hid (orZ f n = ordZ (rankV f n) n) := by show _ = _; unfold orZ; rw [hg]; rfl
  obtain ⟨hn12, hgd⟩ := tasks_out hg
  have HG : Hid (∀ k, k < n → taskB (f k) k = true) := hgd
  clear hgd
  have hnI : (n : Int) ≤ 12 := by omega
  go_enter Try.func16, Try.ntmps16
  go_wp2_with fail
  refine (impl_tasks _ _ _ f _ hn hlen h).mono ?_
  rw [hg]
  rintro e w1 ⟨rfl, hB⟩
  have HB1 : Hid (Below W.heap.size W w1) := hB
  clear hB
  go_wp2_with fail
  refine (impl_ranks _ _ _ f _ hn12 HG hlen (h.out.kept HB1.out)).mono ?_
  rintro e w2 ⟨rfl, hR, hB⟩
  have HB2 : Hid (Below W.heap.size W w2) := HB1.out.trans (hB.mono HB1.out.size)
  have HR : Hid (w2.rowIs w1.heap.size 3 n (fun i => .int .i64 (rankV f n i))) := hR
  have hrl : w1.heap.size < w2.heap.size := hR.lt
  clear hB hR
  obtain ⟨R, hRE⟩ : ∃ R, Hid (rankV f n = R) := ⟨_, rfl⟩
  rw [hRE.out] at HR HV
  obtain ⟨rg, hrg⟩ : ∃ rg, Hid (w1.heap.size = rg) := ⟨_, rfl⟩
  rw [hrg.out] at HR hrl ⊢
  go_wp2
  obtain ⟨X, hX⟩ : ∃ X, Hid (w2.alloc (.cells #[.slice (some ⟨rg, 0, none⟩) n n] 23) = X) := ⟨_, rfl⟩
  have hXs : X.heap.size = w2.heap.size + 1 := by rw [← hX.out]; simp
  have HRX : Hid (RankB X w2.heap.size rg n R) := by
    show RankB _ _ _ _ _
    refine ⟨by rw [← hX.out]; go_simp, fun i hi => ?_⟩
    rw [← hX.out, World.cell?_alloc_lt _ _ _ (show rg < w2.heap.size from hrl)]
    exact HR.out.cell hi
  have HBX : Hid (Below W.heap.size W X) := by show Below _ _ _; rw [← hX.out]; exact HB2.out.alloc HB2.out.size _
  rw [hX.out]
  obtain ⟨rb, hrb⟩ : ∃ rb, Hid (w2.heap.size = rb) := ⟨_, rfl⟩
  rw [hrb.out] at hXs HRX hrl ⊢
  clear hX
  go_loopw [5, 14] (fun vo vi wr => ∃ (k : Nat) (u : Value), k ≤ n ∧ vi = .int .i64 (k : Int) ∧ vo = u ∧ Hid (ints.Own wr X.heap.size u (idZ k)) ∧ Hid (Below X.heap.size X wr) ∧ Hid (k = 0 → u = .slice none 0 0)) (fun _ vi _ => n - (intOf vi).toNat)
  case atStart => exact ⟨0, _, Nat.zero_le _, rfl, rfl, own_nil _ _, Below.refl _ _, fun _ => rfl⟩
  case round =>
    obtain ⟨k, u, hk, rfl, rfl, HO, HB, HU⟩ := hrel
    by_cases hlt : k < n
    · have hltI : (k : Int) < (n : Int) := by omega
      have hXw := HB.out.size
      have HO0 : Hid (wr.ownsRow X.heap.size 3 1 u5 k ((idZ k).map (Value.int .i64))) := by have := HO.out; unfold ints.Own at this; rw [idZ_len] at this; exact this
      go_wp2_with (first
        | (at_builtin; refine wpList_append_own _ rfl _ _ 23 rfl X.heap.size 3 i0 (.int .i64 0) 1 8 Try.underlying23 hi hz0 hz1 hz2 rfl (by decide) _ k ((idZ k).map (Value.int .i64)) rfl (World.ownsRow.alloc HO0.out _) ⟨wr.heap.size, 0, none⟩ 1 1 [.int .i64 (k : Int)] rfl rfl (new_one wr (k : Int) _) (one_of (k : Int)) (by unfold maxLen; omega) (by omega) (by simp; omega) ?_)
        | fail)
      intro v3 w3 hown hgrow _
      obtain ⟨hO, hB, hS⟩ := ints.Own.snoc HO.out hXw HB.out (by rw [idZ_len, hXs]; exact hown) hgrow
      have HO3 : Hid (ints.Own w3 X.heap.size v3 (idZ (k + 1))) := by show ints.Own _ _ _ _; rw [idZ_next]; exact hO
      have HB3 : Hid (Below X.heap.size X w3) := hB
      clear hown hgrow hO hB hS
      go_wp2
      go_roundw
      case rel => exact ⟨k + 1, v3, by omega, by go_num, rfl, HO3, HB3, fun q => by omega⟩
      case measure => simp [intOf]; omega
    obtain rfl : k = n := by omega
    have HRB : Hid (RankB wr rb rg k R) := by
      show RankB _ _ _ _ _
      exact ⟨(HB.out.cell (p := ⟨rb, 0, none⟩) (by show rb < _; omega)).trans HRX.out.box, fun i hi => (HB.out.cell (p := ⟨rg, i, none⟩) (by show rg < _; omega)).trans (HRX.out.row i hi)⟩
    obtain ⟨sa, oc, g, hu, hsa, hgX, HS0, HL0⟩ : ∃ sa oc g, u5 = .slice sa k oc ∧ Hid (0 < k → sa = some ⟨g, 0, none⟩) ∧ X.heap.size ≤ g ∧ Hid (SortI wr wr g k (fun x => x)) ∧ Hid (0 < k → g < wr.heap.size) := by
      by_cases k0 : k = 0
      · exact ⟨none, 0, X.heap.size, by rw [HU.out k0, k0], fun q => by omega, Nat.le_refl _, ⟨fun x hx => by omega, OnlyP.refl _ _ _⟩, fun q => by omega⟩
      · obtain ⟨oa, oc, hv, hm⟩ := HO.out.mine
        obtain ⟨g, c, hv2, _, hgB, hgl, _⟩ := own_open HO.out (by rw [idZ_len]; omega)
        rw [idZ_len] at hv hv2
        rw [hv] at hv2
        simp only [Value.slice.injEq] at hv2
        obtain ⟨rfl, _, rfl⟩ := hv2
        refine ⟨_, oc, g, hv, fun _ => rfl, hgB, ⟨fun x hx => ?_, OnlyP.refl _ _ _⟩, fun _ => hgl⟩
        rcases hm with q | ⟨b, off, e, _, _, hc⟩
        · have := idZ_len k; rw [q] at this; simp at this; omega
        · simp only [Option.some.injEq, Addr.mk.injEq] at e
          obtain ⟨rfl, rfl, _⟩ := e
          have := hc x (by rw [idZ_len]; exact hx)
          rw [Nat.zero_add, idZ_at hx] at this
          exact this
    subst hu
    clear HU HO HRX
    go_wp2_with fail
    refine (impl_sort _ _ g _ _ _ R _ hsa hn12 (by omega) (by omega) HRB HS0).mono ?_
    rintro e w4 ⟨rfl, hS⟩
    have HS4 : Hid (SortI wr w4 g k (rowS R k)) := hS
    have HB4 : Hid (Below W.heap.size W w4) := HBX.out.trans ((HB.out.trans (hS.only.below.mono hgX)).mono HBX.out.size)
    clear hS
    go_wp2
    go_ret2
    refine ⟨sa, oc, by rw [HV.out, ordZ_len, hg]; rfl, ?_, HB4.out⟩
    rw [HV.out]
    by_cases k0 : k = 0
    · subst k0; exact Or.inl rfl
    · rw [hsa.out (by omega)]
      refine Or.inr ⟨g, 0, rfl, by have := HBX.out.size; omega, by rw [HS4.out.only.size]; exact HL0.out (by omega), fun i hi => ?_⟩
      rw [ordZ_len] at hi
      have := HS4.out.cell i hi
      rw [Nat.zero_add, ordZ_at hi]
      have e : rowS R k i = (ordTo R k).getD i 0 := by unfold rowS; rw [if_pos hi]
      rw [e] at this
      exact this
end Go.Proofs.Ytfgfhmfdkglhoaa.walks
