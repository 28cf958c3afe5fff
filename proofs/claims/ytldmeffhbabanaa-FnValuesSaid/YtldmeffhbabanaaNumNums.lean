/-
  What the program's numbersOfNames answers.
-/
import Derived.Test.YtldmeffhbabanaaProg
import Derived.Test.YtldmeffhbabanaaNumRun
import Derived.Test.YtldmeffhbabanaaNumArr
import Derived.Test.YtldmeffhbabanaaOwnInts
import Derived.WalkKit
import Derived.WalkSpells
import Derived.Below
import Derived.Handy
import Derived.Deep.RegionWith
import Derived.Deep.RegionHeld3
import Derived.Deep.AppendLies
namespace Go.Proofs.Ytldmeffhbabanaa.nums
open Go.RowKit Go.Proofs.Ytldmeffhbabanaa.math Go.Proofs.Ytldmeffhbabanaa.ints Go.Proofs.Ytldmeffhbabanaa.walks
set_option linter.unusedVariables false
set_option linter.unusedSimpArgs false

/-- What numbersOfNames leaves. -/
def NumsAns (W : World) (zs : List Int) (e : Ending) (W' : World) : Prop := ∃ v, e = .returned v ∧ Own W' W.heap.size v zs ∧ Below W.heap.size W W'
set_option maxRecDepth 100000 in
set_option maxHeartbeats 2000000 in
theorem impl_nums (nb mb m : Nat) (vs ns : List V) (W : World) (HI : Hid (Inv vs ns m)) (hN : Hid (Num W nb mb vs ns)) :
    Calls Try.prog 40 #[.pointer (some ⟨nb, 0, none⟩)] W fun e W' => NumsAns W (numsOf vs ns) e W' := by
  obtain ⟨j0, hj, hy0, hy1, hy2⟩ := info_parts row_info
  have hnb := hN.out.1.lt
  obtain ⟨cs, HRg, HSz, HArr⟩ := names_arr hN.out HI.out.len
  go_enter Try.func40, Try.ntmps40
  go_wp2_with (first | (refine wpList_load_mid rfl 87 _ rfl nb 1 rfl cs _ HRg.out Try.underlying87 rfl HSz.out ?_) | go_in)
  clear HRg HSz
  go_loopw [3, 10] (fun vt vi wr => ∃ k : Nat, k ≤ 8 ∧ vi = .int .i64 k ∧ Hid (wr.ownsRow W.heap.size 3 1 vt k (((numsOf vs ns).take k).map (Value.int .i64))) ∧ Hid (Below W.heap.size W wr)) (fun _ vi _ => 8 - (intOf vi).toNat)
  case atStart => exact ⟨0, Nat.zero_le _, rfl, World.ownsRow_nil _ _ _ _, Below.refl _ _⟩
  case round =>
    obtain ⟨k, hk, rfl, HO, HB⟩ := hrel
    have hsz := HB.out.size
    by_cases hlt : k < 8
    · have hlt' : (k : Int) < 8 := by omega
      obtain ⟨x0, x1, x2, x3, hx⟩ := four_v (ns.getD k zV)
      have qx := HArr.out k hlt x0 x1 x2 x3 hx
      have hmem := HI.out.at hlt
      have hokx := HI.out.ok _ hmem
      have hat := nums_at (vs := vs) (ns := ns) (i := k) (by rw [HI.out.len]; exact hlt)
      rw [hx] at hmem hokx hat
      obtain ⟨ix, hix⟩ : ∃ ix, idx vs (x0, x1, x2, x3) = ix := ⟨_, rfl⟩
      have l1 := ((map_far hN.out.2 HB.out).alloc (.cells #[.int .i64 x0, .int .i64 x1, .int .i64 x2, .int .i64 x3] 49)).drew.look hokx hmem
      rw [hix] at l1 hat
      simp only [vV] at l1
      have e0 : wr.cell? ⟨nb, 0, none⟩ = some (.map (some mb)) := (HB.out.cell (p := ⟨nb, 0, none⟩) hnb).trans (num_map hN.out)
      have hnl : nb < wr.heap.size := by omega
      obtain ⟨L, hL⟩ : ∃ L, (numsOf vs ns).take k = L := ⟨_, rfl⟩
      obtain ⟨L', hL1⟩ : ∃ L', (numsOf vs ns).take (k + 1) = L' := ⟨_, rfl⟩
      have HL' : Hid (L' = L ++ [(ix : Int)]) := by
        show L' = _
        have hkl : k < (numsOf vs ns).length := by rw [nums_len, HI.out.len]; exact hlt
        rw [← hL1, ← hL, List.take_add_one, List.getElem?_eq_getElem hkl]
        have : (numsOf vs ns)[k] = (ix : Int) := by rw [← hat]; simp [List.getD, List.getElem?_eq_getElem hkl]
        rw [this]; rfl
      rw [hL] at HO
      have HLo : Hid (∀ g, Value.ownBlock _ = some g → W.heap.size ≤ g ∧ g < wr.heap.size) := World.ownsRow.lt HO.out
      have HL1 : Hid ((numsOf vs ns).take (k + 1) = L') := hL1
      clear hx hmem hokx hat hix hL hL1
      go_wp2_with fail
      refine wp_region_noPanic ?_
      refine wp_region_held_drew (S := fun w' => w'.cell? ⟨nb, 0, none⟩ = some (.map (some mb)) ∧ w'.cell? ⟨wr.heap.size, 0, none⟩ = some (.int .i64 x0) ∧ w'.cell? ⟨wr.heap.size, 1, none⟩ = some (.int .i64 x1) ∧ w'.cell? ⟨wr.heap.size, 2, none⟩ = some (.int .i64 x2) ∧ w'.cell? ⟨wr.heap.size, 3, none⟩ = some (.int .i64 x3)) (by kernel_rfl) ?_ (fun hHeld => ?_)
      · (try dsimp only); (refine ⟨?_, ?_, ?_, ?_, ?_⟩ <;> go_simp)
      refine wpAnyH_take (i := 0) (v := ?v1) rfl (by kernel_rfl) (by kernel_rfl) (by kernel_rfl) (fun _ _ _ h => h) (Or.inl ⟨by rfl, ?hy1⟩) (by assumption) ?_
      case hy1 => (intro w hSw; (try dsimp only at hSw); go_simp; try with_reducible rfl)
      try simp only [Act.put, List.setIfInBounds_toArray, List.set_cons_zero, List.set_cons_succ]
      refine wpAnyH_take (i := 1) (v := ?v2) rfl (by kernel_rfl) (by kernel_rfl) (by kernel_rfl) (fun _ _ _ h => h) (Or.inl ⟨by rfl, ?hy2⟩) (by assumption) ?_
      case hy2 => (intro w hSw; (try dsimp only at hSw); go_simp; try with_reducible rfl)
      try simp only [Act.put, List.setIfInBounds_toArray, List.set_cons_zero, List.set_cons_succ]
      refine wpAnyH_take (i := 2) (v := ?v3) rfl (by kernel_rfl) (by kernel_rfl) (by kernel_rfl) (fun _ _ _ h => h) (Or.inl ⟨by rfl, ?hy3⟩) (by assumption) ?_
      case hy3 => (intro w hSw; (try dsimp only at hSw); go_simp; try with_reducible rfl)
      try simp only [Act.put, List.setIfInBounds_toArray, List.set_cons_zero, List.set_cons_succ]
      refine wpAnyH_take (i := 3) (v := ?v4) rfl (by kernel_rfl) (by kernel_rfl) (by kernel_rfl) (fun _ _ _ h => h) (Or.inl ⟨by rfl, ?hy4⟩) (by assumption) ?_
      case hy4 => (intro w hSw; (try dsimp only at hSw); go_simp; try with_reducible rfl)
      try simp only [Act.put, List.setIfInBounds_toArray, List.set_cons_zero, List.set_cons_succ]
      refine wpAnyH_take (i := 4) (v := ?v5) rfl (by kernel_rfl) (by kernel_rfl) (by kernel_rfl) (fun _ _ _ h => h) (Or.inl ⟨by rfl, ?hy5⟩) (by assumption) ?_
      case hy5 => (intro w hSw; (try dsimp only at hSw); go_simp; try with_reducible rfl)
      try simp only [Act.put, List.setIfInBounds_toArray, List.set_cons_zero, List.set_cons_succ]
      refine wpAnyH_take (i := 5) (v := ?v6) rfl (by kernel_rfl) (by kernel_rfl) (by kernel_rfl) (fun _ _ _ h => h) (Or.inl ⟨by rfl, ?hy6⟩) (by assumption) ?_
      case hy6 => (intro w hSw; (try dsimp only at hSw); go_simp; try with_reducible rfl)
      try simp only [Act.put, List.setIfInBounds_toArray, List.set_cons_zero, List.set_cons_succ]
      refine wpAnyH_ready (rs := [6]) (by kernel_rfl) (by simp) ?_
      refine AllReadyH.cons rfl (fun K hK => ?_) AllReadyH.nil
      go_simp
      refine hK.out _ _ ?_ (fun hHeld => ?_)
      · (try dsimp only); first | assumption | exact ⟨G4, G0, G1, G2, G3⟩ | (refine ⟨?_, ?_, ?_, ?_, ?_⟩ <;> go_simp)
      clear hK K
      try simp only [Act.put, List.setIfInBounds_toArray, List.set_cons_zero, List.set_cons_succ]
      refine wpAnyH_ready (rs := [7]) (by kernel_rfl) (by simp) ?_
      refine AllReadyH.cons rfl (fun K hK => ?_) AllReadyH.nil
      go_simp
      refine hK.out _ _ ?_ (fun hHeld => ?_)
      · (try dsimp only); first | assumption | exact ⟨G4, G0, G1, G2, G3⟩ | (refine ⟨?_, ?_, ?_, ?_, ?_⟩ <;> go_simp)
      clear hK K
      try simp only [Act.put, List.setIfInBounds_toArray, List.set_cons_zero, List.set_cons_succ]
      refine wpAnyH_ready (rs := [8]) (by kernel_rfl) (by simp) ?_
      refine AllReadyH.cons rfl (fun K hK => ?_) AllReadyH.nil
      (refine step_append_lies _ (by rfl) _ _ 24 (by rfl) W.heap.size 3 j0 _ 1 8 Try.underlying24 hj hy0 hy1 hy2 rfl (by omega) _ k (L.map (Value.int .i64)) (by rfl) (by first | exact ((World.ownsRow.alloc (World.ownsRow.alloc HO.out _) _).drew) | exact (World.ownsRow.alloc ((World.ownsRow.alloc HO.out _).drew) _)) ⟨wr.heap.size + 1, 0, none⟩ 1 1 [.int .i64 (ix : Int)] (by rfl) (by rfl) ?c1 (one_of _) (by omega) (by unfold maxLen; omega) (by omega) (by simp; omega) (wr.heap.size + 2) (by simp) ?_)
      case c1 =>
        intro jq u hjq
        match jq, hjq with
        | 0, hjq => simp at hjq; subst hjq; simp [Addr.add]
      intro gg cap w1 hown1 hgrow hat hlt2
      have G0 : w1.cell? ⟨wr.heap.size, 0, none⟩ = some (.int .i64 x0) := (World.cell?_of_block (a := ⟨wr.heap.size, 0, none⟩) (hgrow.block wr.heap.size (by simp; omega) (fun e => by have := (HLo.out _ e.symm).2; omega))).trans (by go_simp)
      have G1 : w1.cell? ⟨wr.heap.size, 1, none⟩ = some (.int .i64 x1) := (World.cell?_of_block (a := ⟨wr.heap.size, 1, none⟩) (hgrow.block wr.heap.size (by simp; omega) (fun e => by have := (HLo.out _ e.symm).2; omega))).trans (by go_simp)
      have G2 : w1.cell? ⟨wr.heap.size, 2, none⟩ = some (.int .i64 x2) := (World.cell?_of_block (a := ⟨wr.heap.size, 2, none⟩) (hgrow.block wr.heap.size (by simp; omega) (fun e => by have := (HLo.out _ e.symm).2; omega))).trans (by go_simp)
      have G3 : w1.cell? ⟨wr.heap.size, 3, none⟩ = some (.int .i64 x3) := (World.cell?_of_block (a := ⟨wr.heap.size, 3, none⟩) (hgrow.block wr.heap.size (by simp; omega) (fun e => by have := (HLo.out _ e.symm).2; omega))).trans (by go_simp)
      have G4 : w1.cell? ⟨nb, 0, none⟩ = some (.map (some mb)) := (World.cell?_of_block (a := ⟨nb, 0, none⟩) (hgrow.block nb (by simp; omega) (fun e => by have := (HLo.out _ e.symm).1; omega))).trans (by go_simp)
      have HO1 : Hid (w1.ownsRow W.heap.size 3 1 (.slice (some ⟨gg, 0, none⟩) (k + 1) cap) (k + 1) (L'.map (Value.int .i64))) := by show World.ownsRow _ _ _ _ _ _ _; rw [HL'.out]; simpa using hown1
      have HB1 : Hid (Below W.heap.size W w1) := by
        show Below _ _ _
        refine Below.grown ?_ hgrow (by simp; omega) (fun jq hjq => (HLo.out jq hjq).1)
        refine Below.trans HB.out ?_
        go_grown
      clear hown1 hgrow hat hlt2
      refine hK.out _ _ ?_ (fun hHeld => ?_)
      · (try dsimp only); first | assumption | exact ⟨G4, G0, G1, G2, G3⟩ | (refine ⟨?_, ?_, ?_, ?_, ?_⟩ <;> go_simp)
      clear hK K
      try simp only [Act.put, List.setIfInBounds_toArray, List.set_cons_zero, List.set_cons_succ]
      refine wpAnyH_ready (rs := [9]) (by kernel_rfl) (by simp) ?_
      refine AllReadyH.cons rfl (fun K hK => ?_) AllReadyH.nil
      go_simp
      refine hK.out _ _ ?_ (fun hHeld => ?_)
      · (try dsimp only); first | assumption | exact ⟨G4, G0, G1, G2, G3⟩ | (refine ⟨?_, ?_, ?_, ?_, ?_⟩ <;> go_simp)
      clear hK K
      try simp only [Act.put, List.setIfInBounds_toArray, List.set_cons_zero, List.set_cons_succ]
      refine wpAnyH_done (by kernel_rfl) ?_ _
      refine NoPanic.normal ?_
      go_wp2
      go_roundw
      case rel => exact ⟨k + 1, by omega, by go_num, (by show World.ownsRow _ _ _ _ _ _ _; rw [HL1.out]; exact HO1.out), HB1⟩
      case measure => simp [intOf]; omega
    · have HE : Hid (k = 8) := by show k = 8; omega
      have hge : (8 : Int) ≤ k := by omega
      have H8 : Hid ((numsOf vs ns).length = 8) := by show _ = _; rw [nums_len, HI.out.len]
      rw [HE.out] at HO
      rw [List.take_of_length_le (by rw [H8.out]; exact Nat.le_refl _)] at HO
      go_wp2
      go_ret
      exact ⟨_, rfl, (by unfold Own; rw [H8.out]; exact HO.out), HB.out⟩
end Go.Proofs.Ytldmeffhbabanaa.nums
