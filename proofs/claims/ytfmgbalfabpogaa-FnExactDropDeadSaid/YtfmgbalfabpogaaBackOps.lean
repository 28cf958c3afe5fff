/-
  One step back over a set of names in memory: what the program's isDead, plainBack and strongBack do.
-/
import Derived.Test.YtfmgbalfabpogaaProg
import Derived.Test.YtfmgbalfabpogaaSetOps
import Derived.Test.YtfmgbalfabpogaaSetBy
import Derived.Test.YtfmgbalfabpogaaBackMath
import Derived.Test.YtfmgbalfabpogaaNeedImpl
import Derived.WalkKit
import Derived.WalkSpells
import Derived.Below
import Derived.Handy
namespace Go.Proofs.Ytfmgbalfabpogaa.walks
open Go.RowKit Go.Proofs.Ytfmgbalfabpogaa.math Go.Proofs.Ytfmgbalfabpogaa.ints
set_option linter.unusedVariables false
set_option maxRecDepth 100000

theorem below_grown {a b : World} (h : Below a.heap.size a b) (g : Option Nat) : a.grownBy b g := ⟨h.os, h.tape, h.output, h.size, fun i hi _ => h.block i hi⟩
theorem dst_small {o d a b n : Int} (hg : goodI o d a b n = true) (h8 : o ≠ 8) : 0 ≤ d ∧ d ≤ 7 := by
  rcases good_cases hg with ⟨_, q, _⟩ | ⟨_, q, _⟩ | ⟨q, _⟩ | ⟨_, q, _⟩
  · exact q
  · exact q
  · exact absurd q h8
  · exact q
def DeadAns (c : Bool) (W : World) (e : Ending) (W' : World) : Prop := e = .returned (.bool c) ∧ Below W.heap.size W W'
set_option maxHeartbeats 1000000 in
theorem impl_dead (o d a b n : Int) (mb : Nat) (f : Nat → Bool) (W : World) (hg : goodI o d a b n = true) (hs : Hid (SetIs W mb f)) :
    Calls Try.prog 43 #[stepV o d a b n, .map (some mb)] W fun e W' => DeadAns (deadB o d f) W e W' := by
  by_cases h8 : o = 8
  · subst h8
    have HE : Hid (deadB 8 d f = false) := rfl
    have C := impl_setno d a b n W
    generalize stepV 8 d a b n = sv at C ⊢
    go_enter Try.func43, Try.ntmps43
    go_wp2_with fail
    refine C.mono ?_
    clear C
    rintro e w' ⟨rfl, rfl⟩
    go_wp2_with fail
    go_ret
    exact ⟨by rw [HE.out]; rfl, Below.refl _ _⟩
  · obtain ⟨d0, d7⟩ := dst_small hg h8
    obtain ⟨dn, rfl⟩ := Int.eq_ofNat_of_zero_le d0
    have HE : Hid (deadB o (dn : Int) f = !f dn) := by
      show _ = _
      have e8 : (o == 8) = false := by simpa using h8
      unfold deadB
      rw [e8]
      simp
    have C := impl_setby o dn a b n W hg h8
    generalize stepV o dn a b n = sv at C ⊢
    clear hg h8
    go_enter Try.func43, Try.ntmps43
    go_wp2_with fail
    refine C.mono ?_
    clear C
    rintro e w' ⟨rfl, x, rfl⟩
    have HS1 : Hid (SetIs (W.alloc x) mb f) := hs.out.kept ((Below.refl _ _).alloc (Nat.le_refl _) _)
    go_wp2_with (go_at_call 45; refine (impl_has mb dn f _ (by omega) HS1).mono ?_; rintro e w' ⟨rfl, y, rfl⟩)
    go_ret
    exact ⟨by rw [HE.out]; rfl, ((Below.refl _ _).alloc (Nat.le_refl _) _).alloc (by simp) _⟩
theorem gone_back {o d a b : Int} {f : Nat → Bool} (h8 : o ≠ 8) : ∀ i, i < 64 → addS (fun j => f j && !(j == d.toNat)) (usesL o a b) i = backAt true o d a b f i := fun i _ => by
  have e8 : (o == 8) = false := by simpa using h8
  unfold addS backAt
  rw [e8]
  simp
theorem out_back {d a b : Int} {f : Nat → Bool} : ∀ i, i < 64 → addS f (usesL 8 a b) i = backAt true 8 d a b f i := fun i _ => by
  unfold addS backAt
  simp
theorem uses_64 {o d a b n : Int} (h : goodI o d a b n = true) : ∀ j, j < (usesL o a b).length → 0 ≤ (usesL o a b).getD j 0 ∧ (usesL o a b).getD j 0 < 64 := fun j hj => by
  have := (uses_bd h).2 j hj
  omega
set_option maxHeartbeats 1000000 in
theorem impl_plain (o d a b n : Int) (mb : Nat) (f : Nat → Bool) (W : World) (hg : goodI o d a b n = true) (hs : Hid (SetIs W mb f)) :
    Calls Try.prog 44 #[.map (some mb), stepV o d a b n] W fun e W' => SetAns mb (backAt true o d a b f) W e W' := by
  have HU : Hid (∀ j, j < (usesL o a b).length → 0 ≤ (usesL o a b).getD j 0 ∧ (usesL o a b).getD j 0 < 64) := uses_64 hg
  have hul : (usesL o a b).length ≤ 1048576 := Nat.le_trans (uses_bd hg).1 (by omega)
  by_cases h8 : o = 8
  · subst h8
    have C := impl_setno d a b n W
    have C2 := fun w => impl_uses 8 d a b n w hg
    generalize stepV 8 d a b n = sv at C C2 ⊢
    clear hg
    go_enter Try.func44, Try.ntmps44
    go_wp2_with fail
    refine C.mono ?_
    clear C
    rintro e w' ⟨rfl, hw⟩
    rw [hw]
    clear hw w'
    go_wp2_with fail
    refine (C2 _).mono ?_
    rintro e w1 ⟨ua, uc, rfl, hM, hB⟩
    have HM : Hid (Ints w1 ua (usesL 8 a b)) := hM.ints
    have HS1 : Hid (SetIs w1 mb f) := hs.out.kept hB
    have HG1 : Hid (W.grownBy w1 (some mb)) := below_grown hB _
    clear hM hB
    go_wp2_with fail
    refine (impl_add mb f ua _ uc (usesL 8 a b) _ rfl hul HM HU HS1).mono ?_
    rintro e w2 ⟨rfl, hS2, hG2⟩
    have HR : Hid (SetAns mb (backAt true 8 d a b f) W (.returned (.tuple #[])) w2) := ⟨rfl, hS2.same out_back, grow_to HG1.out hG2⟩
    clear hS2 hG2
    go_wp2
    exact bodyPost_end (v := .tuple #[]) (by simp [results, Try.results44, go_sem]) rfl HR.out
  · obtain ⟨d0, d7⟩ := dst_small hg h8
    obtain ⟨dn, rfl⟩ := Int.eq_ofNat_of_zero_le d0
    have hd : dn < 64 := by omega
    have C := impl_setby o dn a b n W hg h8
    have C2 := fun w => impl_uses o dn a b n w hg
    have H8 : Hid (o ≠ 8) := h8
    generalize stepV o dn a b n = sv at C C2 ⊢
    clear hg h8
    go_enter Try.func44, Try.ntmps44
    go_wp2_with fail
    refine C.mono ?_
    clear C
    rintro e w' ⟨rfl, x, rfl⟩
    have HS1 : Hid (SetIs (W.alloc x) mb f) := hs.out.kept ((Below.refl _ _).alloc (Nat.le_refl _) _)
    have HG1 : Hid (W.grownBy (W.alloc x) (some mb)) := World.grownBy_alloc _ _ _
    obtain ⟨w1, hw1⟩ : ∃ w1, Hid (W.alloc x = w1) := ⟨_, rfl⟩
    rw [hw1.out] at HS1 HG1 ⊢
    have HSx := HS1.out
    unfold SetIs at HSx
    go_wp2_with (at_delete; refine wpList_delete_own _ rfl _ _ 56 3 rfl 94 keyedI Try.underlying56 unitElem mb 64 (setD f) rfl HSx _ _ rfl (key64 hd) ?_; intro w2 hown2 hturn2)
    have HS2 : Hid (SetIs w2 mb (fun j => f j && !(j == ((dn : Int)).toNat))) := by
      show SetIs _ _ _
      simpa using set_gone hd hown2
    have HG2 : Hid (W.grownBy w2 (some mb)) := grow_to HG1.out hturn2.grown
    clear hown2 hturn2 HSx
    go_wp2_with fail
    refine (C2 _).mono ?_
    rintro e w3 ⟨ua, uc, rfl, hM, hB⟩
    have HM : Hid (Ints w3 ua (usesL o a b)) := hM.ints
    have HS3 : Hid (SetIs w3 mb (fun j => f j && !(j == ((dn : Int)).toNat))) := HS2.out.kept hB
    have HG3 : Hid (W.grownBy w3 (some mb)) := grow_to HG2.out (below_grown hB _)
    clear hM hB
    go_wp2_with fail
    refine (impl_add mb _ ua _ uc (usesL o a b) _ rfl hul HM HU HS3).mono ?_
    rintro e w4 ⟨rfl, hS4, hG4⟩
    have HR : Hid (SetAns mb (backAt true o (dn : Int) a b f) W (.returned (.tuple #[])) w4) := ⟨rfl, hS4.same (gone_back H8.out), grow_to HG3.out hG4⟩
    clear hS4 hG4
    go_wp2
    exact bodyPost_end (v := .tuple #[]) (by simp [results, Try.results44, go_sem]) rfl HR.out
theorem impl_strong (o d a b n : Int) (mb : Nat) (f : Nat → Bool) (W : World) (hg : goodI o d a b n = true) (hs : Hid (SetIs W mb f)) :
    Calls Try.prog 23 #[.map (some mb), stepV o d a b n] W fun e W' => SetAns mb (backAt false o d a b f) W e W' := by
  have C := impl_dead o d a b n mb f W hg hs
  have C2 := fun w hw => impl_plain o d a b n mb f w hg hw
  generalize stepV o d a b n = sv at C C2 ⊢
  clear hg
  cases hd : deadB o d f
  · rw [hd] at C
    have HD : Hid (deadB o d f = false) := hd
    clear hd
    go_enter Try.func23, Try.ntmps23
    go_wp2_with fail
    refine C.mono ?_
    clear C
    rintro e w1 ⟨rfl, hB⟩
    have HS1 : Hid (SetIs w1 mb f) := hs.out.kept hB
    have HG1 : Hid (W.grownBy w1 (some mb)) := below_grown hB _
    clear hB
    go_wp2_with fail
    refine (C2 _ HS1).mono ?_
    rintro e w2 ⟨rfl, hS2, hG2⟩
    have HR : Hid (SetAns mb (backAt false o d a b f) W (.returned (.tuple #[])) w2) := ⟨rfl, hS2.same (fun i _ => (back_live HD.out i).symm), grow_to HG1.out hG2⟩
    clear hS2 hG2
    go_wp2
    exact bodyPost_end (v := .tuple #[]) (by simp [results, Try.results23, go_sem]) rfl HR.out
  · rw [hd] at C
    have HD : Hid (deadB o d f = true) := hd
    clear hd C2
    go_enter Try.func23, Try.ntmps23
    go_wp2_with fail
    refine C.mono ?_
    clear C
    rintro e w1 ⟨rfl, hB⟩
    have HR : Hid (SetAns mb (backAt false o d a b f) W (.returned (.tuple #[])) w1) := ⟨rfl, (hs.out.kept hB).same (fun i _ => (back_dead HD.out i).symm), below_grown hB _⟩
    clear hB
    go_wp2
    exact bodyPost_end (v := .tuple #[]) (by simp [results, Try.results23, go_sem]) rfl HR.out
end Go.Proofs.Ytfmgbalfabpogaa.walks
