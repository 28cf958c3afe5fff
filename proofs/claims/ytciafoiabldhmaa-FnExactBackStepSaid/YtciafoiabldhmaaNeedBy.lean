/-
  Names that are handed in, rising, as a set: what the program's neededBy answers.
-/
import Derived.Test.YtciafoiabldhmaaProg
import Derived.Test.YtciafoiabldhmaaBackSpecX
import Derived.Test.YtciafoiabldhmaaBackOps
import Derived.WalkKit
import Derived.WalkSpells
import Derived.Below
import Derived.Handy
namespace Go.Proofs.Ytciafoiabldhmaa.walks
open Go.RowKit Go.Proofs.Ytciafoiabldhmaa.math Go.Proofs.Ytciafoiabldhmaa.ints
set_option linter.unusedVariables false
set_option maxRecDepth 100000

def NeededAns (ls : List Int) (W : World) (e : Ending) (W' : World) : Prop :=
  ((namesB ls = true ∧ ∃ mb, e = .returned (.tuple #[.map (some mb), .bool true]) ∧ SetIs W' mb (memS ls) ∧ W.heap.size ≤ mb) ∨ (namesB ls = false ∧ e = .returned (.tuple #[.map none, .bool false]))) ∧ Below W.heap.size W W'
theorem adds_more (f : Nat → Bool) (us vs : List Int) : ∀ i, i < 64 → addS (addS f us) vs i = addS f (us ++ vs) i := fun i _ => by
  unfold addS
  simp only [List.contains_append, Bool.or_assoc]
theorem adds_mem (ls : List Int) : ∀ i, i < 64 → addS (fun _ => false) ls i = memS ls i := fun i _ => by simp [addS, memS]
theorem one_bd {x : Int} (h : 0 ≤ x ∧ x < 64) : ∀ j, j < 1 → 0 ≤ [x].getD j 0 ∧ [x].getD j 0 < 64 := fun j hj => by
  have : j = 0 := by omega
  subst this
  simpa using h
set_option maxHeartbeats 4000000 in
theorem impl_needed (a : Option Addr) (len cap : Nat) (zs : List Int) (W : World) (hz : Hid (zs.length = len)) (hlen : len ≤ 1048576) (h : Hid (Ints W a zs)) :
    Calls Try.prog 40 #[.slice a len cap] W fun e W' => NeededAns zs W e W' := by
  have hmm := @run_makeMap Try.prog
  go_enter Try.func40, Try.ntmps40
  go_wp2
  clear hmm
  go_loopw [10] (fun vi wr => ∃ k : Nat, k ≤ len ∧ vi = .int .i64 k ∧ Hid (namesTo zs k = true) ∧ Hid (SetIs wr W.heap.size (addS (fun _ => false) (zs.take k))) ∧ Hid (Below W.heap.size W wr)) (fun vi _ => len - (intOf vi).toNat)
  case atStart => exact ⟨0, Nat.zero_le _, rfl, rfl, (set_made W).same (adds_none _), (Below.refl _ _).alloc (Nat.le_refl _) _⟩
  case round =>
    obtain ⟨k, hk, rfl, HN, HS, HB⟩ := hrel
    by_cases hlt : k < len
    · have hkl : k < zs.length := by have := hz.out; omega
      obtain ⟨b, off, ha, hc⟩ := h.out.at HB.out hkl
      subst ha
      have hbs := HB.out.size
      have HT : Hid (zs.take (k + 1) = zs.take k ++ [zs.getD k 0]) := take_next hkl
      have HBad : Hid (NeededAns zs W (.returned (.tuple #[.map none, .bool false])) wr → True) := fun _ => trivial
      cases e1 : inR (zs.getD k 0) 0 7
      · have HE : Hid (NeededAns zs W (.returned (.tuple #[.map none, .bool false])) wr) := ⟨Or.inr ⟨names_no hz.out hlt (by rw [e1]; rfl), rfl⟩, HB.out⟩
        generalize zs.getD k 0 = x at hc e1
        go_wp2_with (go_at_call 60; refine (impl_name _ _).mono ?_; rw [e1]; rintro e w' ⟨rfl, hw⟩; rw [hw]; clear hw w')
        go_ret2
        exact HE.out
      · have hx64 : 0 ≤ zs.getD k 0 ∧ zs.getD k 0 < 64 := by have := inR_out e1; omega
        rcases k with _ | m
        · have HN' : Hid (namesTo zs 1 = true) := names_yes HN.out (by rw [e1]; rfl)
          rw [Nat.add_zero] at hc
          generalize zs.getD 0 0 = x at hc e1 HT hx64
          go_wp2_with (first | (go_at_call 60; refine (impl_name _ _).mono ?_; rw [e1]; rintro e w' ⟨rfl, hw⟩; rw [hw]; clear hw w') | (go_at_call 61; refine (impl_add W.heap.size _ _ 1 1 [x] _ rfl (by omega) (ints_new1 wr x _ rfl) (one_bd hx64) (HS.out.kept ((Below.refl _ _).alloc (Nat.le_refl _) _))).mono ?_; rintro e w2 ⟨rfl, hS2, hG2⟩))
          have HS2 : Hid (SetIs w2 W.heap.size (addS (fun _ => false) (zs.take 1))) := by show SetIs _ _ _; rw [HT.out]; exact hS2.same (adds_more _ _ _)
          have HB2 : Hid (Below W.heap.size W w2) := (HB.out.alloc hbs _).grown hG2 (by simp; omega) (fun j hj => by simp at hj; omega)
          clear hS2 hG2
          go_wp2
          go_roundw
          case rel => exact ⟨1, by omega, by go_num, HN', HS2, HB2⟩
          case measure => simp [intOf]; omega
        · obtain ⟨b', off', ha', hc'⟩ := h.out.at HB.out (k := m) (by have := hz.out; omega)
          simp only [Option.some.injEq, Addr.mk.injEq] at ha'
          obtain ⟨rfl, rfl, _⟩ := ha'
          have hm1 : decide ((0 : Int) < ((m + 1 : Nat) : Int)) = true := decide_eq_true (by omega)
          cases e2 : decide (zs.getD m 0 < zs.getD (m + 1) 0)
          · have HE : Hid (NeededAns zs W (.returned (.tuple #[.map none, .bool false])) wr) := ⟨Or.inr ⟨names_no hz.out hlt (by rw [e1]; simp only [Nat.add_sub_cancel]; rw [e2]; rfl), rfl⟩, HB.out⟩
            have hge : zs.getD (m + 1) 0 ≤ zs.getD m 0 := by have := of_decide_eq_false e2; omega
            generalize zs.getD (m + 1) 0 = x at hc e1 hge e2
            generalize zs.getD m 0 = y at hc' hge e2
            go_wp2_with (go_at_call 60; refine (impl_name _ _).mono ?_; rw [e1]; rintro e w' ⟨rfl, hw⟩; rw [hw]; clear hw w')
            go_ret2
            exact HE.out
          · have HN' : Hid (namesTo zs (m + 1 + 1) = true) := names_yes HN.out (by rw [e1]; simp only [Nat.add_sub_cancel]; rw [e2]; simp)
            have hge : zs.getD m 0 < zs.getD (m + 1) 0 := of_decide_eq_true e2
            generalize zs.getD (m + 1) 0 = x at hc e1 hge e2 HT hx64
            generalize zs.getD m 0 = y at hc' hge e2
            go_wp2_with (first | (go_at_call 60; refine (impl_name _ _).mono ?_; rw [e1]; rintro e w' ⟨rfl, hw⟩; rw [hw]; clear hw w') | (go_at_call 61; refine (impl_add W.heap.size _ _ 1 1 [x] _ rfl (by omega) (ints_new1 wr x _ rfl) (one_bd hx64) (HS.out.kept ((Below.refl _ _).alloc (Nat.le_refl _) _))).mono ?_; rintro e w2 ⟨rfl, hS2, hG2⟩))
            have HS2 : Hid (SetIs w2 W.heap.size (addS (fun _ => false) (zs.take (m + 1 + 1)))) := by show SetIs _ _ _; rw [HT.out]; exact hS2.same (adds_more _ _ _)
            have HB2 : Hid (Below W.heap.size W w2) := (HB.out.alloc hbs _).grown hG2 (by simp; omega) (fun j hj => by simp at hj; omega)
            clear hS2 hG2
            go_wp2
            go_roundw
            case rel => exact ⟨m + 1 + 1, by omega, by go_num, HN', HS2, HB2⟩
            case measure => simp [intOf]; omega
    · have HE : Hid (NeededAns zs W (.returned (.tuple #[.map (some W.heap.size), .bool true])) wr) := ⟨Or.inl ⟨by
          have := HN.out
          unfold namesB
          rw [hz.out, ← show k = len by omega]
          exact this, W.heap.size, rfl, by
          have := HS.out
          rw [List.take_of_length_le (by have := hz.out; omega)] at this
          exact this.same (adds_mem zs), Nat.le_refl _⟩, HB.out⟩
      go_wp2
      go_ret2
      exact HE.out
end Go.Proofs.Ytciafoiabldhmaa.walks
