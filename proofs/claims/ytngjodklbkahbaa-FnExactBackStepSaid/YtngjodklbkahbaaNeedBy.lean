/-
  Names that are handed in, rising, as a set: what the program's neededBy answers.
-/
import Derived.Test.YtngjodklbkahbaaProg
import Derived.Test.YtngjodklbkahbaaBackSpecX
import Derived.Test.YtngjodklbkahbaaBackOps
import Derived.WalkKit
import Derived.WalkSpells
import Derived.Below
import Derived.Handy
namespace Go.Proofs.Ytngjodklbkahbaa.walks
open Go.RowKit Go.Proofs.Ytngjodklbkahbaa.math Go.Proofs.Ytngjodklbkahbaa.ints
set_option linter.unusedVariables false
set_option maxRecDepth 100000

def NeededAns (ls : List Int) (W : World) (e : Ending) (W' : World) : Prop :=
  ((namesB ls = true ∧ ∃ mb, e = .returned (.tuple #[.map (some mb), .bool true]) ∧ SetIs W' mb (memS ls) ∧ W.heap.size ≤ mb) ∨ (namesB ls = false ∧ e = .returned (.tuple #[.map none, .bool false]))) ∧ Below W.heap.size W W'
theorem adds_more (f : Nat → Bool) (us vs : List Int) : ∀ i, i < 64 → addS (addS f us) vs i = addS f (us ++ vs) i := fun i _ => by
  unfold addS
  simp only [List.contains_append, Bool.or_assoc]
theorem adds_mem (ls : List Int) : ∀ i, i < 64 → addS (fun _ => false) ls i = memS ls i := fun i _ => by simp [addS, memS]
theorem one_bd {x : Int} (h : 0 ≤ x ∧ x < 64) : ∀ j, j < 1 → 0 ≤ [x].getD j 0 ∧ [x].getD j 0 < 64 := fun j hj => by
  have : j = 0 := by omega
  subst this
  simpa using h
/-- What is the least that may come next. -/
def nextN (zs : List Int) (k : Nat) : Int := if k = 0 then 0 else zs.getD (k - 1) 0 + 1
theorem nextN_succ (zs : List Int) (k : Nat) : nextN zs (k + 1) = zs.getD k 0 + 1 := by simp [nextN]
theorem nextN_cond (zs : List Int) (k : Nat) (h0 : 0 ≤ nextN zs k) : (inR (zs.getD k 0) 0 7 && (k == 0 || decide (zs.getD (k - 1) 0 < zs.getD k 0))) = decide (nextN zs k ≤ zs.getD k 0 ∧ zs.getD k 0 < 8) := by
  unfold nextN at *
  unfold inR
  by_cases e : k = 0
  · subst e
    simp only [if_true] at h0 ⊢
    by_cases q : 0 ≤ zs.getD 0 0 ∧ zs.getD 0 0 < 8
    · rw [decide_eq_true q, decide_eq_true (by omega)]; rfl
    · rw [decide_eq_false q, decide_eq_false (by omega)]; rfl
  · rw [if_neg e] at h0 ⊢
    have hk : (k == 0) = false := by simpa using e
    rw [hk, Bool.false_or]
    by_cases q : zs.getD (k - 1) 0 + 1 ≤ zs.getD k 0 ∧ zs.getD k 0 < 8
    · rw [decide_eq_true q, decide_eq_true (by omega), decide_eq_true (by omega)]; rfl
    · rw [decide_eq_false q]
      by_cases q2 : zs.getD (k - 1) 0 < zs.getD k 0
      · rw [decide_eq_true q2, decide_eq_false (by omega)]; rfl
      · rw [decide_eq_false q2]; simp
set_option maxHeartbeats 1000000 in
theorem impl_risen (a : Option Addr) (len cap : Nat) (zs : List Int) (W : World) (hz : Hid (zs.length = len)) (hlen : len ≤ 1048576) (h : Hid (Ints W a zs)) :
    Calls Try.prog 28 #[.slice a len cap, .int .i64 8] W fun r W' => r = .returned (.bool (namesB zs)) ∧ W' = W := by
  go_enter Try.func28, Try.ntmps28
  go_wp2
  go_loop [5, 10] (fun vl vi => ∃ k : Nat, k ≤ len ∧ vi = .int .i64 (k : Int) ∧ vl = .int .i64 (nextN zs k) ∧ Hid (namesTo zs k = true) ∧ 0 ≤ nextN zs k) (fun _ vi => len - (intOf vi).toNat)
  case atStart => exact ⟨0, Nat.zero_le _, rfl, rfl, rfl, Int.le_refl _⟩
  case round =>
    obtain ⟨k, hk, rfl, rfl, HN, n0⟩ := hrel
    by_cases hlt : k < len
    rotate_left
    · have HT : Hid (namesB zs = true) := by show _ = _; unfold namesB; rw [hz.out, show len = k by omega]; exact HN.out
      clear n0
      go_wp2
      go_ret
      exact ⟨by rw [HT.out]; rfl, rfl⟩
    have hltI : (k : Int) < (len : Int) := by omega
    obtain ⟨b, off, ha, hc⟩ := h.out.at (Below.refl _ _) (k := k) (by rw [hz.out]; exact hlt)
    subst ha
    have HCD : Hid (∀ c, decide (nextN zs k ≤ zs.getD k 0 ∧ zs.getD k 0 < 8) = c → (inR (zs.getD k 0) 0 7 && (k == 0 || decide (zs.getD (k - 1) 0 < zs.getD k 0))) = c) := fun c e => by rw [nextN_cond zs k n0]; exact e
    have HNO : Hid (decide (nextN zs k ≤ zs.getD k 0 ∧ zs.getD k 0 < 8) = false → namesB zs = false) := fun e => names_no hz.out hlt (HCD.out _ e)
    have HYES : Hid (decide (nextN zs k ≤ zs.getD k 0 ∧ zs.getD k 0 < 8) = true → namesTo zs (k + 1) = true) := fun e => names_yes HN.out (HCD.out _ e)
    have HNL : Hid (nextN zs (k + 1) = zs.getD k 0 + 1) := nextN_succ _ _
    obtain ⟨z, hzz⟩ : ∃ z, Hid (zs.getD k 0 = z) := ⟨_, rfl⟩
    obtain ⟨l, hll⟩ : ∃ l, Hid (nextN zs k = l) := ⟨_, rfl⟩
    rw [hzz.out] at hc HNO HYES HNL
    rw [hll.out] at HNO HYES n0 ⊢
    clear HCD
    by_cases q0 : z < l
    · have HT : Hid (namesB zs = false) := HNO.out (decide_eq_false (by omega))
      have d0 : decide (z < l) = true := decide_eq_true q0
      go_wp2
      go_ret
      exact ⟨by rw [HT.out]; rfl, rfl⟩
    have q0' : l ≤ z := by omega
    have d0 : decide (z < l) = false := decide_eq_false q0
    clear q0
    by_cases q1 : 8 ≤ z
    · have HT : Hid (namesB zs = false) := HNO.out (decide_eq_false (by omega))
      have d1 : decide (z ≥ 8) = true := decide_eq_true q1
      go_wp2
      go_ret
      exact ⟨by rw [HT.out]; rfl, rfl⟩
    have q1' : z < 8 := by omega
    have d1 : decide (z ≥ 8) = false := decide_eq_false q1
    clear q1
    have HN2 := HYES.out (decide_eq_true ⟨q0', q1'⟩)
    have HN3 : Hid (namesTo zs (k + 1) = true) := HN2
    clear HN2
    go_wp2
    go_round
    case rel => exact ⟨k + 1, by omega, by go_num, by rw [HNL.out], HN3, by rw [HNL.out]; omega⟩
    case measure => simp [intOf]; omega
set_option maxHeartbeats 2000000 in
theorem impl_needed (a : Option Addr) (len cap : Nat) (zs : List Int) (W : World) (hz : Hid (zs.length = len)) (hlen : len ≤ 1048576) (h : Hid (Ints W a zs)) :
    Calls Try.prog 19 #[.slice a len cap] W fun e W' => NeededAns zs W e W' := by
  have hmm := @run_makeMap Try.prog
  cases hnb : namesB zs
  · go_enter Try.func19, Try.ntmps19
    go_wp2_with fail
    refine (impl_risen _ _ _ zs _ hz hlen h).mono ?_
    rw [hnb]
    rintro e w1 ⟨rfl, hw⟩
    rw [hw]
    clear hw w1
    have HE : Hid (NeededAns zs W (.returned (.tuple #[.map none, .bool false])) W) := ⟨Or.inr ⟨hnb, rfl⟩, Below.refl _ _⟩
    go_wp2
    go_ret2
    exact HE.out
  have HBDS : Hid (∀ j, j < len → 0 ≤ zs.getD j 0 ∧ zs.getD j 0 < 64) := fun j hj => by
    have := (names_one (m := zs.length) hnb j (by rw [hz.out]; exact hj)).1
    omega
  go_enter Try.func19, Try.ntmps19
  go_wp2_with fail
  refine (impl_risen _ _ _ zs _ hz hlen h).mono ?_
  rw [hnb]
  rintro e w1 ⟨rfl, hw⟩
  rw [hw]
  clear hw w1
  go_wp2_with fail
  refine (impl_add W.heap.size _ _ _ _ zs _ hz hlen (h.out.kept ((Below.refl _ _).alloc (Nat.le_refl _) _)) HBDS (set_made W)).mono ?_
  rintro e w2 ⟨rfl, hS2, hG2⟩
  have HE : Hid (NeededAns zs W (.returned (.tuple #[.map (some W.heap.size), .bool true])) w2) := ⟨Or.inl ⟨hnb, W.heap.size, rfl, hS2.same (adds_mem zs), Nat.le_refl _⟩, ((Below.refl _ _).alloc (Nat.le_refl _) _).grown hG2 (by simp) (fun j hj => by simp at hj; omega)⟩
  clear hS2 hG2 hmm
  go_wp2
  go_ret2
  exact HE.out
end Go.Proofs.Ytngjodklbkahbaa.walks
