/-
  What the specification's l1Has answers: whether a number is among those of a list.
-/
import Derived.Test.YtokaibpkajloeaaProg
import Derived.Test.YtokaibpkajloeaaInts
import Derived.WalkKit
import Derived.WalkSpells
import Derived.Below
import Derived.Handy
import Derived.Deep.QuietTactic
import Derived.BigQuiet
import Derived.Deep.OwnRows
namespace Go.Proofs.Ytokaibpkajloeaa.walks
open Go.RowKit Go.Proofs.Ytokaibpkajloeaa.ints
set_option linter.unusedVariables false
set_option maxRecDepth 100000

/-- Whether a number is in a list. -/
def inB (zs : List Int) (x : Int) : Bool := decide (x ∈ zs)
theorem in_yes {zs : List Int} {x : Int} (h : x ∈ zs) : inB zs x = true := decide_eq_true h
theorem in_no {zs : List Int} {x : Int} (h : ¬ x ∈ zs) : inB zs x = false := decide_eq_false h
theorem in_out {zs : List Int} {x : Int} (h : inB zs x = true) : x ∈ zs := of_decide_eq_true h
theorem in_not {zs : List Int} {x : Int} (h : inB zs x = false) : ¬ x ∈ zs := of_decide_eq_false h
theorem in_at {zs : List Int} {x : Int} : x ∈ zs ↔ ∃ k, k < zs.length ∧ zs.getD k 0 = x := by
  constructor
  · intro h
    obtain ⟨k, hk, e⟩ := List.getElem_of_mem h
    exact ⟨k, hk, by simp [List.getD, hk, e]⟩
  · rintro ⟨k, hk, rfl⟩
    simp only [List.getD, List.getElem?_eq_getElem hk, Option.getD_some]
    exact List.getElem_mem hk
theorem spec_in (a : Option Addr) (len cap : Nat) (x : Int) (zs : List Int) (W : World) (hz : Hid (zs.length = len)) (hlen : len ≤ 1048576) (h : Hid (Ints W a zs)) :
    Calls Try.prog 69 #[.slice a len cap, .int .i64 x] W fun e W' => e = .returned (.bool (inB zs x)) ∧ W' = W := by
  go_enter Try.func69, Try.ntmps69
  go_wp2
  go_loop [9] (fun vi => ∃ k : Nat, k ≤ len ∧ vi = .int .i64 (k : Int) ∧ Hid (∀ j, j < k → zs.getD j 0 ≠ x)) (fun vi => len - (intOf vi).toNat)
  case atStart => exact ⟨0, Nat.zero_le _, rfl, fun j hj => by omega⟩
  case round =>
    obtain ⟨k, hk, rfl, HF⟩ := hrel
    by_cases hlt : k < len
    rotate_left
    · have HE : Hid (inB zs x = false) := in_no (fun q => by
        obtain ⟨j, hj, e⟩ := in_at.1 q
        exact HF.out j (by have := hz.out; omega) e)
      go_wp2
      go_ret
      exact ⟨by rw [HE.out]; rfl, rfl⟩
    have hltI : (k : Int) < (len : Int) := by omega
    obtain ⟨b, off, ha, hc⟩ := h.out.at (Below.refl _ _) (k := k) (by rw [hz.out]; exact hlt)
    subst ha
    by_cases e : zs.getD k 0 = x
    · have HE : Hid (inB zs x = true) := in_yes (in_at.2 ⟨k, by rw [hz.out]; exact hlt, e⟩)
      rw [e] at hc
      clear e
      go_wp2
      go_ret
      exact ⟨by rw [HE.out]; rfl, rfl⟩
    · have HN : Hid (∀ j, j < k + 1 → zs.getD j 0 ≠ x) := fun j hj => by
        by_cases q : j = k
        · rw [q]; exact e
        · exact HF.out j (by omega)
      obtain ⟨z, hzz⟩ : ∃ z, Hid (zs.getD k 0 = z) := ⟨_, rfl⟩
      rw [hzz.out] at hc e
      have e1 : (z == x) = false := by simpa using e
      have e2 : decide (z = x) = false := decide_eq_false e
      go_wp2
      go_round
      case rel => exact ⟨k + 1, by omega, by go_num, HN⟩
      case measure => simp [intOf]; omega
theorem drewN_below {B : Nat} {W w : World} (h : Below B W w) : ∀ q, Below B W (w.drewN q)
  | 0 => h
  | q + 1 => (drewN_below h q).drew
theorem drewN_row {w : World} {g n : Nat} {T : TypeId} {f : Nat → Value} (h : w.rowIs g T n f) (q : Nat) : (w.drewN q).rowIs g T n f := h.of_block ((drewN_below (Below.refl w.heap.size w) q).block _ h.lt)
theorem range_quiet {n lo hi : Int} {b : Bool} (h : decide (lo ≤ n ∧ n ≤ hi) = b) (W : World) : Calls Try.prog 30 #[.int .i64 n, .int .i64 lo, .int .i64 hi] W fun e W' => e = .returned (.bool b) ∧ W' = W := by
  subst h
  by_cases h0 : lo ≤ n
  rotate_left
  · have k0 : n < lo := by omega
    have d0 : decide (lo ≤ n) = false := decide_eq_false h0
    rw [decide_eq_false (show ¬ (lo ≤ n ∧ n ≤ hi) by omega)]
    clear h0
    go_enter Try.func30, Try.ntmps30
    go_wp2
    go_ret
    exact ⟨rfl, rfl⟩
  by_cases h1 : n ≤ hi
  rotate_left
  · have k1 : hi < n := by omega
    have d1 : decide (n ≤ hi) = false := decide_eq_false (by omega)
    rw [decide_eq_false (show ¬ (lo ≤ n ∧ n ≤ hi) by omega)]
    clear h1
    go_enter Try.func30, Try.ntmps30
    go_wp2
    go_ret
    exact ⟨rfl, rfl⟩
  rw [decide_eq_true (show lo ≤ n ∧ n ≤ hi from ⟨h0, h1⟩)]
  have d1 : decide (n ≤ hi) = true := decide_eq_true (by omega)
  have d0 : decide (lo ≤ n) = true := decide_eq_true h0
  go_enter Try.func30, Try.ntmps30
  go_wp2
  go_ret
  exact ⟨rfl, rfl⟩
end Go.Proofs.Ytokaibpkajloeaa.walks
