/-
  What the specification's l8Free answers, at every list; it makes new memory alone.
-/
import Derived.Test.YthjcgnldlhjjmabProg
import Derived.Test.YthjcgnldlhjjmabLeftMath
import Derived.Test.YthjcgnldlhjjmabInts
import Derived.Test.YthjcgnldlhjjmabRecsMove
import Derived.Test.YthjcgnldlhjjmabGoodSpec
import Derived.WalkKit
import Derived.WalkSpells
import Derived.Below
import Derived.Handy
namespace Go.Proofs.Ythjcgnldlhjjmab.walks
open Go.RowKit Go.Proofs.Ythjcgnldlhjjmab.math Go.Proofs.Ythjcgnldlhjjmab.ints
set_option linter.unusedVariables false
set_option maxRecDepth 100000

/-- The first of m moves that is free, -1 for none. -/
def FreeR (y : List Int) (m : Nat) (r : Int) : Prop := (∃ i : Nat, i < m ∧ r = (i : Int) ∧ FreeY y m i ∧ ∀ j, j < i → ¬ FreeY y m j) ∨ (r = -1 ∧ ∀ i, i < m → ¬ FreeY y m i)
def FreeSAns (y : List Int) (m : Nat) (W : World) (e : Ending) (W' : World) : Prop := ∃ r, e = .returned (.int .i64 r) ∧ FreeR y m r ∧ Below W.heap.size W W'
set_option maxHeartbeats 4000000 in
theorem spec_free (a : Option Addr) (len cap : Nat) (zs : List Int) (W : World) (hz : Hid (zs.length = len * 2)) (hlen : len ≤ 1048576) (h : Hid (Ints W a zs)) :
    Calls Try.prog 15 #[.slice a len cap] W fun e W' => FreeSAns zs len W e W' := by
  go_enter Try.func15, Try.ntmps15
  go_wp2
  go_loopw [10] (fun vi wr => ∃ k : Nat, k ≤ len ∧ vi = .int .i64 k ∧ Hid (∀ j, j < k → ¬ FreeY zs len j) ∧ Hid (Below W.heap.size W wr)) (fun vi _ => len - (intOf vi).toNat)
  case atStart => exact ⟨0, Nat.zero_le _, rfl, fun j hj => by omega, Below.refl _ _⟩
  case round =>
    obtain ⟨k, hk, rfl, HG, HB⟩ := hrel
    obtain ⟨wo, hwo⟩ : ∃ wo, wo = wr := ⟨_, rfl⟩
    subst hwo
    by_cases hlt : k < len
    · obtain ⟨b, off, x, y, ha, hb, c0, c1, HX, HY⟩ := move_at h.out hz.out HB.out hlt
      have hbw : b < wo.heap.size := by have := HB.out.size; omega
      have HB1 : Hid (Below W.heap.size W (wo.alloc (.cells #[.int .i64 x, .int .i64 y] 33))) := HB.out.alloc HB.out.size _
      subst ha
      go_wp2
      go_loopw [5, 17] (fun vb vj w2 => ∃ (j : Nat) (o : Bool), j ≤ len ∧ vj = .int .i64 j ∧ vb = .bool o ∧ Hid (o = true ↔ ∀ i, i < j → frM zs i ≠ toM zs k) ∧ Hid (Below W.heap.size W w2) ∧ Hid (w2.cell? ⟨wo.heap.size, 1, none⟩ = some (.int .i64 y)) ∧ wo.heap.size < w2.heap.size) (fun _ vj _ => len - (intOf vj).toNat)
      case atStart => exact ⟨0, true, Nat.zero_le _, rfl, rfl, ⟨fun _ i hi => by omega, fun _ => rfl⟩, HB1, by show World.cell? _ _ = _; simp, by simp⟩
      case round =>
        obtain ⟨j, o, hj, rfl, rfl, HN, HB2, HC, hsz⟩ := hrel
        by_cases hjl : j < len
        · obtain ⟨b', off', u, v, ha, hb', c2, c3, HU, HV⟩ := move_at h.out hz.out HB2.out hjl
          obtain ⟨rfl, rfl⟩ : b = b' ∧ off = off' := by simpa using ha
          have hbwr : b < wr.heap.size := by omega
          have HB3 : Hid (Below W.heap.size W (wr.alloc (.cells #[.int .i64 u, .int .i64 v] 33))) := HB2.out.alloc HB2.out.size _
          have c4 := HC.out
          have HC3 : Hid ((wr.alloc (.cells #[.int .i64 u, .int .i64 v] 33)).cell? ⟨wo.heap.size, 1, none⟩ = some (.int .i64 y)) := by
            show World.cell? _ _ = _
            rw [World.cell?_alloc_past _ _ _ hsz]; exact HC.out
          cases o
          · have HN' : Hid (false = true ↔ ∀ i, i < j + 1 → frM zs i ≠ toM zs k) := ⟨fun q => (by cases q), fun q => HN.out.2 (fun i hi => q i (by omega))⟩
            go_wp2
            go_roundw
            case rel => exact ⟨j + 1, false, by omega, by go_num, rfl, HN', HB3, HC3, by simp; omega⟩
            case measure => simp [intOf]; omega
          · by_cases e : u = y
            · have HN' : Hid (false = true ↔ ∀ i, i < j + 1 → frM zs i ≠ toM zs k) := ⟨fun q => (by cases q), fun q => absurd (by rw [HU.out, HY.out]; exact e) (q j (by omega))⟩
              subst e
              go_wp2
              go_roundw
              case rel => exact ⟨j + 1, false, by omega, by go_num, by simp, HN', HB3, HC3, by simp; omega⟩
              case measure => simp [intOf]; omega
            · have HN' : Hid (true = true ↔ ∀ i, i < j + 1 → frM zs i ≠ toM zs k) := ⟨fun _ i hi => by
                by_cases q : i = j
                · rw [q, HU.out, HY.out]; exact e
                · exact HN.out.1 rfl i (by omega), fun _ => rfl⟩
              have e1 : (u == y) = false := by simpa using e
              have e2 : decide (u = y) = false := decide_eq_false e
              have e3 : (u != y) = true := by simpa using e
              go_wp2
              go_roundw
              case rel => exact ⟨j + 1, true, by omega, by go_num, by first | rfl | simp [e3], HN', HB3, HC3, by simp; omega⟩
              case measure => simp [intOf]; omega
        · have hjl' : j = len := by omega
          subst hjl'
          cases o
          · have HG' : Hid (∀ i, i < k + 1 → ¬ FreeY zs j i) := by
              show ∀ i, i < k + 1 → _
              intro i hi
              by_cases q : i = k
              · rw [q]; exact fun r => by have := HN.out.2 r; cases this
              · exact HG.out i (by omega)
            go_wp2
            go_roundw
            case rel => exact ⟨k + 1, by omega, by go_num, HG', HB2⟩
            case measure => simp [intOf]; omega
          · have HA : Hid (FreeSAns zs j W (.returned (.int .i64 (k : Int))) wr) := ⟨_, rfl, Or.inl ⟨k, hlt, rfl, HN.out.1 rfl, HG.out⟩, HB2.out⟩
            go_wp2
            go_ret
            exact HA.out
    · have HA : Hid (FreeSAns zs len W (.returned (.int .i64 (-1))) wo) := ⟨_, rfl, Or.inr ⟨rfl, fun i hi => HG.out i (by omega)⟩, HB.out⟩
      go_wp2
      go_ret
      exact HA.out
end Go.Proofs.Ythjcgnldlhjjmab.walks
