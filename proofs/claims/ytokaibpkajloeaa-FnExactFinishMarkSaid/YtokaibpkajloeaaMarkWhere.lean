/-
  What the program's cellsWhere answers: by the color (GreyIn's function), by those met (LiveIn's).
-/
import Derived.Test.YtokaibpkajloeaaProg
import Derived.Test.YtokaibpkajloeaaInts
import Derived.Test.YtokaibpkajloeaaOwnInts
import Derived.Test.YtokaibpkajloeaaDeep
import Derived.Test.YtokaibpkajloeaaDeepRow
import Derived.Test.YtokaibpkajloeaaMarkMath
import Derived.Test.YtokaibpkajloeaaMarkRun
import Derived.WalkKit
import Derived.WalkSpells
import Derived.Below
import Derived.Handy
import Derived.OwnWalk
import Derived.Deep.OwnRows
import Derived.Deep.DeepCutAuto
namespace Go.Proofs.Ytokaibpkajloeaa.walks
open Go.RowKit Go.Proofs.Ytokaibpkajloeaa.math Go.Proofs.Ytokaibpkajloeaa.ints Go.Proofs.Ytokaibpkajloeaa.deep
set_option linter.unusedVariables false
set_option linter.unusedSimpArgs false
set_option maxRecDepth 100000

/-- The numbers below n of which p is true. -/
def whereL (p : Nat → Bool) : Nat → List Int
  | 0 => []
  | k + 1 => if p k = true then whereL p k ++ [(k : Int)] else whereL p k
theorem whereL_len (p : Nat → Bool) : ∀ n, (whereL p n).length ≤ n
  | 0 => Nat.le_refl _
  | n + 1 => by
    have q := whereL_len p n
    unfold whereL
    split
    · simp; exact q
    · omega
def WhereTo (W : World) (zs : List Int) (e : Ending) (W' : World) : Prop := ∃ v, e = .returned v ∧ Own W' W.heap.size v zs ∧ Below W.heap.size W W'
theorem impl_wheregrey_at (gb n : Nat) (B rq cq oq d1 d2 : Nat) (s : Mst) (k : Nat) (W : World) (hn : n ≤ 10) (hk : k < n) (h : Hid (RunM W B rq cq oq n d1 d2 s)) (hbx : W.cell? ⟨gb, 0, none⟩ = some (.pointer (some ⟨rq, 0, none⟩))) :
    Calls Try.prog 51 #[.int .i64 (k : Int), .pointer (some ⟨gb, 0, none⟩)] W fun e W' => e = .returned (.bool ((fun k => decide (s.co k = 1)) k)) ∧ W' = W := by
  have k0 : (0 : Int) ≤ (k : Int) := by omega
  have k1 : (k : Int) < (n : Int) := by omega
  have c0 := h.out.color hk
  have r1 : W.cell? ⟨rq, 1, none⟩ = some (.slice (some ⟨oq, 0, none⟩) n d2) := h.out.row.cell (i := 1) (by decide)
  have rl := h.out.row.lt
  show Calls _ _ _ _ fun e W' => e = .returned (.bool (decide (s.co k = 1))) ∧ W' = W
  generalize s.co k = y at c0 ⊢
  go_enter Try.func51, Try.ntmps51
  go_wp2
  go_ret
  exact ⟨by first | rfl | simp, rfl⟩
theorem impl_wheregrey (gb n : Nat) (B rq cq oq d1 d2 : Nat) (s : Mst) (B0 rp cp op c1 c2 : Nat) (s0 : Mst) (W : World) (hn : n ≤ 10) (hr : Hid (RunM W B0 rp cp op n c1 c2 s0)) (h : Hid (RunM W B rq cq oq n d1 d2 s)) (hbx : W.cell? ⟨gb, 0, none⟩ = some (.pointer (some ⟨rq, 0, none⟩))) :
    Calls Try.prog 48 #[.pointer (some ⟨rp, 0, none⟩), .func (.func 51) #[] #[.pointer (some ⟨gb, 0, none⟩)]] W fun e W' => WhereTo W (whereL (fun k => decide (s.co k = 1)) n) e W' := by
  obtain ⟨i0, hi, hz0, hz1, hz2⟩ := parts_of (P := Try.prog) (e := 3) (z := .int .i64 0) (a := 1) (b := 8) (by kernel_rfl)
  have r0 : W.cell? ⟨rp, 0, none⟩ = some (.slice (some ⟨cp, 0, none⟩) n c1) := hr.out.row.cell (i := 0) (by decide)
  have rl := hr.out.row.lt
  have HCL : Hid (∀ k w, k < n → Below W.heap.size W w → Calls Try.prog 51 #[.int .i64 (k : Int), .pointer (some ⟨gb, 0, none⟩)] w fun e W' => e = .returned (.bool ((fun k => decide (s.co k = 1)) k)) ∧ W' = w) := fun k w hk hb => impl_wheregrey_at gb n B rq cq oq d1 d2 s k w hn hk (h.out.kept hb) ((hb.cell (p := ⟨gb, 0, none⟩) (World.block_lt_of_cell? W _ hbx)).trans hbx)
  obtain ⟨p, HP⟩ : ∃ p : Nat → Bool, Hid ((fun k => decide (s.co k = 1)) = p) := ⟨_, rfl⟩
  rw [HP.out]
  have HCL2 : Hid (∀ k w, k < n → Below W.heap.size W w → Calls Try.prog 51 #[.int .i64 (k : Int), .pointer (some ⟨gb, 0, none⟩)] w fun e W' => e = .returned (.bool (p k)) ∧ W' = w) := fun k w hk hb => by have q := HCL.out k w hk hb; rw [← HP.out]; exact q
  clear HCL HP
  go_enter Try.func48, Try.ntmps48
  go_wp2
  clear r0 rl
  go_loopw [5, 12] (fun vl vi wr => ∃ (k : Nat) (v : Value), k ≤ n ∧ vi = .int .i64 k ∧ v = vl ∧ Hid (Own wr W.heap.size v (whereL p k)) ∧ Hid (Below W.heap.size W wr)) (fun _ vi _ => n - (intOf vi).toNat)
  case atStart => exact ⟨0, _, Nat.zero_le _, rfl, rfl, own_nil _ _, Below.refl _ _⟩
  case round =>
    obtain ⟨k, v, hk, rfl, rfl, HO, HB⟩ := hrel
    by_cases hlt : k < n
    rotate_left
    · have HA : Hid (WhereTo W (whereL p n) (.returned v) wr) := by
        have q := HO.out
        rw [show k = n by omega] at q
        exact ⟨v, rfl, q, HB.out⟩
      go_wp2
      go_ret
      exact HA.out
    have hltI : (k : Int) < (n : Int) := by omega
    have hcl := HCL2.out k wr hlt HB.out
    have hwr := HB.out.size
    cases hp : p k
    · have HO2 : Hid (Own wr W.heap.size v (whereL p (k + 1))) := by
        show Own _ _ _ _
        rw [show whereL p (k + 1) = whereL p k by show (if p k = true then _ else _) = _; rw [if_neg (by rw [hp]; simp)]]
        exact HO.out
      rw [hp] at hcl
      clear hp
      go_wp2_with fail
      refine hcl.mono ?_
      rintro e w' ⟨rfl, hw⟩
      rw [hw]
      clear hw w' hcl
      go_wp2
      go_roundw
      case rel => exact ⟨k + 1, _, by omega, by go_num, rfl, HO2, HB⟩
      case measure => simp [intOf]; omega
    · have HZ : Hid (whereL p (k + 1) = whereL p k ++ [(k : Int)]) := by show (if p k = true then _ else _) = _; rw [if_pos hp]
      have HL : Hid ((whereL p k).length ≤ 10) := Nat.le_trans (whereL_len p k) (by omega)
      rw [hp] at hcl
      clear hp
      obtain ⟨zs, HZS⟩ : ∃ zs, Hid (whereL p k = zs) := ⟨_, rfl⟩
      rw [HZS.out] at HO HZ HL
      have hl10 := HL.out
      go_wp2_with fail
      refine hcl.mono ?_
      rintro e w' ⟨rfl, hw⟩
      rw [hw]
      clear hw w' hcl
      go_wp2_with (first
        | (at_builtin; refine wpList_append_own _ rfl _ _ 23 rfl W.heap.size 3 i0 (.int .i64 0) 1 8 Try.underlying23 hi hz0 hz1 hz2 rfl (by decide) _ zs.length (zs.map (Value.int .i64)) rfl (World.ownsRow.alloc HO.out _) ⟨wr.heap.size, 0, none⟩ 1 1 [.int .i64 (k : Int)] rfl rfl (new_one wr (k : Int) _) (one_of (k : Int)) (by unfold maxLen; omega) (by omega) (by simp; omega) ?_))
      intro v5 w5 hown hgrow _
      obtain ⟨p1, p2, p3⟩ := Own.snoc HO.out hwr HB.out hown hgrow
      have O5 : Hid (Own w5 W.heap.size v5 (whereL p (k + 1))) := by show Own _ _ _ _; rw [HZ.out]; exact p1
      have B5 : Hid (Below W.heap.size W w5) := p2
      clear p1 p2 p3 hown hgrow
      go_wp2
      go_roundw
      case rel => exact ⟨k + 1, _, by omega, by go_num, rfl, O5, B5⟩
      case measure => simp [intOf]; omega
theorem impl_wherelive_at (gb n mt c : Nat) (m : Nat → Bool) (k : Nat) (W : World) (hn : n ≤ 10) (hk : k < n) (h : Hid (CellsAt W mt n (fun i => .bool (m i)))) (hbx : W.cell? ⟨gb, 0, none⟩ = some (.slice (some ⟨mt, 0, none⟩) n c)) :
    Calls Try.prog 49 #[.int .i64 (k : Int), .pointer (some ⟨gb, 0, none⟩)] W fun e W' => e = .returned (.bool ((m) k)) ∧ W' = W := by
  have k0 : (0 : Int) ≤ (k : Int) := by omega
  have k1 : (k : Int) < (n : Int) := by omega
  have c0 : W.cell? ⟨mt, k, none⟩ = some (.bool (m k)) := (h.out.2 k hk).1
  have ml := h.out.1
  generalize m k = y at c0 ⊢
  go_enter Try.func49, Try.ntmps49
  go_wp2
  go_ret
  exact ⟨by first | rfl | simp, rfl⟩
theorem impl_wherelive (gb n mt c : Nat) (m : Nat → Bool) (B0 rp cp op c1 c2 : Nat) (s0 : Mst) (W : World) (hn : n ≤ 10) (hr : Hid (RunM W B0 rp cp op n c1 c2 s0)) (h : Hid (CellsAt W mt n (fun i => .bool (m i)))) (hbx : W.cell? ⟨gb, 0, none⟩ = some (.slice (some ⟨mt, 0, none⟩) n c)) :
    Calls Try.prog 48 #[.pointer (some ⟨rp, 0, none⟩), .func (.func 49) #[] #[.pointer (some ⟨gb, 0, none⟩)]] W fun e W' => WhereTo W (whereL (m) n) e W' := by
  obtain ⟨i0, hi, hz0, hz1, hz2⟩ := parts_of (P := Try.prog) (e := 3) (z := .int .i64 0) (a := 1) (b := 8) (by kernel_rfl)
  have r0 : W.cell? ⟨rp, 0, none⟩ = some (.slice (some ⟨cp, 0, none⟩) n c1) := hr.out.row.cell (i := 0) (by decide)
  have rl := hr.out.row.lt
  have HCL : Hid (∀ k w, k < n → Below W.heap.size W w → Calls Try.prog 49 #[.int .i64 (k : Int), .pointer (some ⟨gb, 0, none⟩)] w fun e W' => e = .returned (.bool ((m) k)) ∧ W' = w) := fun k w hk hb => impl_wherelive_at gb n mt c m k w hn hk (h.out.kept hb) ((hb.cell (p := ⟨gb, 0, none⟩) (World.block_lt_of_cell? W _ hbx)).trans hbx)
  obtain ⟨p, HP⟩ : ∃ p : Nat → Bool, Hid ((m) = p) := ⟨_, rfl⟩
  rw [HP.out]
  have HCL2 : Hid (∀ k w, k < n → Below W.heap.size W w → Calls Try.prog 49 #[.int .i64 (k : Int), .pointer (some ⟨gb, 0, none⟩)] w fun e W' => e = .returned (.bool (p k)) ∧ W' = w) := fun k w hk hb => by have q := HCL.out k w hk hb; rw [← HP.out]; exact q
  clear HCL HP
  go_enter Try.func48, Try.ntmps48
  go_wp2
  clear r0 rl
  go_loopw [5, 12] (fun vl vi wr => ∃ (k : Nat) (v : Value), k ≤ n ∧ vi = .int .i64 k ∧ v = vl ∧ Hid (Own wr W.heap.size v (whereL p k)) ∧ Hid (Below W.heap.size W wr)) (fun _ vi _ => n - (intOf vi).toNat)
  case atStart => exact ⟨0, _, Nat.zero_le _, rfl, rfl, own_nil _ _, Below.refl _ _⟩
  case round =>
    obtain ⟨k, v, hk, rfl, rfl, HO, HB⟩ := hrel
    by_cases hlt : k < n
    rotate_left
    · have HA : Hid (WhereTo W (whereL p n) (.returned v) wr) := by
        have q := HO.out
        rw [show k = n by omega] at q
        exact ⟨v, rfl, q, HB.out⟩
      go_wp2
      go_ret
      exact HA.out
    have hltI : (k : Int) < (n : Int) := by omega
    have hcl := HCL2.out k wr hlt HB.out
    have hwr := HB.out.size
    cases hp : p k
    · have HO2 : Hid (Own wr W.heap.size v (whereL p (k + 1))) := by
        show Own _ _ _ _
        rw [show whereL p (k + 1) = whereL p k by show (if p k = true then _ else _) = _; rw [if_neg (by rw [hp]; simp)]]
        exact HO.out
      rw [hp] at hcl
      clear hp
      go_wp2_with fail
      refine hcl.mono ?_
      rintro e w' ⟨rfl, hw⟩
      rw [hw]
      clear hw w' hcl
      go_wp2
      go_roundw
      case rel => exact ⟨k + 1, _, by omega, by go_num, rfl, HO2, HB⟩
      case measure => simp [intOf]; omega
    · have HZ : Hid (whereL p (k + 1) = whereL p k ++ [(k : Int)]) := by show (if p k = true then _ else _) = _; rw [if_pos hp]
      have HL : Hid ((whereL p k).length ≤ 10) := Nat.le_trans (whereL_len p k) (by omega)
      rw [hp] at hcl
      clear hp
      obtain ⟨zs, HZS⟩ : ∃ zs, Hid (whereL p k = zs) := ⟨_, rfl⟩
      rw [HZS.out] at HO HZ HL
      have hl10 := HL.out
      go_wp2_with fail
      refine hcl.mono ?_
      rintro e w' ⟨rfl, hw⟩
      rw [hw]
      clear hw w' hcl
      go_wp2_with (first
        | (at_builtin; refine wpList_append_own _ rfl _ _ 23 rfl W.heap.size 3 i0 (.int .i64 0) 1 8 Try.underlying23 hi hz0 hz1 hz2 rfl (by decide) _ zs.length (zs.map (Value.int .i64)) rfl (World.ownsRow.alloc HO.out _) ⟨wr.heap.size, 0, none⟩ 1 1 [.int .i64 (k : Int)] rfl rfl (new_one wr (k : Int) _) (one_of (k : Int)) (by unfold maxLen; omega) (by omega) (by simp; omega) ?_))
      intro v5 w5 hown hgrow _
      obtain ⟨p1, p2, p3⟩ := Own.snoc HO.out hwr HB.out hown hgrow
      have O5 : Hid (Own w5 W.heap.size v5 (whereL p (k + 1))) := by show Own _ _ _ _; rw [HZ.out]; exact p1
      have B5 : Hid (Below W.heap.size W w5) := p2
      clear p1 p2 p3 hown hgrow
      go_wp2
      go_roundw
      case rel => exact ⟨k + 1, _, by omega, by go_num, rfl, O5, B5⟩
      case measure => simp [intOf]; omega
end Go.Proofs.Ytokaibpkajloeaa.walks
