/-
  What GreyIn answers, on both sides.
-/
import Derived.Test.YtokaibpkajloeaaProg
import Derived.Test.YtokaibpkajloeaaInts
import Derived.Test.YtokaibpkajloeaaOwnInts
import Derived.Test.YtokaibpkajloeaaDeep
import Derived.Test.YtokaibpkajloeaaDeepRow
import Derived.Test.YtokaibpkajloeaaDeepM
import Derived.Test.YtokaibpkajloeaaMarkMath
import Derived.Test.YtokaibpkajloeaaMarkWell
import Derived.Test.YtokaibpkajloeaaMarkSpec
import Derived.Test.YtokaibpkajloeaaMarkGood
import Derived.Test.YtokaibpkajloeaaMarkRun
import Derived.Test.YtokaibpkajloeaaMarkMake
import Derived.Test.YtokaibpkajloeaaMarkMake2
import Derived.Test.YtokaibpkajloeaaMarkWhere
import Derived.WalkKit
import Derived.WalkSpells
import Derived.Below
import Derived.Handy
import Derived.OwnWalk
import Derived.Deep.OwnRows
import Derived.Deep.DeepFit
import Derived.Deep.DeepCutAuto
namespace Go.Proofs.Ytokaibpkajloeaa.walks
open Go.RowKit Go.Proofs.Ytokaibpkajloeaa.math Go.Proofs.Ytokaibpkajloeaa.ints Go.Proofs.Ytokaibpkajloeaa.deep
set_option linter.unusedVariables false
set_option linter.unusedSimpArgs false
set_option maxRecDepth 100000

theorem own_low15 {w : World} {B B' : Nat} {v : Value} {zs : List Int} (h : Own w B v zs) (hB : B' ≤ B) : Own w B' v zs := by
  refine ⟨h.1, ?_⟩
  rcases h.2 with q | ⟨g, cap, cur, e, hg, r⟩
  · exact Or.inl q
  · exact Or.inr ⟨g, cap, cur, e, Nat.le_trans hB hg, r⟩
/-- A list, where the marker is good. -/
def ListTo (b : Bool) (zs : List Int) (W : World) (e : Ending) (W' : World) : Prop := (b = false ∧ e = .returned (.tuple #[.slice none 0 0, .bool false]) ∧ Below W.heap.size W W') ∨ (b = true ∧ ∃ v, e = .returned (.tuple #[v, .bool true]) ∧ Own W' W.heap.size v zs ∧ Below W.heap.size W W')
theorem spec_greyl (a : Option Addr) (n cap : Nat) (ra : Option Addr) (rl rc : Nat) (on : Bool) (cs : Nat → Dv) (c : Bool) (W : World) (hf : Hid (Fits shCellS (.l n 3 cs))) (hn : n ≤ 10) (h : Hid (Holds W c (.l n 3 cs) (.slice a n cap))) :
    Calls Try.prog 50 #[.agg #[.slice a n cap, .slice ra rl rc, .bool on]] W fun e W' => WhereTo W (whereL (fun k => decide (mco cs k = 1)) n) e W' := by
  obtain ⟨i0, hi, hz0, hz1, hz2⟩ := parts_of (P := Try.prog) (e := 3) (z := .int .i64 0) (a := 1) (b := 8) (by kernel_rfl)
  obtain ⟨X, hX⟩ : ∃ X, Hid (W.alloc (.cells #[.slice a n cap, .slice ra rl rc, .bool on] 25) = X) := ⟨_, rfl⟩
  have HX : Hid (Below W.heap.size W X) := by show Below _ _ _; rw [← hX.out]; exact (Below.refl _ _).alloc (Nat.le_refl _) _
  have hRX := row_of W #[.slice a n cap, .slice ra rl rc, .bool on] 25
  rw [hX.out] at hRX
  have r0 : X.cell? ⟨W.heap.size, 0, none⟩ = some (.slice a n cap) := hRX.cell (i := 0) (by simp)
  have rl0 := hRX.lt
  clear hRX
  obtain ⟨p, HP⟩ : ∃ p : Nat → Bool, Hid ((fun k => decide (mco cs k = 1)) = p) := ⟨_, rfl⟩
  rw [HP.out]
  go_enter Try.func50, Try.ntmps50
  go_wp2_with fail
  rw [hX.out]
  go_wp2
  clear r0 rl0 hX
  go_loopw [3, 9] (fun vl vi wr => ∃ (k : Nat) (v : Value), k ≤ n ∧ vi = .int .i64 k ∧ v = vl ∧ Hid (Own wr W.heap.size v (whereL p k)) ∧ Hid (Below W.heap.size W wr)) (fun _ vi _ => n - (intOf vi).toNat)
  case atStart => exact ⟨0, _, Nat.zero_le _, rfl, rfl, own_nil _ _, HX⟩
  case round =>
    obtain ⟨k, v, hk, rfl, rfl, HO, HB⟩ := hrel
    by_cases hlt : k < n
    rotate_left
    · have HA : Hid (WhereTo W (whereL p n) (.returned v) wr) := by
        have q := HO.out
        rw [show k = n by omega] at q
        exact ⟨v, rfl, q, HB.out⟩
      go_wp2
      go_ret
      exact HA.out
    have hltI : (k : Int) < (n : Int) := by omega
    have hwr := HB.out.size
    obtain ⟨b, o, la, lc, ha, hb, c0, c1, c2, -⟩ := mcell_at h.out hf.out HB.out hlt
    subst ha
    have hbw : b < wr.heap.size := by omega
    have HPK : Hid (p k = decide (mco cs k = 1)) := by show _ = _; rw [← HP.out]
    obtain ⟨y, Hy⟩ : ∃ y, Hid (mco cs k = y) := ⟨_, rfl⟩
    rw [Hy.out] at c1 HPK
    generalize mln cs k = L at c0
    generalize mfr cs k = z at c2
    obtain ⟨Y, hY⟩ : ∃ Y, Hid (wr.alloc (.cells #[.slice la L lc, .int .i64 y, .bool z] 52) = Y) := ⟨_, rfl⟩
    have BY : Hid (Below wr.heap.size wr Y) := by show Below _ _ _; rw [← hY.out]; exact (Below.refl _ _).alloc (Nat.le_refl _) _
    have HYB : Hid (Below W.heap.size W Y) := HB.out.trans (BY.out.mono hwr)
    have OY : Hid (Own Y W.heap.size v (whereL p k)) := by show Own _ _ _ _; rw [← hY.out]; exact World.ownsRow.alloc HO.out _
    have e1 : Y.cell? ⟨wr.heap.size, 1, none⟩ = some (.int .i64 y) := by rw [← hY.out]; go_simp
    have el : wr.heap.size < Y.heap.size := by rw [← hY.out]; simp
    have yl : W.heap.size ≤ Y.heap.size := HYB.out.size
    go_upto_region 5 with fail
    rw [hY.out]
    clear hY c0 c1 c2 BY HO
    by_cases hy : y = 1
    · subst hy
      have hp : p k = true := by rw [HPK.out]; rfl
      have HZ : Hid (whereL p (k + 1) = whereL p k ++ [(k : Int)]) := by show (if p k = true then _ else _) = _; rw [if_pos hp]
      have HL : Hid ((whereL p k).length ≤ 10) := Nat.le_trans (whereL_len p k) (by omega)
      clear hp HPK
      obtain ⟨zs, HZS⟩ : ∃ zs, Hid (whereL p k = zs) := ⟨_, rfl⟩
      rw [HZS.out] at OY HZ HL
      have hl10 := HL.out
      go_wp2_with (first
        | (at_builtin; refine wpList_append_own _ rfl _ _ 23 rfl W.heap.size 3 i0 (.int .i64 0) 1 8 Try.underlying23 hi hz0 hz1 hz2 rfl (by decide) _ zs.length (zs.map (Value.int .i64)) rfl (World.ownsRow.alloc OY.out _) ⟨Y.heap.size, 0, none⟩ 1 1 [.int .i64 (k : Int)] rfl rfl (new_one Y (k : Int) _) (one_of (k : Int)) (by unfold maxLen; omega) (by omega) (by simp; omega) ?_))
      intro v5 w5 hown hgrow _
      obtain ⟨p1, p2, p3⟩ := Own.snoc OY.out yl HYB.out hown hgrow
      have O5 : Hid (Own w5 W.heap.size v5 (whereL p (k + 1))) := by show Own _ _ _ _; rw [HZ.out]; exact p1
      have B5 : Hid (Below W.heap.size W w5) := p2
      clear p1 p2 p3 hown hgrow
      go_wp2
      go_roundw
      case rel => exact ⟨k + 1, _, by omega, by go_num, rfl, O5, B5⟩
      case measure => simp [intOf]; omega
    · have hp : p k = false := by rw [HPK.out]; exact decide_eq_false hy
      have O2 : Hid (Own Y W.heap.size v (whereL p (k + 1))) := by
        show Own _ _ _ _
        rw [show whereL p (k + 1) = whereL p k by show (if p k = true then _ else _) = _; rw [if_neg (by rw [hp]; simp)]]
        exact OY.out
      have d0 : (y == 1) = false := by simpa using hy
      have d1 : decide (y = 1) = false := decide_eq_false hy
      clear hp HPK OY
      go_wp2
      go_roundw
      case rel => exact ⟨k + 1, _, by omega, by go_num, rfl, O2, HYB⟩
      case measure => simp [intOf]; omega
theorem spec_greyin (a : Option Addr) (n cap : Nat) (ra : Option Addr) (rl rc : Nat) (on : Bool) (cs : Nat → Dv) (rs : List Int) (c : Bool) (W : World) (hf : Hid (Fits shCellS (.l n 3 cs))) (hs : Hid (szD (.l n 3 cs) ≤ 1048576)) (h : Hid (Holds W c (.l n 3 cs) (.slice a n cap))) (hzr : Hid (rs.length = rl)) (hrl : rl ≤ 1048576) (Ir : Hid (Ints W ra rs)) :
    Calls Try.prog 26 #[.agg #[.slice a n cap, .slice ra rl rc, .bool on]] W fun e W' => ListTo (markB cs n rs on) (whereL (fun k => decide (mco cs k = 1)) n) W e W' := by
  have hn : n ≤ 1048576 := Nat.le_trans (Nat.le_add_right _ _) hs.out
  obtain ⟨X, hX⟩ : ∃ X, Hid (W.alloc (.cells #[.slice a n cap, .slice ra rl rc, .bool on] 25) = X) := ⟨_, rfl⟩
  have HX : Hid (Below W.heap.size W X) := by show Below _ _ _; rw [← hX.out]; exact (Below.refl _ _).alloc (Nat.le_refl _) _
  have hRX := row_of W #[.slice a n cap, .slice ra rl rc, .bool on] 25
  rw [hX.out] at hRX
  have HRX : Hid (X.rowIs W.heap.size 25 3 (rowF [.slice a n cap, .slice ra rl rc, .bool on])) := hRX
  clear hRX
  have r0 : X.cell? ⟨W.heap.size, 0, none⟩ = some (.slice a n cap) := HRX.out.cell (i := 0) (by decide)
  have r1 : X.cell? ⟨W.heap.size, 1, none⟩ = some (.slice ra rl rc) := HRX.out.cell (i := 1) (by decide)
  have r2 : X.cell? ⟨W.heap.size, 2, none⟩ = some (.bool on) := HRX.out.cell (i := 2) (by decide)
  have rl0 := HRX.out.lt
  have hc := spec_good15 a n cap ra rl rc on cs rs c X hf hs (h.out.kept HX.out) hzr hrl (Ir.out.kept HX.out)
  cases hb : markB cs n rs on
  · rw [hb] at hc
    clear hb
    go_enter Try.func26, Try.ntmps26
    go_wp2_with fail
    rw [hX.out]
    go_wp2_with fail
    refine hc.mono ?_
    rintro e w1 ⟨rfl, hB⟩
    have HA : Hid (ListTo false (whereL (fun k => decide (mco cs k = 1)) n) W (.returned (.tuple #[.slice none 0 0, .bool false])) w1) := Or.inl ⟨rfl, rfl, HX.out.trans (hB.mono HX.out.size)⟩
    clear hB hc r0 r1 r2 rl0
    go_wp2
    go_ret2
    exact HA.out
  rw [hb] at hc
  have HB0 : Hid (MarkOk cs n rs on) := mark_out hb
  clear hb
  go_enter Try.func26, Try.ntmps26
  go_wp2_with fail
  rw [hX.out]
  go_wp2_with fail
  refine hc.mono ?_
  rintro e w1 ⟨rfl, hB⟩
  have B1 : Hid (Below W.heap.size W w1) := HX.out.trans (hB.mono HX.out.size)
  have R1 : Hid (w1.rowIs W.heap.size 25 3 (rowF [.slice a n cap, .slice ra rl rc, .bool on])) := HRX.out.of_block (hB.block _ HRX.out.lt)
  clear hB hc r0 r1 r2 rl0 hX HX HRX
  have r0 : w1.cell? ⟨W.heap.size, 0, none⟩ = some (.slice a n cap) := R1.out.cell (i := 0) (by decide)
  have r1 : w1.cell? ⟨W.heap.size, 1, none⟩ = some (.slice ra rl rc) := R1.out.cell (i := 1) (by decide)
  have r2 : w1.cell? ⟨W.heap.size, 2, none⟩ = some (.bool on) := R1.out.cell (i := 2) (by decide)
  have rl0 := R1.out.lt
  have hi := spec_greyl a n cap ra rl rc on cs c w1 hf HB0.out.2.2.1.2 (h.out.kept B1.out)
  go_wp2_with fail
  refine hi.mono ?_
  rintro e w2 ⟨v, rfl, hO, hB⟩
  have HA : Hid (ListTo true (whereL (fun k => decide (mco cs k = 1)) n) W (.returned (.tuple #[v, .bool true])) w2) := Or.inr ⟨rfl, v, rfl, own_low15 hO B1.out.size, B1.out.trans (hB.mono B1.out.size)⟩
  clear hO hB hi r0 r1 r2 rl0
  go_wp2
  go_ret2
  exact HA.out
set_option maxHeartbeats 4000000 in
theorem impl_greyin (a : Option Addr) (n cap : Nat) (ra : Option Addr) (rl rc : Nat) (on : Bool) (cs : Nat → Dv) (rs : List Int) (c : Bool) (W : World) (hf : Hid (Fits shCellS (.l n 3 cs))) (hs : Hid (szD (.l n 3 cs) ≤ 1048576)) (h : Hid (Holds W c (.l n 3 cs) (.slice a n cap))) (hzr : Hid (rs.length = rl)) (hrl : rl ≤ 1048576) (Ir : Hid (Ints W ra rs)) :
    Calls Try.prog 27 #[.agg #[.slice a n cap, .slice ra rl rc, .bool on]] W fun e W' => ListTo (markB cs n rs on) (whereL (fun k => decide (mco cs k = 1)) n) W e W' := by
  have hn : n ≤ 1048576 := Nat.le_trans (Nat.le_add_right _ _) hs.out
  obtain ⟨X, hX⟩ : ∃ X, Hid (W.alloc (.cells #[.slice a n cap, .slice ra rl rc, .bool on] 25) = X) := ⟨_, rfl⟩
  have HX : Hid (Below W.heap.size W X) := by show Below _ _ _; rw [← hX.out]; exact (Below.refl _ _).alloc (Nat.le_refl _) _
  have hRX := row_of W #[.slice a n cap, .slice ra rl rc, .bool on] 25
  rw [hX.out] at hRX
  have HRX : Hid (X.rowIs W.heap.size 25 3 (rowF [.slice a n cap, .slice ra rl rc, .bool on])) := hRX
  clear hRX
  have r0 : X.cell? ⟨W.heap.size, 0, none⟩ = some (.slice a n cap) := HRX.out.cell (i := 0) (by decide)
  have r1 : X.cell? ⟨W.heap.size, 1, none⟩ = some (.slice ra rl rc) := HRX.out.cell (i := 1) (by decide)
  have r2 : X.cell? ⟨W.heap.size, 2, none⟩ = some (.bool on) := HRX.out.cell (i := 2) (by decide)
  have rl0 := HRX.out.lt
  have hc := impl_mrun a n cap ra rl rc on cs rs c X hf hs (h.out.kept HX.out) hzr hrl (Ir.out.kept HX.out)
  cases hb : markB cs n rs on
  · go_enter Try.func27, Try.ntmps27
    go_wp2_with fail
    rw [hX.out]
    go_wp2_with fail
    refine hc.mono ?_
    rintro e w1 ⟨v, rfl, hB, -⟩
    have HA : Hid (∀ w2, Below w1.heap.size w1 w2 → ListTo false (whereL (fun k => decide (mco cs k = 1)) n) W (.returned (.tuple #[.slice none 0 0, .bool false])) w2) := fun w2 q => Or.inl ⟨rfl, rfl, HX.out.trans ((hB.trans (q.mono hB.size)).mono HX.out.size)⟩
    rw [hb]
    clear hB hc r0 r1 r2 rl0 hb
    go_wp2
    go_ret2
    exact HA.out _ (by repeat (first | exact Below.refl _ _ | refine Below.drew ?_ | refine Below.setCell ?_ (by simp; try omega) _ | refine Below.alloc ?_ (by simp; try omega) _))
  have HB0 : Hid (MarkOk cs n rs on) := mark_out hb
  have hn10 : n ≤ 10 := HB0.out.2.2.1.2
  go_enter Try.func27, Try.ntmps27
  go_wp2_with fail
  rw [hX.out]
  go_wp2_with fail
  refine hc.mono ?_
  rintro e w1 ⟨v, rfl, hB, hM⟩
  obtain ⟨rp, cp, op, c1, c2, rfl, hR⟩ := hM hb
  rw [hb]
  have B1 : Hid (Below W.heap.size W w1) := HX.out.trans (hB.mono HX.out.size)
  have HR1 : Hid (RunM w1 X.heap.size rp cp op n c1 c2 (stM cs rs on)) := hR
  clear hB hM hR hc r0 r1 r2 rl0 hb hX HX HRX
  obtain ⟨Y, hY⟩ : ∃ Y, Hid (w1.alloc (.cells #[.pointer (some ⟨rp, 0, none⟩)] 53) = Y) := ⟨_, rfl⟩
  have BY : Hid (Below w1.heap.size w1 Y) := by show Below _ _ _; rw [← hY.out]; exact (Below.refl _ _).alloc (Nat.le_refl _) _
  have CY : Y.cell? ⟨w1.heap.size, 0, none⟩ = some (.pointer (some ⟨rp, 0, none⟩)) := by rw [← hY.out]; go_simp
  have YL : w1.heap.size < Y.heap.size := by rw [← hY.out]; simp
  have BWY : Hid (Below W.heap.size W Y) := B1.out.trans (BY.out.mono B1.out.size)
  have hw := impl_wheregrey w1.heap.size n X.heap.size rp cp op c1 c2 (stM cs rs on) X.heap.size rp cp op c1 c2 (stM cs rs on) Y hn10 (HR1.out.kept BY.out) (HR1.out.kept BY.out) CY
  have hmf : ∀ (fn : Fn) (first cap : Array Value) (w : World), (Instr.makeFunc fn first cap).run Try.prog w = .ok (.func fn first cap) w := fun _ _ _ _ => rfl
  go_upto_region 2 with fail
  rw [hY.out]
  go_wp2_with fail
  refine hw.mono ?_
  rintro e w2 ⟨v, rfl, hO, hB⟩
  have HA : Hid (ListTo true (whereL (fun k => decide (mco cs k = 1)) n) W (.returned (.tuple #[v, .bool true])) w2) := Or.inr ⟨rfl, v, rfl, own_low15 hO BWY.out.size, BWY.out.trans (hB.mono BWY.out.size)⟩
  clear hO hB hw CY YL
  go_wp2
  go_ret2
  exact HA.out
end Go.Proofs.Ytokaibpkajloeaa.walks
