/-
  What LiveIn answers, on both sides.
-/
import Derived.Test.YtokaibpkajloeaaProg
import Derived.Test.YtokaibpkajloeaaInts
import Derived.Test.YtokaibpkajloeaaOwnInts
import Derived.Test.YtokaibpkajloeaaDeep
import Derived.Test.YtokaibpkajloeaaDeepRow
import Derived.Test.YtokaibpkajloeaaDeepM
import Derived.Test.YtokaibpkajloeaaMarkMath
import Derived.Test.YtokaibpkajloeaaMarkWell
import Derived.Test.YtokaibpkajloeaaMarkSpec
import Derived.Test.YtokaibpkajloeaaMarkGood
import Derived.Test.YtokaibpkajloeaaMarkRun
import Derived.Test.YtokaibpkajloeaaMarkMake
import Derived.Test.YtokaibpkajloeaaMarkMake2
import Derived.Test.YtokaibpkajloeaaMarkWhere
import Derived.Test.YtokaibpkajloeaaMarkAsk
import Derived.Test.YtokaibpkajloeaaLiveMath15
import Derived.Test.YtokaibpkajloeaaLiveMath15b
import Derived.Test.YtokaibpkajloeaaLiveSpec15
import Derived.Test.YtokaibpkajloeaaMeetImpl
import Derived.WalkKit
import Derived.WalkSpells
import Derived.Below
import Derived.Handy
import Derived.OwnWalk
import Derived.Deep.OwnRows
import Derived.Deep.DeepFit
import Derived.Deep.DeepCutAuto
namespace Go.Proofs.Ytokaibpkajloeaa.walks
open Go.RowKit Go.Proofs.Ytokaibpkajloeaa.math Go.Proofs.Ytokaibpkajloeaa.ints Go.Proofs.Ytokaibpkajloeaa.deep
set_option linter.unusedVariables false
set_option linter.unusedSimpArgs false
set_option maxRecDepth 100000

theorem own_low15 {w : World} {B B' : Nat} {v : Value} {zs : List Int} (h : Own w B v zs) (hB : B' ≤ B) : Own w B' v zs := by
  refine ⟨h.1, ?_⟩
  rcases h.2 with q | ⟨g, cap, cur, e, hg, r⟩
  · exact Or.inl q
  · exact Or.inr ⟨g, cap, cur, e, Nat.le_trans hB hg, r⟩
/-- A list, where the marker is good. -/
def ListTo (b : Bool) (zs : List Int) (W : World) (e : Ending) (W' : World) : Prop := (b = false ∧ e = .returned (.tuple #[.slice none 0 0, .bool false]) ∧ Below W.heap.size W W') ∨ (b = true ∧ ∃ v, e = .returned (.tuple #[v, .bool true]) ∧ Own W' W.heap.size v zs ∧ Below W.heap.size W W')
set_option maxHeartbeats 4000000 in
theorem spec_livein (a : Option Addr) (n cap : Nat) (ra : Option Addr) (rl rc : Nat) (on : Bool) (cs : Nat → Dv) (rs : List Int) (c : Bool) (W : World) (hf : Hid (Fits shCellS (.l n 3 cs))) (hs : Hid (szD (.l n 3 cs) ≤ 1048576)) (h : Hid (Holds W c (.l n 3 cs) (.slice a n cap))) (hzr : Hid (rs.length = rl)) (hrl : rl ≤ 1048576) (Ir : Hid (Ints W ra rs)) :
    Calls Try.prog 21 #[.agg #[.slice a n cap, .slice ra rl rc, .bool on]] W fun e W' => ListTo (markB cs n rs on) (whereL (livB (stM cs rs on)) n) W e W' := by
  have hn : n ≤ 1048576 := Nat.le_trans (Nat.le_add_right _ _) hs.out
  obtain ⟨X, hX⟩ : ∃ X, Hid (W.alloc (.cells #[.slice a n cap, .slice ra rl rc, .bool on] 25) = X) := ⟨_, rfl⟩
  have HX : Hid (Below W.heap.size W X) := by show Below _ _ _; rw [← hX.out]; exact (Below.refl _ _).alloc (Nat.le_refl _) _
  have hRX := row_of W #[.slice a n cap, .slice ra rl rc, .bool on] 25
  rw [hX.out] at hRX
  have HRX : Hid (X.rowIs W.heap.size 25 3 (rowF [.slice a n cap, .slice ra rl rc, .bool on])) := hRX
  clear hRX
  have r0 : X.cell? ⟨W.heap.size, 0, none⟩ = some (.slice a n cap) := HRX.out.cell (i := 0) (by decide)
  have r1 : X.cell? ⟨W.heap.size, 1, none⟩ = some (.slice ra rl rc) := HRX.out.cell (i := 1) (by decide)
  have r2 : X.cell? ⟨W.heap.size, 2, none⟩ = some (.bool on) := HRX.out.cell (i := 2) (by decide)
  have rl0 := HRX.out.lt
  have hc := spec_good15 a n cap ra rl rc on cs rs c X hf hs (h.out.kept HX.out) hzr hrl (Ir.out.kept HX.out)
  cases hb : markB cs n rs on
  · rw [hb] at hc
    clear hb
    go_enter Try.func21, Try.ntmps21
    go_wp2_with fail
    rw [hX.out]
    go_wp2_with fail
    refine hc.mono ?_
    rintro e w1 ⟨rfl, hB⟩
    have HA : Hid (ListTo false (whereL (livB (stM cs rs on)) n) W (.returned (.tuple #[.slice none 0 0, .bool false])) w1) := Or.inl ⟨rfl, rfl, HX.out.trans (hB.mono HX.out.size)⟩
    clear hB hc r0 r1 r2 rl0
    go_wp2
    go_ret2
    exact HA.out
  rw [hb] at hc
  have HB0 : Hid (MarkOk cs n rs on) := mark_out hb
  have hrl2 : rl = 2 := by rw [← hzr.out]; exact HB0.out.1
  subst hrl2
  clear hb
  go_enter Try.func21, Try.ntmps21
  go_wp2_with fail
  rw [hX.out]
  go_wp2_with fail
  refine hc.mono ?_
  rintro e w1 ⟨rfl, hB⟩
  have B1 : Hid (Below W.heap.size W w1) := HX.out.trans (hB.mono HX.out.size)
  have R1 : Hid (w1.rowIs W.heap.size 25 3 (rowF [.slice a n cap, .slice ra 2 rc, .bool on])) := HRX.out.of_block (hB.block _ HRX.out.lt)
  clear hB hc r0 r1 r2 rl0 hX HX HRX
  have r0 : w1.cell? ⟨W.heap.size, 0, none⟩ = some (.slice a n cap) := R1.out.cell (i := 0) (by decide)
  have r1 : w1.cell? ⟨W.heap.size, 1, none⟩ = some (.slice ra 2 rc) := R1.out.cell (i := 1) (by decide)
  have r2 : w1.cell? ⟨W.heap.size, 2, none⟩ = some (.bool on) := R1.out.cell (i := 2) (by decide)
  have rl0 := R1.out.lt
  have hi := spec_livel a n cap ra rc on cs rs c w1 hf (h.out.kept B1.out) hzr (Ir.out.kept B1.out) HB0
  go_wp2_with fail
  refine hi.mono ?_
  rintro e w2 ⟨v, rfl, hO, hB⟩
  have HA : Hid (ListTo true (whereL (livB (stM cs rs on)) n) W (.returned (.tuple #[v, .bool true])) w2) := Or.inr ⟨rfl, v, rfl, own_low15 hO B1.out.size, B1.out.trans (hB.mono B1.out.size)⟩
  clear hO hB hi r0 r1 r2 rl0
  go_wp2
  go_ret2
  exact HA.out
set_option maxHeartbeats 4000000 in
theorem impl_livein (a : Option Addr) (n cap : Nat) (ra : Option Addr) (rl rc : Nat) (on : Bool) (cs : Nat → Dv) (rs : List Int) (c : Bool) (W : World) (hf : Hid (Fits shCellS (.l n 3 cs))) (hs : Hid (szD (.l n 3 cs) ≤ 1048576)) (h : Hid (Holds W c (.l n 3 cs) (.slice a n cap))) (hzr : Hid (rs.length = rl)) (hrl : rl ≤ 1048576) (Ir : Hid (Ints W ra rs)) :
    Calls Try.prog 22 #[.agg #[.slice a n cap, .slice ra rl rc, .bool on]] W fun e W' => ListTo (markB cs n rs on) (whereL (livB (stM cs rs on)) n) W e W' := by
  have hn : n ≤ 1048576 := Nat.le_trans (Nat.le_add_right _ _) hs.out
  obtain ⟨X, hX⟩ : ∃ X, Hid (W.alloc (.cells #[.slice a n cap, .slice ra rl rc, .bool on] 25) = X) := ⟨_, rfl⟩
  have HX : Hid (Below W.heap.size W X) := by show Below _ _ _; rw [← hX.out]; exact (Below.refl _ _).alloc (Nat.le_refl _) _
  have hRX := row_of W #[.slice a n cap, .slice ra rl rc, .bool on] 25
  rw [hX.out] at hRX
  have HRX : Hid (X.rowIs W.heap.size 25 3 (rowF [.slice a n cap, .slice ra rl rc, .bool on])) := hRX
  clear hRX
  have r0 : X.cell? ⟨W.heap.size, 0, none⟩ = some (.slice a n cap) := HRX.out.cell (i := 0) (by decide)
  have r1 : X.cell? ⟨W.heap.size, 1, none⟩ = some (.slice ra rl rc) := HRX.out.cell (i := 1) (by decide)
  have r2 : X.cell? ⟨W.heap.size, 2, none⟩ = some (.bool on) := HRX.out.cell (i := 2) (by decide)
  have rl0 := HRX.out.lt
  have hc := impl_mrun a n cap ra rl rc on cs rs c X hf hs (h.out.kept HX.out) hzr hrl (Ir.out.kept HX.out)
  cases hb : markB cs n rs on
  · go_enter Try.func22, Try.ntmps22
    go_wp2_with fail
    rw [hX.out]
    go_wp2_with fail
    refine hc.mono ?_
    rintro e w1 ⟨v, rfl, hB, -⟩
    have HA : Hid (∀ w2, Below w1.heap.size w1 w2 → ListTo false (whereL (livB (stM cs rs on)) n) W (.returned (.tuple #[.slice none 0 0, .bool false])) w2) := fun w2 q => Or.inl ⟨rfl, rfl, HX.out.trans ((hB.trans (q.mono hB.size)).mono HX.out.size)⟩
    rw [hb]
    clear hB hc r0 r1 r2 rl0 hb
    go_wp2
    go_ret2
    exact HA.out _ (by repeat (first | exact Below.refl _ _ | refine Below.drew ?_ | refine Below.setCell ?_ (by simp; try omega) _ | refine Below.alloc ?_ (by simp; try omega) _))
  have HB0 : Hid (MarkOk cs n rs on) := mark_out hb
  have hn10 : n ≤ 10 := HB0.out.2.2.1.2
  go_enter Try.func22, Try.ntmps22
  go_wp2_with fail
  rw [hX.out]
  go_wp2_with fail
  refine hc.mono ?_
  rintro e w1 ⟨v, rfl, hB, hM⟩
  obtain ⟨rp, cp, op, c1, c2, rfl, hR⟩ := hM hb
  rw [hb]
  have B1 : Hid (Below W.heap.size W w1) := HX.out.trans (hB.mono HX.out.size)
  have HR1 : Hid (RunM w1 X.heap.size rp cp op n c1 c2 (stM cs rs on)) := hR
  clear hB hM hR hc r0 r1 r2 rl0 hb hX HX HRX
  have HLW : Hid (LeadsW (stM cs rs on) n) := by
    have q := mark_eq (on := on) HB0.out.2.2.1 HB0.out.1 HB0.out.2.1
    rw [mark_yes HB0.out] at q
    by_cases r : LeadsW (stM cs rs on) n
    · exact r
    · rw [decide_eq_false r] at q; cases q
  have hlv := impl_live X.heap.size rp cp op n c1 c2 (stM cs rs on) w1 hn10 HR1 HLW
  have hmf : ∀ (fn : Fn) (first cap : Array Value) (w : World), (Instr.makeFunc fn first cap).run Try.prog w = .ok (.func fn first cap) w := fun _ _ _ _ => rfl
  go_wp2_with fail
  refine hlv.mono ?_
  rintro e w2 ⟨rfl, m, hm, hC, hB2⟩
  have HC2 : Hid (CellsAt w2 w1.heap.size n (fun i => .bool (m i))) := hC
  have B2 : Hid (Below W.heap.size W w2) := B1.out.trans (hB2.mono B1.out.size)
  have HR2 : Hid (RunM w2 X.heap.size rp cp op n c1 c2 (stM cs rs on)) := HR1.out.kept hB2
  have HEQ : Hid (whereL m n = whereL (livB (stM cs rs on)) n) := by
    show _ = _
    obtain ⟨p1, p2⟩ := whereL_in m n
    obtain ⟨q1, q2⟩ := whereL_in (livB (stM cs rs on)) n
    refine sorted_same15 p1 q1 (fun x => ?_)
    rw [p2 x, q2 x]
    have lv : ∀ k, livB (stM cs rs on) k = true ↔ Live (stM cs rs on) k := fun k => by unfold livB; exact @decide_eq_true_iff _ (Classical.propDecidable _)
    constructor
    · rintro ⟨k, e, hk, h⟩; exact ⟨k, e, hk, (lv k).2 ((hm k hk).1 h)⟩
    · rintro ⟨k, e, hk, h⟩; exact ⟨k, e, hk, (hm k hk).2 ((lv k).1 h)⟩
  clear hC hB2 hlv hm
  generalize w1.heap.size = mt at HC2 ⊢
  obtain ⟨Y, hY⟩ : ∃ Y, Hid (w2.alloc (.cells #[.slice (some ⟨mt, 0, none⟩) n n] 67) = Y) := ⟨_, rfl⟩
  have BY : Hid (Below w2.heap.size w2 Y) := by show Below _ _ _; rw [← hY.out]; exact (Below.refl _ _).alloc (Nat.le_refl _) _
  have CY : Y.cell? ⟨w2.heap.size, 0, none⟩ = some (.slice (some ⟨mt, 0, none⟩) n n) := by rw [← hY.out]; go_simp
  have YL : w2.heap.size < Y.heap.size := by rw [← hY.out]; simp
  have BWY : Hid (Below W.heap.size W Y) := B2.out.trans (BY.out.mono B2.out.size)
  have hw := impl_wherelive w2.heap.size n mt n m X.heap.size rp cp op c1 c2 (stM cs rs on) Y hn10 (HR2.out.kept BY.out) (HC2.out.kept BY.out) CY
  rw [HEQ.out] at hw
  go_upto_region 5 with fail
  rw [hY.out]
  go_wp2_with fail
  refine hw.mono ?_
  rintro e w3 ⟨v, rfl, hO, hB⟩
  have HA : Hid (ListTo true (whereL (livB (stM cs rs on)) n) W (.returned (.tuple #[v, .bool true])) w3) := Or.inr ⟨rfl, v, rfl, own_low15 hO BWY.out.size, BWY.out.trans (hB.mono BWY.out.size)⟩
  clear hO hB hw CY YL
  go_wp2
  go_ret2
  exact HA.out
end Go.Proofs.Ytokaibpkajloeaa.walks
