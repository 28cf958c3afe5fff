/-
  What the specification's FinishMark answers: the first of the grey ones.
-/
import Derived.Test.YtokaibpkajloeaaProg
import Derived.Test.YtokaibpkajloeaaInts
import Derived.Test.YtokaibpkajloeaaOwnInts
import Derived.Test.YtokaibpkajloeaaDeep
import Derived.Test.YtokaibpkajloeaaDeepRow
import Derived.Test.YtokaibpkajloeaaDeepM
import Derived.Test.YtokaibpkajloeaaMarkMath
import Derived.Test.YtokaibpkajloeaaMarkWell
import Derived.Test.YtokaibpkajloeaaMarkData
import Derived.Test.YtokaibpkajloeaaStepMath15
import Derived.Test.YtokaibpkajloeaaMarkWhere
import Derived.Test.YtokaibpkajloeaaMarkGrey
import Derived.Test.YtokaibpkajloeaaSpecM15
import Derived.Test.YtokaibpkajloeaaSpecOwn15
import Derived.Test.YtokaibpkajloeaaSpecStep15
import Derived.Test.YtokaibpkajloeaaSpecScan15
import Derived.Test.YtokaibpkajloeaaSpecSweep15
import Derived.Test.YtokaibpkajloeaaMarkGood
import Derived.Test.YtokaibpkajloeaaMarkMake
import Derived.Test.YtokaibpkajloeaaLiveMath15
import Derived.Test.YtokaibpkajloeaaMeetImpl
import Derived.Test.YtokaibpkajloeaaImplFin15
import Derived.WalkKit
import Derived.WalkSpells
import Derived.Below
import Derived.Handy
import Derived.OwnWalk
import Derived.Deep.RegionWith
import Derived.Deep.DeepCutAuto
namespace Go.Proofs.Ytokaibpkajloeaa.walks
open Go.RowKit Go.Proofs.Ytokaibpkajloeaa.math Go.Proofs.Ytokaibpkajloeaa.ints Go.Proofs.Ytokaibpkajloeaa.deep
set_option linter.unusedVariables false
set_option linter.unusedSimpArgs false
set_option maxRecDepth 100000

theorem where_none15 {p : Nat → Bool} : ∀ n, (∀ j, j < n → p j = false) → whereL p n = []
  | 0, _ => rfl
  | n + 1, h => by
    unfold whereL
    rw [h n (by omega)]
    simpa using where_none15 n (fun j hj => h j (by omega))
theorem where_head15 {p : Nat → Bool} {k : Nat} (hp : p k = true) (hj : ∀ j, j < k → p j = false) : ∀ n, k < n → ∃ r, whereL p n = (k : Int) :: r
  | 0, h => by omega
  | n + 1, h => by
    unfold whereL
    by_cases e : k = n
    · subst e
      rw [if_pos hp, where_none15 k hj]
      exact ⟨[], rfl⟩
    · obtain ⟨r, q⟩ := where_head15 hp hj n (by omega)
      rw [q]
      split
      · exact ⟨r ++ [(n : Int)], rfl⟩
      · exact ⟨r, rfl⟩
/-- The grey ones as a list in memory: none, or the first is the first. -/
def GreyAt (w : World) (n : Nat) (t : Mst) (a : Option Addr) (m : Nat) (zs : List Int) : Prop := zs.length = m ∧ Ints w a zs ∧ ((m = 0 ∧ ∀ j, j < n → t.co j ≠ 1) ∨ (0 < m ∧ ∃ k, k < n ∧ zs.getD 0 0 = (k : Int) ∧ t.co k = 1 ∧ ∀ j, j < k → t.co j ≠ 1))
theorem spec_grey_first (B g0 d0 n : Nat) (ra : Option Addr) (rl rc : Nat) (on : Bool) (L C : Nat → Nat) (s : Mst) (g1 : Nat) (W : World) (hn : n ≤ 10) (h : Hid (SpecM W B g0 g1 n L C s)) :
    Calls Try.prog 50 #[.agg #[.slice (some ⟨g0, 0, none⟩) n d0, .slice ra rl rc, .bool on]] W fun e W' => ∃ a m cap, ∃ zs : List Int, e = .returned (.slice a m cap) ∧ zs.length = m ∧ m ≤ 10 ∧ Ints W' a zs ∧ Below W.heap.size W W' ∧ ((m = 0 ∧ ∀ j, j < n → s.co j ≠ 1) ∨ (0 < m ∧ ∃ k, k < n ∧ zs.getD 0 0 = (k : Int) ∧ s.co k = 1 ∧ ∀ j, j < k → s.co j ≠ 1)) := by
  refine (spec_greyl (some ⟨g0, 0, none⟩) n d0 ra rl rc on (cellD s) false W (cell_fits s n) hn (h.out.owns d0).holds).mono ?_
  rintro e w' ⟨v, rfl, hO, hB⟩
  obtain ⟨a, cap, rfl, hM⟩ := hO.mine
  refine ⟨a, _, cap, _, rfl, rfl, Nat.le_trans (whereL_len _ n) hn, hM.ints, hB, ?_⟩
  rcases grey_is s n with ⟨_, hg⟩ | ⟨k, _, hk, hg, hj⟩
  · refine Or.inl ⟨?_, hg⟩
    rw [where_none15 n (fun j hj => decide_eq_false (by rw [cellD_mco]; exact hg j hj))]
    rfl
  · obtain ⟨r, q⟩ := where_head15 (p := fun k => decide (mco (cellD s) k = 1)) (k := k) (decide_eq_true (by rw [cellD_mco]; exact hg)) (fun j q => decide_eq_false (by rw [cellD_mco]; exact hj j q)) n hk
    rw [q]
    exact Or.inr ⟨by simp, k, hk, rfl, hg, hj⟩
set_option maxHeartbeats 8000000 in
theorem spec_finishmark (a : Option Addr) (n cap : Nat) (ra : Option Addr) (rl rc : Nat) (on : Bool) (cs : Nat → Dv) (rs : List Int) (c : Bool) (W : World) (hf : Hid (Fits shCellS (.l n 3 cs))) (hs : Hid (szD (.l n 3 cs) ≤ 1048576)) (h : Hid (Holds W c (.l n 3 cs) (.slice a n cap))) (hzr : Hid (rs.length = rl)) (hrl : rl ≤ 1048576) (Ir : Hid (Ints W ra rs)) :
    Calls Try.prog 28 #[.agg #[.slice a n cap, .slice ra rl rc, .bool on]] W fun e W' => FinAns cs n rs on W e W' := by
  obtain ⟨X, hX⟩ : ∃ X, Hid ((W.alloc (.cells #[.slice a n cap, .slice ra rl rc, .bool on] 25)).alloc (.cells #[.slice none 0 0, .slice none 0 0, .bool false] 25) = X) := ⟨_, rfl⟩
  have HX : Hid (Below W.heap.size W X) := by show Below _ _ _; rw [← hX.out]; exact ((Below.refl _ _).alloc (Nat.le_refl _) _).alloc (by simp) _
  have e1 : (W.alloc (.cells #[.slice a n cap, .slice ra rl rc, .bool on] 25)).heap.size = W.heap.size + 1 := by simp
  have hRX := (row_of W #[.slice a n cap, .slice ra rl rc, .bool on] 25).alloc (.cells #[.slice none 0 0, .slice none 0 0, .bool false] 25)
  have hZX := row_of (W.alloc (.cells #[.slice a n cap, .slice ra rl rc, .bool on] 25)) #[.slice none 0 0, .slice none 0 0, .bool false] 25
  rw [hX.out] at hRX
  rw [e1, hX.out] at hZX
  have HZX : Hid (X.rowIs (W.heap.size + 1) 25 3 (rowF [.slice none 0 0, .slice none 0 0, .bool false])) := hZX
  have r0 : X.cell? ⟨W.heap.size, 0, none⟩ = some (.slice a n cap) := hRX.cell (i := 0) (by show 0 < 3; decide)
  have r1 : X.cell? ⟨W.heap.size, 1, none⟩ = some (.slice ra rl rc) := hRX.cell (i := 1) (by show 1 < 3; decide)
  have r2 : X.cell? ⟨W.heap.size, 2, none⟩ = some (.bool on) := hRX.cell (i := 2) (by show 2 < 3; decide)
  have rl0 := hRX.lt
  have hc := spec_good15 a n cap ra rl rc on cs rs c X hf hs (h.out.kept HX.out) hzr hrl (Ir.out.kept HX.out)
  have HXP : Hid (Below (W.heap.size + 1) (W.alloc (.cells #[.slice a n cap, .slice ra rl rc, .bool on] 25)) X) := by
    show Below _ _ _
    rw [← hX.out, ← e1]
    exact (Below.refl _ _).alloc (Nat.le_refl _) _
  have HRX0 := hRX
  clear hRX hZX e1
  have HRX : Hid (X.rowIs W.heap.size 25 3 (rowF [.slice a n cap, .slice ra rl rc, .bool on])) := HRX0
  clear HRX0
  cases hb : markB cs n rs on
  · rw [hb] at hc
    go_enter Try.func28, Try.ntmps28
    go_wp2_with fail
    rw [hX.out]
    go_wp2_with fail
    refine hc.mono ?_
    rintro e w1 ⟨rfl, hB⟩
    have Z1 : Hid (w1.rowIs (W.heap.size + 1) 25 3 (rowF [.slice none 0 0, .slice none 0 0, .bool false])) := HZX.out.of_block (hB.block _ HZX.out.lt)
    have HB0 : Hid (markB cs n rs on = false) := hb
    have HA : Hid (∀ u0 u1 u2, FinAns cs n rs on W (.returned (.tuple #[.agg #[.slice none 0 0, .slice none 0 0, .bool false], .int .i64 0, .bool false])) (((w1.setCell ⟨W.heap.size + 1, 0, none⟩ u0).setCell ⟨W.heap.size + 1, 1, none⟩ u1).setCell ⟨W.heap.size + 1, 2, none⟩ u2)) := fun u0 u1 u2 => Or.inl ⟨HB0.out, rfl, by
      iterate 3 refine Below.setCell ?_ (by show W.heap.size ≤ W.heap.size + 1; omega) _
      exact HX.out.trans (hB.mono HX.out.size)⟩
    obtain ⟨⟨z0, z1, z2⟩, f0, f1, f2, zl⟩ := box_zero1 Z1.out
    clear hB hc r0 r1 r2 rl0 hb Z1 HX HZX HXP hX
    go_wp2
    exact bodyPost_ret (v := .tuple #[.agg #[.slice none 0 0, .slice none 0 0, .bool false], .int .i64 0, .bool false]) (by simp only [results, Try.results28]; go_simp) rfl (HA.out _ _ _)
  have HB0 : Hid (MarkOk cs n rs on) := mark_out hb
  have hn10 : n ≤ 10 := HB0.out.2.2.1.2
  have hn2 : 2 ≤ n := HB0.out.2.2.1.1
  have HLW : Hid (LeadsW (stM cs rs on) n) := by
    have q := mark_eq (on := on) HB0.out.2.2.1 HB0.out.1 HB0.out.2.1
    rw [mark_yes HB0.out] at q
    by_cases r : LeadsW (stM cs rs on) n
    · exact r
    · rw [decide_eq_false r] at q; cases q
  have HBT : Hid (markB cs n rs on = true) := hb
  rw [hb] at hc
  clear hb
  have hrl2 : rl = 2 := by rw [← hzr.out]; exact HB0.out.1
  subst hrl2
  obtain ⟨s, HSE⟩ : ∃ s, Hid (stM cs rs on = s) := ⟨_, rfl⟩
  have HSON : Hid (s.on = on) := by show _ = _; rw [← HSE.out]; rfl
  have XL : Hid (W.heap.size + 1 < X.heap.size) := HZX.out.lt
  go_enter Try.func28, Try.ntmps28
  go_upto_region 1 with fail
  rw [hX.out]
  clear hX
  go_upto_region 3 with (go_at_call 15; refine hc.mono ?_; rintro e w1 ⟨rfl, hB⟩; have HB1 : Hid (Below X.heap.size X w1) := hB; clear hB hc r0 r1 r2 rl0)
  have R1 : Hid (w1.rowIs W.heap.size 25 3 (rowF [.slice a n cap, .slice ra 2 rc, .bool on])) := HRX.out.of_block (HB1.out.block _ HRX.out.lt)
  have Z1 : Hid (w1.rowIs (W.heap.size + 1) 25 3 (rowF [.slice none 0 0, .slice none 0 0, .bool false])) := HZX.out.of_block (HB1.out.block _ HZX.out.lt)
  have HP1 : Hid (Below (W.heap.size + 1) (W.alloc (.cells #[.slice a n cap, .slice ra 2 rc, .bool on] 25)) w1) := HXP.out.trans (HB1.out.mono (by have := XL.out; omega))
  have HBW : Hid (Below W.heap.size W w1) := HX.out.trans (HB1.out.mono HX.out.size)
  have x1 : Hid (X.heap.size ≤ w1.heap.size) := HB1.out.size
  have r0 : w1.cell? ⟨W.heap.size, 0, none⟩ = some (.slice a n cap) := R1.out.cell (i := 0) (by decide)
  have r1 : w1.cell? ⟨W.heap.size, 1, none⟩ = some (.slice ra 2 rc) := R1.out.cell (i := 1) (by decide)
  have r2 : w1.cell? ⟨W.heap.size, 2, none⟩ = some (.bool on) := R1.out.cell (i := 2) (by decide)
  have rl0 := R1.out.lt
  have hown := spec_own15 a n cap ra rc on cs rs c w1 hf (h.out.kept HBW.out) hzr (Ir.out.kept HBW.out) hn2 hn10 HB0.out.2.1
  rw [HSE.out] at hown
  clear HB1 HRX HZX HXP HX
  go_upto_region 4 with (go_at_call 44; refine hown.mono ?_; rintro e w2 ⟨g0, d0, g1, d1, L, C, he, hS, hB⟩; rw [HSON.out] at he; subst he; have HS2 : Hid (SpecM w2 w1.heap.size g0 g1 n L C s) := hS; have HB2 : Hid (Below w1.heap.size w1 w2) := hB; clear hS hB hown r0 r1 r2 rl0)
  have HGO : Hid (W.heap.size + 1 < g0 ∧ w1.heap.size ≤ g0 ∧ g0 < w2.heap.size ∧ g1 < w2.heap.size ∧ (∀ k, k < n → L k < w2.heap.size) ∧ W.heap.size + 1 < w2.heap.size ∧ w1.heap.size ≤ w2.heap.size) := by
    have := HS2.out.low.1
    have := XL.out
    have := x1.out
    have := HB2.out.size
    exact ⟨by omega, by omega, HS2.out.cells.1, HS2.out.rts.1, fun k hk => (HS2.out.lks k hk).1, by omega, HB2.out.size⟩
  have Z2 : Hid (w2.rowIs (W.heap.size + 1) 25 3 (rowF [.slice none 0 0, .slice none 0 0, .bool false])) := Z1.out.of_block (HB2.out.block _ Z1.out.lt)
  have HP2 : Hid (Below w1.heap.size w1 w2) := HB2.out
  obtain ⟨w3, hw3⟩ : ∃ w3, Hid (w2.alloc (.cells #[.slice (some ⟨g0, 0, none⟩) n d0, .slice (some ⟨g1, 0, none⟩) 2 d1, .bool on] 25) = w3) := ⟨_, rfl⟩
  have HB3 : Hid (Below w2.heap.size w2 w3) := by show Below _ _ _; rw [← hw3.out]; exact (Below.refl _ _).alloc (Nat.le_refl _) _
  have RB3 : Hid (w3.rowIs w2.heap.size 25 3 (rowF [.slice (some ⟨g0, 0, none⟩) n d0, .slice (some ⟨g1, 0, none⟩) 2 d1, .bool on])) := by show World.rowIs _ _ _ _ _; rw [← hw3.out]; exact row_of w2 #[.slice (some ⟨g0, 0, none⟩) n d0, .slice (some ⟨g1, 0, none⟩) 2 d1, .bool on] 25
  rw [hw3.out]
  have HS3 : Hid (SpecM w3 w1.heap.size g0 g1 n L C s) := HS2.out.kept HB3.out
  have Z3 : Hid (w3.rowIs (W.heap.size + 1) 25 3 (rowF [.slice none 0 0, .slice none 0 0, .bool false])) := Z2.out.of_block (HB3.out.block _ Z2.out.lt)
  have HP3 : Hid (Below w1.heap.size w1 w3) := HP2.out.trans (HB3.out.mono HP2.out.size)
  have HLS := lead_links HLW.out
  rw [HSE.out] at HLS
  have HL1 : Hid (∀ k, k < n → ∀ j, j < 2 → s.lk k j = -1 ∨ ∃ q : Nat, s.lk k j = (q : Int) ∧ q < n) := HLS.1
  have HL2 : Hid (∀ j, j < 2 → s.rt j = -1 ∨ ∃ q : Nat, s.rt j = (q : Int) ∧ q < n) := HLS.2
  obtain ⟨R, HR⟩ : ∃ R, Hid (finishS s n = R) := ⟨_, rfl⟩
  have HFA : Hid (FinAt n R (if s.on = true then s else beginS s) 0) := by
    have q := FinAt.start n (if s.on = true then s else beginS s)
    have e : finishS s n = finS n n (if s.on = true then s else beginS s) 0 := rfl
    rw [← e, HR.out] at q
    exact q
  have HK0 : Hid (Kin s (if s.on = true then s else beginS s)) := kin_begin s
  have HANS : Hid (∀ (w' : World) (L C : Nat → Nat), SpecM w' w1.heap.size g0 g1 n L C (sweepS R.1 n) → Below w1.heap.size w1 w' → ∀ u0 u1 u2, FinAns cs n rs on W (.returned (.tuple #[.agg #[.slice (some ⟨g0, 0, none⟩) n d0, .slice (some ⟨g1, 0, none⟩) 2 d1, .bool false], .int .i64 (R.2 : Int), .bool true])) (((w'.setCell ⟨W.heap.size + 1, 0, none⟩ u0).setCell ⟨W.heap.size + 1, 1, none⟩ u1).setCell ⟨W.heap.size + 1, 2, none⟩ u2)) := fun w' L C q1 q2 u0 u1 u2 => by
    refine Or.inr ⟨HBT.out, _, by rw [HSE.out, HR.out], ?_⟩
    rw [HSE.out, HR.out]
    exact (q1.outM (d0 := d0) (d1 := d1) q2).boxed2 HP1.out (by have := XL.out; have := x1.out; omega) u0 u1 u2
  clear hw3 HB3 HS2 HB2 Z2 HP2 HLS HR Z1 R1 HBW
  have b0 : w3.cell? ⟨w2.heap.size, 0, none⟩ = some (.slice (some ⟨g0, 0, none⟩) n d0) := RB3.out.cell (i := 0) (by decide)
  have b1 : w3.cell? ⟨w2.heap.size, 1, none⟩ = some (.slice (some ⟨g1, 0, none⟩) 2 d1) := RB3.out.cell (i := 1) (by decide)
  have b2 : w3.cell? ⟨w2.heap.size, 2, none⟩ = some (.bool on) := RB3.out.cell (i := 2) (by decide)
  have bl := RB3.out.lt
  obtain ⟨t0, HT0⟩ : ∃ t0, Hid ((if s.on = true then s else beginS s) = t0) := ⟨_, rfl⟩
  rw [HT0.out] at HFA HK0
  cases on
  · have HTB : Hid (beginS s = t0) := by show _ = _; rw [← HT0.out, HSON.out]; rfl
    have hbg := spec_begin15 w1.heap.size g0 d0 g1 d1 n L C s w3 hn10 HS3 HL2
    rw [HTB.out] at hbg
    clear HTB HT0
    go_upto_region 6 with (go_at_call 43; refine hbg.mono ?_; rintro e w4 ⟨rfl, hS4, hO4⟩; have HS4 : Hid (SpecM w4 w1.heap.size g0 g1 n L C t0) := hS4; have HO4 : Hid (OnlyF w3 w4 (fun x => x = g0)) := hO4; have RB4 : Hid (w4.rowIs w2.heap.size 25 3 (rowF [.slice (some ⟨g0, 0, none⟩) n d0, .slice (some ⟨g1, 0, none⟩) 2 d1, .bool false])) := RB3.out.of_block (hO4.block _ RB3.out.lt (by have := HGO.out; omega)); have t0' : w4.cell? ⟨w2.heap.size, 0, none⟩ = some (.slice (some ⟨g0, 0, none⟩) n d0) := RB4.out.cell (i := 0) (by decide); have t1' : w4.cell? ⟨w2.heap.size, 1, none⟩ = some (.slice (some ⟨g1, 0, none⟩) 2 d1) := RB4.out.cell (i := 1) (by decide); have t2' : w4.cell? ⟨w2.heap.size, 2, none⟩ = some (.bool false) := RB4.out.cell (i := 2) (by decide); have tf0 := RB4.out.frozen 0; have tf1 := RB4.out.frozen 1; have tf2 := RB4.out.frozen 2; have tl := RB4.out.lt; clear hS4 hO4 b0 b1 b2 bl hbg)
    obtain ⟨wk, hwk⟩ : ∃ wk, Hid (((w4.setCell ⟨w2.heap.size, 0, none⟩ (.slice (some ⟨g0, 0, none⟩) n d0)).setCell ⟨w2.heap.size, 1, none⟩ (.slice (some ⟨g1, 0, none⟩) 2 d1)).setCell ⟨w2.heap.size, 2, none⟩ (.bool true) = wk) := ⟨_, rfl⟩
    rw [hwk.out]
    have wke : set3 w4 w2.heap.size (.slice (some ⟨g0, 0, none⟩) n d0) (.slice (some ⟨g1, 0, none⟩) 2 d1) (.bool true) = wk := hwk.out
    have HSk : Hid (SpecM wk w1.heap.size g0 g1 n L C t0) := by show SpecM _ _ _ _ _ _ _ _; rw [← wke]; exact HS4.out.far3 ⟨HGO.out.2.2.1, HGO.out.2.2.2.1, HGO.out.2.2.2.2.1⟩ _ _ _
    have RBk : Hid (wk.rowIs w2.heap.size 25 3 (rowF [.slice (some ⟨g0, 0, none⟩) n d0, .slice (some ⟨g1, 0, none⟩) 2 d1, .bool true])) := by show World.rowIs _ _ _ _ _; rw [← wke]; exact set3_row RB4.out _ _ _
    have Zk : Hid (wk.rowIs (W.heap.size + 1) 25 3 (rowF [.slice none 0 0, .slice none 0 0, .bool false])) := by show World.rowIs _ _ _ _ _; rw [← wke]; exact (Z3.out.of_block (HO4.out.block _ Z3.out.lt (by have := HGO.out; omega))).of_block (set3_block _ _ _ _ (by have := HGO.out; omega))
    have HPk : Hid (Below w1.heap.size w1 wk) := by
      show Below _ _ _
      rw [← wke]
      refine HP3.out.trans ?_
      have q := (HO4.out.below (B := w1.heap.size) HP3.out.size (fun x q => by have := HGO.out; omega))
      unfold set3
      iterate 3 refine Below.setCell ?_ (by show w1.heap.size ≤ w2.heap.size; have := HGO.out; omega) _
      exact q
    clear hwk wke HS4 RB4 HO4 t0' t1' t2' tf0 tf1 tf2 tl HS3 RB3 Z3 HP3
    have HS9 : Hid (SpecM wk w1.heap.size g0 g1 n L C t0) := HSk
    have hgf := spec_grey_first w1.heap.size g0 d0 n (some ⟨g1, 0, none⟩) 2 d1 true L C t0 g1 wk hn10 HSk
    have c0 : wk.cell? ⟨w2.heap.size, 0, none⟩ = some (.slice (some ⟨g0, 0, none⟩) n d0) := RBk.out.cell (i := 0) (by decide)
    have c1 : wk.cell? ⟨w2.heap.size, 1, none⟩ = some (.slice (some ⟨g1, 0, none⟩) 2 d1) := RBk.out.cell (i := 1) (by decide)
    have c2 : wk.cell? ⟨w2.heap.size, 2, none⟩ = some (.bool true) := RBk.out.cell (i := 2) (by decide)
    have cl := RBk.out.lt
    go_wp2_with (go_at_call 50; refine hgf.mono ?_; rintro e w5 ⟨ga, gm, gc, zs, rfl, hz, hm, hI, hB5, hW⟩; have HG5 : Hid (GreyAt w5 n t0 ga gm zs) := ⟨hz, hI, hW⟩; have HB5 : Hid (Below wk.heap.size wk w5) := hB5; clear hz hI hB5 hW c0 c1 c2 cl hgf)
    have HS5 : Hid (SpecM w5 w1.heap.size g0 g1 n L C t0) := HSk.out.kept HB5.out
    have RB5 : Hid (w5.rowIs w2.heap.size 25 3 (rowF [.slice (some ⟨g0, 0, none⟩) n d0, .slice (some ⟨g1, 0, none⟩) 2 d1, .bool true])) := RBk.out.of_block (HB5.out.block _ RBk.out.lt)
    have Z5 : Hid (w5.rowIs (W.heap.size + 1) 25 3 (rowF [.slice none 0 0, .slice none 0 0, .bool false])) := Zk.out.of_block (HB5.out.block _ Zk.out.lt)
    have HP5 : Hid (Below w1.heap.size w1 w5) := HPk.out.trans (HB5.out.mono HPk.out.size)
    clear HS9 HSk RBk Zk HPk HB5
    go_loopw [6, 7] (fun v6 v7 wr => ∃ (cnt : Nat) (t : Mst) (ga : Option Addr) (gm gc : Nat) (zs : List Int), cnt ≤ n ∧ v6 = .int .i64 (cnt : Int) ∧ v7 = .slice ga gm gc ∧ gm ≤ 10 ∧ Hid (GreyAt wr n t ga gm zs) ∧ Hid (FinAt n R t cnt) ∧ Hid (Kin s t) ∧ Hid (SpecM wr w1.heap.size g0 g1 n L C t) ∧ Hid (wr.rowIs w2.heap.size 25 3 (rowF [.slice (some ⟨g0, 0, none⟩) n d0, .slice (some ⟨g1, 0, none⟩) 2 d1, .bool true])) ∧ Hid (wr.rowIs (W.heap.size + 1) 25 3 (rowF [.slice none 0 0, .slice none 0 0, .bool false])) ∧ Hid (Below w1.heap.size w1 wr)) (fun v6 _ _ => n - (intOf v6).toNat)
    case atStart => exact ⟨0, t0, ga, gm, gc, zs, Nat.zero_le _, rfl, rfl, hm, HG5, HFA, HK0, HS5, RB5, Z5, HP5⟩
    case round =>
      obtain ⟨cnt, t, ga', gm', gc', zs', hcn, rfl, rfl, hm', HG, HF, HK, HS, RB, RZ, HP⟩ := hrel
      clear HG5 HS5 RB5 Z5 HP5 HFA HK0
      have c0 : wr.cell? ⟨w2.heap.size, 0, none⟩ = some (.slice (some ⟨g0, 0, none⟩) n d0) := RB.out.cell (i := 0) (by decide)
      have c1 : wr.cell? ⟨w2.heap.size, 1, none⟩ = some (.slice (some ⟨g1, 0, none⟩) 2 d1) := RB.out.cell (i := 1) (by decide)
      have c2 : wr.cell? ⟨w2.heap.size, 2, none⟩ = some (.bool true) := RB.out.cell (i := 2) (by decide)
      have cl := RB.out.lt
      rcases HG.out.2.2 with ⟨e, hno⟩ | ⟨hpos, k, hk, hz0, hgk, hjk⟩
      · have HRE : Hid (R = (t, cnt)) := HF.out.stop hno
        have hcmp : decide ((gm' : Int) > 0) = false := decide_eq_false (by omega)
        have hle : (gm' : Int) ≤ 0 := by omega
        have hsw := spec_sweep15 w1.heap.size g0 d0 g1 d1 n L C t wr (by omega) hn10 HS
        rw [HK.out.on] at hsw
        clear e hno
        go_wp2_with (go_at_call 52; refine hsw.mono ?_; rintro e w7 ⟨L7, C7, rfl, hS7, hO7⟩; have HS7 : Hid (SpecM w7 w1.heap.size g0 g1 n L7 C7 (sweepS R.1 n)) := (by show SpecM _ _ _ _ _ _ _ _; rw [HRE.out]; exact hS7); have HP7 : Hid (Below w1.heap.size w1 w7) := HP.out.trans (hO7.below HP.out.size (fun x q => by have := HGO.out; omega)); have Z7 : Hid (w7.rowIs (W.heap.size + 1) 25 3 (rowF [.slice none 0 0, .slice none 0 0, .bool false])) := RZ.out.of_block (hO7.block _ RZ.out.lt (by have := HGO.out; omega)); have t0' : w7.cell? ⟨W.heap.size + 1, 0, none⟩ = some (.slice none 0 0) := Z7.out.cell (i := 0) (by decide); have t1' : w7.cell? ⟨W.heap.size + 1, 1, none⟩ = some (.slice none 0 0) := Z7.out.cell (i := 1) (by decide); have t2' : w7.cell? ⟨W.heap.size + 1, 2, none⟩ = some (.bool false) := Z7.out.cell (i := 2) (by decide); have tf0 := Z7.out.frozen 0; have tf1 := Z7.out.frozen 1; have tf2 := Z7.out.frozen 2; have tl := Z7.out.lt; clear hS7 hO7 c0 c1 c2 cl hsw)
        have HA := HANS.out w7 L7 C7 HS7.out HP7.out
        have hR2 : R.2 = cnt := by rw [HRE.out]
        rw [hR2] at HA
        exact bodyPost_ret (v := .tuple #[.agg #[.slice (some ⟨g0, 0, none⟩) n d0, .slice (some ⟨g1, 0, none⟩) 2 d1, .bool false], .int .i64 (cnt : Int), .bool true]) (by simp only [results, Try.results28]; go_simp) rfl (HA _ _ _)
      · obtain ⟨hzl, hIz, _⟩ := HG.out
        obtain ⟨fb, fo, hfa, hfc⟩ := hIz.at (Below.refl _ _) (k := 0) (by omega)
        subst hfa
        rw [hz0] at hfc
        have hfc2 : wr.cell? ⟨fb, fo, none⟩ = some (.int .i64 (k : Int)) := hfc
        have fl : fb < wr.heap.size := World.block_lt_of_cell? wr _ hfc
        clear hfc
        have hcmp : decide ((gm' : Int) > 0) = true := decide_eq_true (by omega)
        have hpI : (0 : Int) < (gm' : Int) := by omega
        obtain ⟨f1, f2⟩ := HF.out.step hk hgk hjk
        have HF2 : Hid (FinAt n R (scanS t k) (cnt + 1)) := f1
        have HK2 : Hid (Kin s (scanS t k)) := HK.out.scan k
        have hsc := spec_scan15 w1.heap.size g0 d0 g1 d1 n L C t k wr.drew hn10 hk HK.out.on hgk (HS.out.kept (Below.refl _ _).drew) (by show ∀ j, j < 2 → _; rw [HK.out.lk]; exact HL1.out k hk)
        clear f1 hz0 hgk hjk hIz hzl HK HF HG
        go_upto_region 10 with fail
        go_region_with (first
          | (go_at_call 43; refine hsc.mono ?_; rintro e w7 ⟨rfl, hS7, hO7⟩; have HS7 : Hid (SpecM w7 w1.heap.size g0 g1 n L C (scanS t k)) := hS7; have HO7 : Hid (OnlyF wr w7 (fun x => x = g0)) := (OnlyF.of_below (Below.refl _ _).drew).trans hO7; have RB7 : Hid (w7.rowIs w2.heap.size 25 3 (rowF [.slice (some ⟨g0, 0, none⟩) n d0, .slice (some ⟨g1, 0, none⟩) 2 d1, .bool true])) := RB.out.of_block (HO7.out.block _ RB.out.lt (by have := HGO.out; omega)); have t0' : w7.cell? ⟨w2.heap.size, 0, none⟩ = some (.slice (some ⟨g0, 0, none⟩) n d0) := RB7.out.cell (i := 0) (by decide); have t1' : w7.cell? ⟨w2.heap.size, 1, none⟩ = some (.slice (some ⟨g1, 0, none⟩) 2 d1) := RB7.out.cell (i := 1) (by decide); have t2' : w7.cell? ⟨w2.heap.size, 2, none⟩ = some (.bool true) := RB7.out.cell (i := 2) (by decide); have tf0 := RB7.out.frozen 0; have tf1 := RB7.out.frozen 1; have tf2 := RB7.out.frozen 2; have tl := RB7.out.lt; clear hS7 hO7))
        all_goals
          obtain ⟨w8, hw8⟩ : ∃ w8, Hid (((w7.setCell ⟨w2.heap.size, 0, none⟩ (.slice (some ⟨g0, 0, none⟩) n d0)).setCell ⟨w2.heap.size, 1, none⟩ (.slice (some ⟨g1, 0, none⟩) 2 d1)).setCell ⟨w2.heap.size, 2, none⟩ (.bool true) = w8) := ⟨_, rfl⟩
          rw [hw8.out]
          have w8e : set3 w7 w2.heap.size (.slice (some ⟨g0, 0, none⟩) n d0) (.slice (some ⟨g1, 0, none⟩) 2 d1) (.bool true) = w8 := hw8.out
          have HS8 : Hid (SpecM w8 w1.heap.size g0 g1 n L C (scanS t k)) := by show SpecM _ _ _ _ _ _ _ _; rw [← w8e]; exact HS7.out.far3 ⟨HGO.out.2.2.1, HGO.out.2.2.2.1, HGO.out.2.2.2.2.1⟩ _ _ _
          have RB8 : Hid (w8.rowIs w2.heap.size 25 3 (rowF [.slice (some ⟨g0, 0, none⟩) n d0, .slice (some ⟨g1, 0, none⟩) 2 d1, .bool true])) := by show World.rowIs _ _ _ _ _; rw [← w8e]; exact set3_row RB7.out _ _ _
          have Z8 : Hid (w8.rowIs (W.heap.size + 1) 25 3 (rowF [.slice none 0 0, .slice none 0 0, .bool false])) := by show World.rowIs _ _ _ _ _; rw [← w8e]; exact (RZ.out.of_block (HO7.out.block _ RZ.out.lt (by have := HGO.out; omega))).of_block (set3_block _ _ _ _ (by have := HGO.out; omega))
          have HP8 : Hid (Below w1.heap.size w1 w8) := by
            show Below _ _ _
            rw [← w8e]
            refine HP.out.trans ?_
            have q := (HO7.out.below (B := w1.heap.size) HP.out.size (fun x q => by have := HGO.out; omega))
            unfold set3
            iterate 3 refine Below.setCell ?_ (by show w1.heap.size ≤ w2.heap.size; have := HGO.out; omega) _
            exact q
          clear hw8 w8e HS7 HO7 RB7 t0' t1' t2' tf0 tf1 tf2 tl HS RB RZ HP c0 c1 c2 cl hfc2 fl hsc
          have hgf := spec_grey_first w1.heap.size g0 d0 n (some ⟨g1, 0, none⟩) 2 d1 true L C (scanS t k) g1 w8 hn10 HS8
          have c0 : w8.cell? ⟨w2.heap.size, 0, none⟩ = some (.slice (some ⟨g0, 0, none⟩) n d0) := RB8.out.cell (i := 0) (by decide)
          have c1 : w8.cell? ⟨w2.heap.size, 1, none⟩ = some (.slice (some ⟨g1, 0, none⟩) 2 d1) := RB8.out.cell (i := 1) (by decide)
          have c2 : w8.cell? ⟨w2.heap.size, 2, none⟩ = some (.bool true) := RB8.out.cell (i := 2) (by decide)
          have cl := RB8.out.lt
          go_wp2_with (go_at_call 50; refine hgf.mono ?_; rintro e w9 ⟨ga9, gm9, gc9, zs9, rfl, hz, hm9, hI, hB5, hW⟩; have HG9 : Hid (GreyAt w9 n (scanS t k) ga9 gm9 zs9) := ⟨hz, hI, hW⟩; have HB9 : Hid (Below w8.heap.size w8 w9) := hB5; clear hz hI hB5 hW c0 c1 c2 cl hgf)
          have HS9 : Hid (SpecM w9 w1.heap.size g0 g1 n L C (scanS t k)) := HS8.out.kept HB9.out
          have RB9 : Hid (w9.rowIs w2.heap.size 25 3 (rowF [.slice (some ⟨g0, 0, none⟩) n d0, .slice (some ⟨g1, 0, none⟩) 2 d1, .bool true])) := RB8.out.of_block (HB9.out.block _ RB8.out.lt)
          have Z9 : Hid (w9.rowIs (W.heap.size + 1) 25 3 (rowF [.slice none 0 0, .slice none 0 0, .bool false])) := Z8.out.of_block (HB9.out.block _ Z8.out.lt)
          have HP9 : Hid (Below w1.heap.size w1 w9) := HP8.out.trans (HB9.out.mono HP8.out.size)
          clear HS8 RB8 Z8 HP8 HB9
          go_roundw
          case rel => exact ⟨cnt + 1, _, ga9, gm9, gc9, zs9, by omega, by go_num, rfl, hm9, HG9, HF2, HK2, HS9, RB9, Z9, HP9⟩
          case measure => simp [intOf]; omega
  · have HTB : Hid (s = t0) := by show _ = _; rw [← HT0.out, HSON.out]; rfl
    have HSk : Hid (SpecM w3 w1.heap.size g0 g1 n L C t0) := by show SpecM _ _ _ _ _ _ _ _; rw [← HTB.out]; exact HS3.out
    have RBk := RB3
    have Zk := Z3
    have HPk := HP3
    clear HTB HT0
    go_upto_region 6 with fail
    clear HS3 RB3 Z3 HP3 b0 b1 b2 bl
    have HS9 : Hid (SpecM w3 w1.heap.size g0 g1 n L C t0) := HSk
    have hgf := spec_grey_first w1.heap.size g0 d0 n (some ⟨g1, 0, none⟩) 2 d1 true L C t0 g1 w3 hn10 HSk
    have c0 : w3.cell? ⟨w2.heap.size, 0, none⟩ = some (.slice (some ⟨g0, 0, none⟩) n d0) := RBk.out.cell (i := 0) (by decide)
    have c1 : w3.cell? ⟨w2.heap.size, 1, none⟩ = some (.slice (some ⟨g1, 0, none⟩) 2 d1) := RBk.out.cell (i := 1) (by decide)
    have c2 : w3.cell? ⟨w2.heap.size, 2, none⟩ = some (.bool true) := RBk.out.cell (i := 2) (by decide)
    have cl := RBk.out.lt
    go_wp2_with (go_at_call 50; refine hgf.mono ?_; rintro e w5 ⟨ga, gm, gc, zs, rfl, hz, hm, hI, hB5, hW⟩; have HG5 : Hid (GreyAt w5 n t0 ga gm zs) := ⟨hz, hI, hW⟩; have HB5 : Hid (Below w3.heap.size w3 w5) := hB5; clear hz hI hB5 hW c0 c1 c2 cl hgf)
    have HS5 : Hid (SpecM w5 w1.heap.size g0 g1 n L C t0) := HSk.out.kept HB5.out
    have RB5 : Hid (w5.rowIs w2.heap.size 25 3 (rowF [.slice (some ⟨g0, 0, none⟩) n d0, .slice (some ⟨g1, 0, none⟩) 2 d1, .bool true])) := RBk.out.of_block (HB5.out.block _ RBk.out.lt)
    have Z5 : Hid (w5.rowIs (W.heap.size + 1) 25 3 (rowF [.slice none 0 0, .slice none 0 0, .bool false])) := Zk.out.of_block (HB5.out.block _ Zk.out.lt)
    have HP5 : Hid (Below w1.heap.size w1 w5) := HPk.out.trans (HB5.out.mono HPk.out.size)
    clear HS9 HSk RBk Zk HPk HB5
    go_loopw [6, 7] (fun v6 v7 wr => ∃ (cnt : Nat) (t : Mst) (ga : Option Addr) (gm gc : Nat) (zs : List Int), cnt ≤ n ∧ v6 = .int .i64 (cnt : Int) ∧ v7 = .slice ga gm gc ∧ gm ≤ 10 ∧ Hid (GreyAt wr n t ga gm zs) ∧ Hid (FinAt n R t cnt) ∧ Hid (Kin s t) ∧ Hid (SpecM wr w1.heap.size g0 g1 n L C t) ∧ Hid (wr.rowIs w2.heap.size 25 3 (rowF [.slice (some ⟨g0, 0, none⟩) n d0, .slice (some ⟨g1, 0, none⟩) 2 d1, .bool true])) ∧ Hid (wr.rowIs (W.heap.size + 1) 25 3 (rowF [.slice none 0 0, .slice none 0 0, .bool false])) ∧ Hid (Below w1.heap.size w1 wr)) (fun v6 _ _ => n - (intOf v6).toNat)
    case atStart => exact ⟨0, t0, ga, gm, gc, zs, Nat.zero_le _, rfl, rfl, hm, HG5, HFA, HK0, HS5, RB5, Z5, HP5⟩
    case round =>
      obtain ⟨cnt, t, ga', gm', gc', zs', hcn, rfl, rfl, hm', HG, HF, HK, HS, RB, RZ, HP⟩ := hrel
      clear HG5 HS5 RB5 Z5 HP5 HFA HK0
      have c0 : wr.cell? ⟨w2.heap.size, 0, none⟩ = some (.slice (some ⟨g0, 0, none⟩) n d0) := RB.out.cell (i := 0) (by decide)
      have c1 : wr.cell? ⟨w2.heap.size, 1, none⟩ = some (.slice (some ⟨g1, 0, none⟩) 2 d1) := RB.out.cell (i := 1) (by decide)
      have c2 : wr.cell? ⟨w2.heap.size, 2, none⟩ = some (.bool true) := RB.out.cell (i := 2) (by decide)
      have cl := RB.out.lt
      rcases HG.out.2.2 with ⟨e, hno⟩ | ⟨hpos, k, hk, hz0, hgk, hjk⟩
      · have HRE : Hid (R = (t, cnt)) := HF.out.stop hno
        have hcmp : decide ((gm' : Int) > 0) = false := decide_eq_false (by omega)
        have hle : (gm' : Int) ≤ 0 := by omega
        have hsw := spec_sweep15 w1.heap.size g0 d0 g1 d1 n L C t wr (by omega) hn10 HS
        rw [HK.out.on] at hsw
        clear e hno
        go_wp2_with (go_at_call 52; refine hsw.mono ?_; rintro e w7 ⟨L7, C7, rfl, hS7, hO7⟩; have HS7 : Hid (SpecM w7 w1.heap.size g0 g1 n L7 C7 (sweepS R.1 n)) := (by show SpecM _ _ _ _ _ _ _ _; rw [HRE.out]; exact hS7); have HP7 : Hid (Below w1.heap.size w1 w7) := HP.out.trans (hO7.below HP.out.size (fun x q => by have := HGO.out; omega)); have Z7 : Hid (w7.rowIs (W.heap.size + 1) 25 3 (rowF [.slice none 0 0, .slice none 0 0, .bool false])) := RZ.out.of_block (hO7.block _ RZ.out.lt (by have := HGO.out; omega)); have t0' : w7.cell? ⟨W.heap.size + 1, 0, none⟩ = some (.slice none 0 0) := Z7.out.cell (i := 0) (by decide); have t1' : w7.cell? ⟨W.heap.size + 1, 1, none⟩ = some (.slice none 0 0) := Z7.out.cell (i := 1) (by decide); have t2' : w7.cell? ⟨W.heap.size + 1, 2, none⟩ = some (.bool false) := Z7.out.cell (i := 2) (by decide); have tf0 := Z7.out.frozen 0; have tf1 := Z7.out.frozen 1; have tf2 := Z7.out.frozen 2; have tl := Z7.out.lt; clear hS7 hO7 c0 c1 c2 cl hsw)
        have HA := HANS.out w7 L7 C7 HS7.out HP7.out
        have hR2 : R.2 = cnt := by rw [HRE.out]
        rw [hR2] at HA
        exact bodyPost_ret (v := .tuple #[.agg #[.slice (some ⟨g0, 0, none⟩) n d0, .slice (some ⟨g1, 0, none⟩) 2 d1, .bool false], .int .i64 (cnt : Int), .bool true]) (by simp only [results, Try.results28]; go_simp) rfl (HA _ _ _)
      · obtain ⟨hzl, hIz, _⟩ := HG.out
        obtain ⟨fb, fo, hfa, hfc⟩ := hIz.at (Below.refl _ _) (k := 0) (by omega)
        subst hfa
        rw [hz0] at hfc
        have hfc2 : wr.cell? ⟨fb, fo, none⟩ = some (.int .i64 (k : Int)) := hfc
        have fl : fb < wr.heap.size := World.block_lt_of_cell? wr _ hfc
        clear hfc
        have hcmp : decide ((gm' : Int) > 0) = true := decide_eq_true (by omega)
        have hpI : (0 : Int) < (gm' : Int) := by omega
        obtain ⟨f1, f2⟩ := HF.out.step hk hgk hjk
        have HF2 : Hid (FinAt n R (scanS t k) (cnt + 1)) := f1
        have HK2 : Hid (Kin s (scanS t k)) := HK.out.scan k
        have hsc := spec_scan15 w1.heap.size g0 d0 g1 d1 n L C t k wr.drew hn10 hk HK.out.on hgk (HS.out.kept (Below.refl _ _).drew) (by show ∀ j, j < 2 → _; rw [HK.out.lk]; exact HL1.out k hk)
        clear f1 hz0 hgk hjk hIz hzl HK HF HG
        go_upto_region 10 with fail
        go_region_with (first
          | (go_at_call 43; refine hsc.mono ?_; rintro e w7 ⟨rfl, hS7, hO7⟩; have HS7 : Hid (SpecM w7 w1.heap.size g0 g1 n L C (scanS t k)) := hS7; have HO7 : Hid (OnlyF wr w7 (fun x => x = g0)) := (OnlyF.of_below (Below.refl _ _).drew).trans hO7; have RB7 : Hid (w7.rowIs w2.heap.size 25 3 (rowF [.slice (some ⟨g0, 0, none⟩) n d0, .slice (some ⟨g1, 0, none⟩) 2 d1, .bool true])) := RB.out.of_block (HO7.out.block _ RB.out.lt (by have := HGO.out; omega)); have t0' : w7.cell? ⟨w2.heap.size, 0, none⟩ = some (.slice (some ⟨g0, 0, none⟩) n d0) := RB7.out.cell (i := 0) (by decide); have t1' : w7.cell? ⟨w2.heap.size, 1, none⟩ = some (.slice (some ⟨g1, 0, none⟩) 2 d1) := RB7.out.cell (i := 1) (by decide); have t2' : w7.cell? ⟨w2.heap.size, 2, none⟩ = some (.bool true) := RB7.out.cell (i := 2) (by decide); have tf0 := RB7.out.frozen 0; have tf1 := RB7.out.frozen 1; have tf2 := RB7.out.frozen 2; have tl := RB7.out.lt; clear hS7 hO7))
        all_goals
          obtain ⟨w8, hw8⟩ : ∃ w8, Hid (((w7.setCell ⟨w2.heap.size, 0, none⟩ (.slice (some ⟨g0, 0, none⟩) n d0)).setCell ⟨w2.heap.size, 1, none⟩ (.slice (some ⟨g1, 0, none⟩) 2 d1)).setCell ⟨w2.heap.size, 2, none⟩ (.bool true) = w8) := ⟨_, rfl⟩
          rw [hw8.out]
          have w8e : set3 w7 w2.heap.size (.slice (some ⟨g0, 0, none⟩) n d0) (.slice (some ⟨g1, 0, none⟩) 2 d1) (.bool true) = w8 := hw8.out
          have HS8 : Hid (SpecM w8 w1.heap.size g0 g1 n L C (scanS t k)) := by show SpecM _ _ _ _ _ _ _ _; rw [← w8e]; exact HS7.out.far3 ⟨HGO.out.2.2.1, HGO.out.2.2.2.1, HGO.out.2.2.2.2.1⟩ _ _ _
          have RB8 : Hid (w8.rowIs w2.heap.size 25 3 (rowF [.slice (some ⟨g0, 0, none⟩) n d0, .slice (some ⟨g1, 0, none⟩) 2 d1, .bool true])) := by show World.rowIs _ _ _ _ _; rw [← w8e]; exact set3_row RB7.out _ _ _
          have Z8 : Hid (w8.rowIs (W.heap.size + 1) 25 3 (rowF [.slice none 0 0, .slice none 0 0, .bool false])) := by show World.rowIs _ _ _ _ _; rw [← w8e]; exact (RZ.out.of_block (HO7.out.block _ RZ.out.lt (by have := HGO.out; omega))).of_block (set3_block _ _ _ _ (by have := HGO.out; omega))
          have HP8 : Hid (Below w1.heap.size w1 w8) := by
            show Below _ _ _
            rw [← w8e]
            refine HP.out.trans ?_
            have q := (HO7.out.below (B := w1.heap.size) HP.out.size (fun x q => by have := HGO.out; omega))
            unfold set3
            iterate 3 refine Below.setCell ?_ (by show w1.heap.size ≤ w2.heap.size; have := HGO.out; omega) _
            exact q
          clear hw8 w8e HS7 HO7 RB7 t0' t1' t2' tf0 tf1 tf2 tl HS RB RZ HP c0 c1 c2 cl hfc2 fl hsc
          have hgf := spec_grey_first w1.heap.size g0 d0 n (some ⟨g1, 0, none⟩) 2 d1 true L C (scanS t k) g1 w8 hn10 HS8
          have c0 : w8.cell? ⟨w2.heap.size, 0, none⟩ = some (.slice (some ⟨g0, 0, none⟩) n d0) := RB8.out.cell (i := 0) (by decide)
          have c1 : w8.cell? ⟨w2.heap.size, 1, none⟩ = some (.slice (some ⟨g1, 0, none⟩) 2 d1) := RB8.out.cell (i := 1) (by decide)
          have c2 : w8.cell? ⟨w2.heap.size, 2, none⟩ = some (.bool true) := RB8.out.cell (i := 2) (by decide)
          have cl := RB8.out.lt
          go_wp2_with (go_at_call 50; refine hgf.mono ?_; rintro e w9 ⟨ga9, gm9, gc9, zs9, rfl, hz, hm9, hI, hB5, hW⟩; have HG9 : Hid (GreyAt w9 n (scanS t k) ga9 gm9 zs9) := ⟨hz, hI, hW⟩; have HB9 : Hid (Below w8.heap.size w8 w9) := hB5; clear hz hI hB5 hW c0 c1 c2 cl hgf)
          have HS9 : Hid (SpecM w9 w1.heap.size g0 g1 n L C (scanS t k)) := HS8.out.kept HB9.out
          have RB9 : Hid (w9.rowIs w2.heap.size 25 3 (rowF [.slice (some ⟨g0, 0, none⟩) n d0, .slice (some ⟨g1, 0, none⟩) 2 d1, .bool true])) := RB8.out.of_block (HB9.out.block _ RB8.out.lt)
          have Z9 : Hid (w9.rowIs (W.heap.size + 1) 25 3 (rowF [.slice none 0 0, .slice none 0 0, .bool false])) := Z8.out.of_block (HB9.out.block _ Z8.out.lt)
          have HP9 : Hid (Below w1.heap.size w1 w9) := HP8.out.trans (HB9.out.mono HP8.out.size)
          clear HS8 RB8 Z8 HP8 HB9
          go_roundw
          case rel => exact ⟨cnt + 1, _, ga9, gm9, gc9, zs9, by omega, by go_num, rfl, hm9, HG9, HF2, HK2, HS9, RB9, Z9, HP9⟩
          case measure => simp [intOf]; omega
end Go.Proofs.Ytokaibpkajloeaa.walks
