/-
  What the program's finish does, and FinishMark.
-/
import Derived.Test.YtokaibpkajloeaaProg
import Derived.Test.YtokaibpkajloeaaInts
import Derived.Test.YtokaibpkajloeaaDeep
import Derived.Test.YtokaibpkajloeaaDeepRow
import Derived.Test.YtokaibpkajloeaaDeepM
import Derived.Test.YtokaibpkajloeaaMarkMath
import Derived.Test.YtokaibpkajloeaaMarkWell
import Derived.Test.YtokaibpkajloeaaStepMath15
import Derived.Test.YtokaibpkajloeaaMarkRun
import Derived.Test.YtokaibpkajloeaaMarkOut
import Derived.Test.YtokaibpkajloeaaNewRun
import Derived.Test.YtokaibpkajloeaaMarkAsk
import Derived.Test.YtokaibpkajloeaaMarkMake
import Derived.Test.YtokaibpkajloeaaMarkMake2
import Derived.Test.YtokaibpkajloeaaLiveMath15
import Derived.Test.YtokaibpkajloeaaMeetImpl
import Derived.Test.YtokaibpkajloeaaMarkNew
import Derived.Test.YtokaibpkajloeaaImplStep15
import Derived.Test.YtokaibpkajloeaaImplSweep15
import Derived.WalkKit
import Derived.WalkSpells
import Derived.Below
import Derived.Handy
import Derived.OwnWalk
import Derived.Deep.OwnRows
import Derived.Deep.DeepCutAuto
namespace Go.Proofs.Ytokaibpkajloeaa.walks
open Go.RowKit Go.Proofs.Ytokaibpkajloeaa.math Go.Proofs.Ytokaibpkajloeaa.ints Go.Proofs.Ytokaibpkajloeaa.deep
set_option linter.unusedVariables false
set_option linter.unusedSimpArgs false
set_option maxRecDepth 100000

/-- What finish leaves. -/
def FinTo (B rp cp op n c1 c2 : Nat) (s : Mst) (W : World) (e : Ending) (W' : World) : Prop := e = .returned (.int .i64 ((finishS s n).2 : Int)) ∧ RunM W' B rp cp op n c1 c2 (sweepS (finishS s n).1 n) ∧ OnlyF W W' (ofM rp cp op)
/-- What the scans leave as it was. -/
structure Kin (s t : Mst) : Prop where
  lk : t.lk = s.lk
  rt : t.rt = s.rt
  fr : t.fr = s.fr
  on : t.on = true
theorem kin_begin (s : Mst) : Kin s (if s.on = true then s else beginS s) := by
  by_cases h : s.on = true
  · rw [if_pos h]; exact ⟨rfl, rfl, rfl, h⟩
  · rw [if_neg h]
    obtain ⟨a, b, c, d⟩ := shade_lk (s.setMk true) (s.rt 0)
    obtain ⟨a2, b2, c2, d2⟩ := shade_lk (shadeS (s.setMk true) (s.rt 0)) (s.rt 1)
    exact ⟨by unfold beginS; rw [a2, a]; rfl, by unfold beginS; rw [b2, b]; rfl, by unfold beginS; rw [c2, c]; rfl, by unfold beginS; rw [d2, d]; rfl⟩
theorem Kin.scan {s t : Mst} (h : Kin s t) (k : Nat) : Kin s (scanS t k) := by
  obtain ⟨a, b, c, d⟩ := shade_lk t (t.lk k 0)
  obtain ⟨a2, b2, c2, d2⟩ := shade_lk (shadeS t (t.lk k 0)) (t.lk k 1)
  exact ⟨by show (shadeS (shadeS t (t.lk k 0)) (t.lk k 1)).lk = _; rw [a2, a]; exact h.lk, by show (shadeS (shadeS t (t.lk k 0)) (t.lk k 1)).rt = _; rw [b2, b]; exact h.rt, by show (shadeS (shadeS t (t.lk k 0)) (t.lk k 1)).fr = _; rw [c2, c]; exact h.fr, by show (shadeS (shadeS t (t.lk k 0)) (t.lk k 1)).on = _; rw [d2, d]; exact h.on⟩
theorem greyI_no {s : Mst} {n : Nat} (h : ∀ j, j < n → s.co j ≠ 1) : greyI s n = -1 := by unfold greyI; rw [grey_no h]
theorem greyI_at {s : Mst} {n k : Nat} (hk : k < n) (h : s.co k = 1) (hj : ∀ j, j < k → s.co j ≠ 1) : greyI s n = (k : Int) := by unfold greyI; rw [grey_at hk h hj]
set_option maxHeartbeats 4000000 in
theorem impl_finish (B rp cp op n c1 c2 : Nat) (s : Mst) (W : World) (hn0 : 0 < n) (hn : n ≤ 10) (h : Hid (RunM W B rp cp op n c1 c2 s)) (hl : Hid (LeadsW s n)) :
    Calls Try.prog 53 #[.pointer (some ⟨rp, 0, none⟩)] W fun e W' => FinTo B rp cp op n c1 c2 s W e W' := by
  obtain ⟨l1, l2⟩ := lead_links hl.out
  have HL1 : Hid (∀ k, k < n → ∀ j, j < 2 → s.lk k j = -1 ∨ ∃ q : Nat, s.lk k j = (q : Int) ∧ q < n) := l1
  have hbg := impl_begin B rp cp op n c1 c2 s W hn h l2
  clear l1 l2
  have HK0 : Hid (Kin s (if s.on = true then s else beginS s)) := kin_begin s
  have HF0 : Hid (finishS s n = finS n n (if s.on = true then s else beginS s) 0) := rfl
  obtain ⟨R, HR⟩ : ∃ R, Hid (finishS s n = R) := ⟨_, rfl⟩
  have HFT : Hid (FinTo B rp cp op n c1 c2 s W = fun e W' => e = .returned (.int .i64 (R.2 : Int)) ∧ RunM W' B rp cp op n c1 c2 (sweepS R.1 n) ∧ OnlyF W W' (ofM rp cp op)) := by
    show _ = _
    funext e W'
    unfold FinTo
    rw [HR.out]
  rw [HFT.out]
  rw [HR.out] at HF0
  obtain ⟨t0, HT0⟩ : ∃ t, Hid ((if s.on = true then s else beginS s) = t) := ⟨_, rfl⟩
  rw [HT0.out] at hbg HK0 HF0
  have HFA : Hid (FinAt n R t0 0) := by
    have q := FinAt.start n t0
    rw [← HF0.out] at q
    exact q
  clear HF0 HFT HR HT0
  generalize (!s.on) = b0 at hbg
  go_enter Try.func53, Try.ntmps53
  go_wp2_with fail
  refine hbg.mono ?_
  rintro e w1 ⟨rfl, hR1, hO1⟩
  have HR1 : Hid (RunM w1 B rp cp op n c1 c2 t0) := hR1
  have HO1 : Hid (OnlyF W w1 (ofM rp cp op)) := hO1
  clear hR1 hO1 hbg
  go_wp2_with fail
  go_loopw [3] (fun vc wr => ∃ (cnt : Nat) (t : Mst), cnt ≤ n ∧ vc = .int .i64 (cnt : Int) ∧ Hid (FinAt n R t cnt) ∧ Hid (Kin s t) ∧ Hid (RunM wr B rp cp op n c1 c2 t) ∧ Hid (OnlyF W wr (ofM rp cp op))) (fun vc _ => n - (intOf vc).toNat)
  case atStart => exact ⟨0, t0, Nat.zero_le _, rfl, HFA, HK0, HR1, HO1⟩
  case round =>
    obtain ⟨cnt, t, hcn, rfl, HF, HK, HRt, HO⟩ := hrel
    have hix := impl_indexg B rp cp op n c1 c2 t wr hn HRt
    have r1 : wr.cell? ⟨rp, 1, none⟩ = some (.slice (some ⟨op, 0, none⟩) n c2) := HRt.out.row.cell (i := 1) (by decide)
    have rl := HRt.out.row.lt
    rcases grey_is t n with ⟨_, hg⟩ | ⟨k, _, hk, hg, hj⟩
    · have HGI : Hid (greyI t n = -1) := greyI_no hg
      have hsc := impl_scan_no B rp cp op n c1 c2 t (-1) wr hn HRt (fun ⟨k, e, _⟩ => by omega)
      have hsw := impl_sweep_yes B rp cp op n c1 c2 t wr hn0 hn HRt HK.out.on HGI.out
      have HRE : Hid (R = (t, cnt)) := HF.out.stop hg
      rw [HGI.out] at hix
      clear hg
      go_wp2_with (first
        | (go_at_call 78; refine hix.mono ?_; rintro e w' ⟨rfl, hw⟩; rw [hw]; clear hw w')
        | (go_at_call 73; refine hsc.mono ?_; rintro e w' ⟨rfl, hw⟩; rw [hw]; clear hw w')
        | (go_at_call 75; refine hsw.mono ?_; rintro e w5 ⟨rfl, hR5, hO5⟩; have HR5 : Hid (RunM w5 B rp cp op n c1 c2 (sweepS t n)) := hR5; have HO5 : Hid (OnlyF W w5 (ofM rp cp op)) := (HO.out.trans hO5); clear hR5 hO5 r1 rl))
      go_ret
      exact ⟨by rw [HRE.out]; rfl, by rw [HRE.out]; exact HR5.out, HO5.out⟩
    · have HGI : Hid (greyI t n = (k : Int)) := greyI_at hk hg hj
      have hsc := impl_scan_yes B rp cp op n c1 c2 t k wr hn hk HRt hg (by show ∀ j, j < 2 → _; rw [HK.out.lk]; exact HL1.out k hk)
      obtain ⟨f1, f2⟩ := HF.out.step hk hg hj
      have HF2 : Hid (FinAt n R (scanS t k) (cnt + 1)) := f1
      have HK2 : Hid (Kin s (scanS t k)) := HK.out.scan k
      rw [HGI.out] at hix
      clear hg hj f1
      go_wp2_with (first
        | (go_at_call 78; refine hix.mono ?_; rintro e w' ⟨rfl, hw⟩; rw [hw]; clear hw w')
        | (go_at_call 73; refine hsc.mono ?_; rintro e w5 ⟨rfl, hR5, hO5⟩; have HR5 : Hid (RunM w5 B rp cp op n c1 c2 (scanS t k)) := hR5; have HO5 : Hid (OnlyF W w5 (ofM rp cp op)) := (HO.out.trans hO5); clear hR5 hO5 r1 rl))
      go_roundw
      case rel => exact ⟨cnt + 1, _, by omega, by go_num, HF2, HK2, HR5, HO5⟩
      case measure => simp [intOf]; omega
/-- What FinishMark answers. -/
def FinAns (cs : Nat → Dv) (n : Nat) (rs : List Int) (on : Bool) (W : World) (e : Ending) (W' : World) : Prop := (markB cs n rs on = false ∧ e = .returned (.tuple #[.agg #[.slice none 0 0, .slice none 0 0, .bool false], .int .i64 0, .bool false]) ∧ Below W.heap.size W W') ∨ (markB cs n rs on = true ∧ ∃ v, e = .returned (.tuple #[v, .int .i64 ((finishS (stM cs rs on) n).2 : Int), .bool true]) ∧ OutM W W' n (sweepS (finishS (stM cs rs on) n).1 n) v)
theorem OutM.lower {W W1 W2 : World} {n : Nat} {s : Mst} {v : Value} (h : OutM W1 W2 n s v) (hb : Below W.heap.size W W1) : OutM W W2 n s v := by
  obtain ⟨g0, d0, g1, d1, F0, F1, e, o0, l0, o1, l1, dd, b⟩ := h
  have s1 := hb.size
  exact ⟨g0, d0, g1, d1, F0, F1, e, o0.low s1, fun x q => ⟨Nat.le_trans s1 (l0 x q).1, (l0 x q).2⟩, o1.low s1, fun x q => ⟨Nat.le_trans s1 (l1 x q).1, (l1 x q).2⟩, dd, hb.trans (b.mono s1)⟩
/-- .. put into a result's box that lies behind the parameter's. -/
theorem OutM.boxed2 {W W1 W2 : World} {n : Nat} {s : Mst} {v : Value} {p : Obj} (h : OutM W1 W2 n s v) (hb : Below (W.heap.size + 1) (W.alloc p) W1) (hl : W.heap.size + 1 < W1.heap.size) (u0 u1 u2 : Value) : OutM W (((W2.setCell ⟨W.heap.size + 1, 0, none⟩ u0).setCell ⟨W.heap.size + 1, 1, none⟩ u1).setCell ⟨W.heap.size + 1, 2, none⟩ u2) n s v := by
  have e1 : (W.alloc p).heap.size = W.heap.size + 1 := by simp
  have q := OutM.boxed (W := W.alloc p) h (by rw [e1]; exact hb) (by rw [e1]; exact hl) u0 u1 u2
  rw [e1] at q
  exact q.lower ((Below.refl _ _).alloc (Nat.le_refl _) _)
theorem box_zero1 {w1 : World} {g : Nat} (h : w1.rowIs g 25 3 (rowF [.slice none 0 0, .slice none 0 0, .bool false])) : (w1.cell? ⟨g, 0, none⟩ = some (.slice none 0 0) ∧ w1.cell? ⟨g, 1, none⟩ = some (.slice none 0 0) ∧ w1.cell? ⟨g, 2, none⟩ = some (.bool false)) ∧ w1.frozen? ⟨g, 0, none⟩ = false ∧ w1.frozen? ⟨g, 1, none⟩ = false ∧ w1.frozen? ⟨g, 2, none⟩ = false ∧ g < w1.heap.size := ⟨⟨h.cell (i := 0) (by decide), h.cell (i := 1) (by decide), h.cell (i := 2) (by decide)⟩, h.frozen 0, h.frozen 1, h.frozen 2, h.lt⟩
set_option maxHeartbeats 4000000 in
theorem impl_finishmark (a : Option Addr) (n cap : Nat) (ra : Option Addr) (rl rc : Nat) (on : Bool) (cs : Nat → Dv) (rs : List Int) (c : Bool) (W : World) (hf : Hid (Fits shCellS (.l n 3 cs))) (hs : Hid (szD (.l n 3 cs) ≤ 1048576)) (h : Hid (Holds W c (.l n 3 cs) (.slice a n cap))) (hzr : Hid (rs.length = rl)) (hrl : rl ≤ 1048576) (Ir : Hid (Ints W ra rs)) :
    Calls Try.prog 29 #[.agg #[.slice a n cap, .slice ra rl rc, .bool on]] W fun e W' => FinAns cs n rs on W e W' := by
  obtain ⟨X, hX⟩ : ∃ X, Hid ((W.alloc (.cells #[.slice a n cap, .slice ra rl rc, .bool on] 25)).alloc (.cells #[.slice none 0 0, .slice none 0 0, .bool false] 25) = X) := ⟨_, rfl⟩
  have HX : Hid (Below W.heap.size W X) := by show Below _ _ _; rw [← hX.out]; exact ((Below.refl _ _).alloc (Nat.le_refl _) _).alloc (by simp) _
  have e1 : (W.alloc (.cells #[.slice a n cap, .slice ra rl rc, .bool on] 25)).heap.size = W.heap.size + 1 := by simp
  have hRX := (row_of W #[.slice a n cap, .slice ra rl rc, .bool on] 25).alloc (.cells #[.slice none 0 0, .slice none 0 0, .bool false] 25)
  have hZX := row_of (W.alloc (.cells #[.slice a n cap, .slice ra rl rc, .bool on] 25)) #[.slice none 0 0, .slice none 0 0, .bool false] 25
  rw [hX.out] at hRX
  rw [e1, hX.out] at hZX
  have HZX : Hid (X.rowIs (W.heap.size + 1) 25 3 (rowF [.slice none 0 0, .slice none 0 0, .bool false])) := hZX
  have r0 : X.cell? ⟨W.heap.size, 0, none⟩ = some (.slice a n cap) := hRX.cell (i := 0) (by show 0 < 3; decide)
  have r1 : X.cell? ⟨W.heap.size, 1, none⟩ = some (.slice ra rl rc) := hRX.cell (i := 1) (by show 1 < 3; decide)
  have r2 : X.cell? ⟨W.heap.size, 2, none⟩ = some (.bool on) := hRX.cell (i := 2) (by show 2 < 3; decide)
  have rl0 := hRX.lt
  have hc := impl_mrun a n cap ra rl rc on cs rs c X hf hs (h.out.kept HX.out) hzr hrl (Ir.out.kept HX.out)
  have HXP : Hid (Below (W.heap.size + 1) (W.alloc (.cells #[.slice a n cap, .slice ra rl rc, .bool on] 25)) X) := by
    show Below _ _ _
    rw [← hX.out, ← e1]
    exact (Below.refl _ _).alloc (Nat.le_refl _) _
  clear hRX hZX e1
  cases hb : markB cs n rs on
  · go_enter Try.func29, Try.ntmps29
    go_wp2_with fail
    rw [hX.out]
    go_wp2_with fail
    refine hc.mono ?_
    rintro e w1 ⟨v, rfl, hB, -⟩
    have Z1 : Hid (w1.rowIs (W.heap.size + 1) 25 3 (rowF [.slice none 0 0, .slice none 0 0, .bool false])) := HZX.out.of_block (hB.block _ HZX.out.lt)
    have HB0 : Hid (markB cs n rs on = false) := hb
    have HA : Hid (∀ u0 u1 u2, FinAns cs n rs on W (.returned (.tuple #[.agg #[.slice none 0 0, .slice none 0 0, .bool false], .int .i64 0, .bool false])) (((w1.setCell ⟨W.heap.size + 1, 0, none⟩ u0).setCell ⟨W.heap.size + 1, 1, none⟩ u1).setCell ⟨W.heap.size + 1, 2, none⟩ u2)) := fun u0 u1 u2 => Or.inl ⟨HB0.out, rfl, by
      iterate 3 refine Below.setCell ?_ (by show W.heap.size ≤ W.heap.size + 1; omega) _
      exact HX.out.trans (hB.mono HX.out.size)⟩
    rw [hb]
    obtain ⟨⟨z0, z1, z2⟩, f0, f1, f2, zl⟩ := box_zero1 Z1.out
    clear hB hc r0 r1 r2 rl0 hb Z1 HX HZX HXP hX
    go_wp2
    exact bodyPost_ret (v := .tuple #[.agg #[.slice none 0 0, .slice none 0 0, .bool false], .int .i64 0, .bool false]) (by simp only [results, Try.results29]; go_simp) rfl (HA.out _ _ _)
  have HB0 : Hid (MarkOk cs n rs on) := mark_out hb
  have hn10 : n ≤ 10 := HB0.out.2.2.1.2
  have hn2 : 2 ≤ n := HB0.out.2.2.1.1
  have HLW : Hid (LeadsW (stM cs rs on) n) := by
    have q := mark_eq (on := on) HB0.out.2.2.1 HB0.out.1 HB0.out.2.1
    rw [mark_yes HB0.out] at q
    by_cases r : LeadsW (stM cs rs on) n
    · exact r
    · rw [decide_eq_false r] at q; cases q
  have HBT : Hid (markB cs n rs on = true) := hb
  go_enter Try.func29, Try.ntmps29
  go_wp2_with fail
  rw [hX.out]
  go_wp2_with fail
  refine hc.mono ?_
  rintro e w1 ⟨v, rfl, hB, hM⟩
  obtain ⟨rp, cp, op, c1, c2, rfl, hR⟩ := hM hb
  rw [hb]
  have HP1 : Hid (Below (W.heap.size + 1) (W.alloc (.cells #[.slice a n cap, .slice ra rl rc, .bool on] 25)) w1) := HXP.out.trans (hB.mono (by have := HZX.out.lt; omega))
  have Z1 : Hid (w1.rowIs (W.heap.size + 1) 25 3 (rowF [.slice none 0 0, .slice none 0 0, .bool false])) := HZX.out.of_block (hB.block _ HZX.out.lt)
  have HR1 : Hid (RunM w1 X.heap.size rp cp op n c1 c2 (stM cs rs on)) := hR
  have XL : Hid (W.heap.size + 1 < X.heap.size) := HZX.out.lt
  clear hB hM hR hc r0 r1 r2 rl0 hb hX HX HZX HXP
  have hfi := impl_finish X.heap.size rp cp op n c1 c2 (stM cs rs on) w1 (by omega) hn10 HR1 HLW
  go_wp2_with fail
  refine hfi.mono ?_
  rintro e w2 ⟨rfl, hR2, hO2⟩
  have HNE : ∀ x, ofM rp cp op x → X.heap.size ≤ x := fun x q => by
    have := HR1.out.low
    rcases q with r | r | r <;> omega
  have Z2 : Hid (w2.rowIs (W.heap.size + 1) 25 3 (rowF [.slice none 0 0, .slice none 0 0, .bool false])) := Z1.out.of_block (hO2.block _ Z1.out.lt (fun q => by have := HNE _ q; have := XL.out; omega))
  have HP2 : Hid (Below (W.heap.size + 1) (W.alloc (.cells #[.slice a n cap, .slice ra rl rc, .bool on] 25)) w2) := HP1.out.trans (hO2.below (by have := Z1.out.lt; omega) (fun x q => by have := HNE x q; have := XL.out; omega))
  obtain ⟨fs, HFS⟩ : ∃ fs, Hid (finishS (stM cs rs on) n = fs) := ⟨_, rfl⟩
  rw [HFS.out] at hR2 ⊢
  have hmk := impl_marker X.heap.size rp cp op n c1 c2 (sweepS fs.1 n) w2 hn2 hn10 hR2
  clear hR2 hO2 hfi HNE Z1 HP1 HR1
  go_wp2_with fail
  refine hmk.mono ?_
  rintro e w3 ⟨v, rfl, hO⟩
  obtain ⟨g0, d0, g1, d1, F0, F1, rfl, o0, l0, o1, l1, dd, b⟩ := hO
  have Z3 : Hid (w3.rowIs (W.heap.size + 1) 25 3 (rowF [.slice none 0 0, .slice none 0 0, .bool false])) := Z2.out.of_block (b.block _ Z2.out.lt)
  have HO : Hid (OutM w2 w3 n (sweepS fs.1 n) (.agg #[.slice g0 n d0, .slice g1 2 d1, .bool false])) := ⟨g0, d0, g1, d1, F0, F1, rfl, o0, l0, o1, l1, dd, b⟩
  have HA : Hid (∀ u0 u1 u2, FinAns cs n rs on W (.returned (.tuple #[.agg #[.slice g0 n d0, .slice g1 2 d1, .bool false], .int .i64 (fs.2 : Int), .bool true])) (((w3.setCell ⟨W.heap.size + 1, 0, none⟩ u0).setCell ⟨W.heap.size + 1, 1, none⟩ u1).setCell ⟨W.heap.size + 1, 2, none⟩ u2)) := fun u0 u1 u2 => Or.inr ⟨HBT.out, _, by rw [HFS.out], by rw [HFS.out]; exact HO.out.boxed2 HP2.out Z2.out.lt u0 u1 u2⟩
  have hon : (sweepS fs.1 n).on = false := rfl
  rw [hon]
  obtain ⟨⟨z0, z1, z2⟩, f0, f1, f2, zl⟩ := box_zero1 Z3.out
  clear o0 l0 o1 l1 dd b hmk HO Z2 Z3 HP2 HFS
  generalize fs.2 = k at HA ⊢
  go_wp2
  exact bodyPost_ret (v := .tuple #[.agg #[.slice g0 n d0, .slice g1 2 d1, .bool false], .int .i64 (k : Int), .bool true]) (by simp only [results, Try.results29]; go_simp) rfl (HA.out _ _ _)
end Go.Proofs.Ytokaibpkajloeaa.walks
