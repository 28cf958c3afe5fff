/-
  What the program's runOf answers, at every flow, every list of words and every fuel.
-/
import Derived.Test.YtgknofbkdgbokaaProg
import Derived.Test.YtgknofbkdgbokaaRunImpl
import Derived.Test.YtgknofbkdgbokaaFlowRun
import Derived.Test.YtgknofbkdgbokaaFlowBlocks
import Derived.Test.YtgknofbkdgbokaaSpecPath
import Derived.Test.YtgknofbkdgbokaaGoThrough
import Derived.WalkKit
import Derived.WalkSpells
import Derived.Below
import Derived.Handy
import Derived.Laws.Cover3
import Derived.Deep.LoopGhost
namespace Go.Proofs.Ytgknofbkdgbokaa.walks
open Go.RowKit Go.Proofs.Ytgknofbkdgbokaa.math Go.Proofs.Ytgknofbkdgbokaa.ints
set_option linter.unusedVariables false
set_option linter.unusedSimpArgs false

theorem flow_start (W : World) (ws : List Int) (t : TypeId) (x0 x1 x2 x3 x4 x5 x6 x7 : Int) (h0 : x0 = ws.getD 0 0) (h1 : x1 = ws.getD 1 0) (h2 : x2 = ws.getD 2 0) (h3 : x3 = ws.getD 3 0) (h4 : x4 = ws.getD 4 0) (h5 : x5 = ws.getD 5 0) (h6 : x6 = ws.getD 6 0) (h7 : x7 = ws.getD 7 0) : FlowAt (W.alloc (.cells #[.int .i64 x0, .int .i64 x1, .int .i64 x2, .int .i64 x3, .int .i64 x4, .int .i64 x5, .int .i64 x6, .int .i64 x7, .slice none 0 0, .slice none 0 0, .int .i64 0] t)) W.heap.size W.heap.size ⟨[], ws, [], 0⟩ (.slice none 0 0) (.slice none 0 0) := by
  subst h0 h1 h2 h3 h4 h5 h6 h7
  refine ⟨⟨Nat.le_refl _, by simp, fun i hi => ?_, fun i hi => ?_, by simp, own_nil _ _, by simp [Value.ownBlock]⟩, by simp, ?_, by simp, ?_, own_nil _ _, by simp [Value.ownBlock], Or.inl rfl⟩
  · rw [World.cell?_alloc_new]
    match i, hi with
    | 0, _ => rfl
    | 1, _ => rfl
    | 2, _ => rfl
    | 3, _ => rfl
    | 4, _ => rfl
    | 5, _ => rfl
    | 6, _ => rfl
    | 7, _ => rfl
  all_goals simp
theorem goR_at {f : Nat → Bv} {s : Rs} {j tn : Nat} (e : (j : Int) = s.next) (et : (f j).t = (tn : Int)) : goR f s = ⟨s.told ++ toldTo (f j).zs s.ws (f j).len, runW (f j).zs s.ws (f j).len, s.path ++ [(j : Int)], if (runW (f j).zs s.ws (f j).len).getD tn 0 = 0 then (f j).el else (f j).th⟩ := by
  simp only [goR, ← e, Int.toNat_natCast, et]
theorem fuel_quiet {x : Int} {b : Bool} (h : inR x 0 300 = b) (W : World) : Calls Try.prog 32 #[.int .i64 x] W fun e W' => e = .returned (.bool b) ∧ W' = W := by
  subst h
  by_cases h0 : 0 ≤ x
  rotate_left
  · have k0 : x < 0 := by omega
    have d0 : decide (x ≥ 0) = false := decide_eq_false h0
    rw [inR_lt k0]
    clear h0
    go_enter Try.func32, Try.ntmps32
    go_wp2
    go_ret
    exact ⟨rfl, rfl⟩
  by_cases h1 : x ≤ 300
  rotate_left
  · have k1 : 300 < x := by omega
    have d1 : decide (x ≤ 300) = false := decide_eq_false (by omega)
    rw [inR_gt k1]
    clear h1
    go_enter Try.func32, Try.ntmps32
    go_wp2
    go_ret
    exact ⟨rfl, rfl⟩
  rw [inR_mk h0 h1]
  have d1 : decide (x ≤ 300) = true := decide_eq_true (by omega)
  have d0 : decide (x ≥ 0) = true := decide_eq_true h0
  go_enter Try.func32, Try.ntmps32
  go_wp2
  go_ret
  exact ⟨rfl, rfl⟩
/-- What runOf answers. -/
def RunOfAns (f : Nat → Bv) (n : Nat) (ws : List Int) (fuel : Int) (W : World) (e : Ending) (W' : World) : Prop :=
  (okRun f n ws fuel = true ∧ ∃ B g k vt vp, e = .returned (.tuple #[.pointer (some ⟨g, 0, none⟩), .bool true]) ∧ Stands f ws fuel.toNat k ∧ W.heap.size ≤ B ∧ FlowAt W' B g (flowTo f ws k) vt vp ∧ Below W.heap.size W W') ∨ (okRun f n ws fuel = false ∧ e = .returned (.tuple #[.pointer none, .bool false]) ∧ Below W.heap.size W W')
set_option maxRecDepth 100000 in
set_option maxHeartbeats 8000000 in
theorem impl_runof (a v : Option Addr) (n cap lv cv : Nat) (f : Nat → Bv) (ws : List Int) (fuel : Int) (W : World) (hn : n ≤ 1048576) (hlen : Hid (∀ k, k < n → (f k).len ≤ 1048576)) (h : Hid (Flow W a n f)) (hz' : Hid (ws.length = lv)) (hlv : lv ≤ 1048576) (h' : Hid (Ints W v ws)) :
    Calls Try.prog 51 #[.slice a n cap, .slice v lv cv, .int .i64 fuel] W fun e W' => RunOfAns f n ws fuel W e W' := by
  have qa : ∀ (x : Option Addr) (c : Nat) (w : World), (Instr.arrayAt 61 (.slice x 8 c)).run Try.prog w = .ok (.pointer x) w := fun x c w => run_arrayAt w _ _ 8 x 8 c Try.underlying61 (by omega)
  go_enter Try.func51, Try.ntmps51
  go_wp2_with fail
  refine (impl_blocks2 a n cap f W hn hlen h).mono ?_
  rintro e w1 ⟨⟨hf, b, bc, A, S, rfl, hbl, hbc, hS⟩ | ⟨hf, rfl⟩, hb⟩
  rotate_left
  · have HA : Hid (RunOfAns f n ws fuel W (.returned (.tuple #[.pointer none, .bool false])) w1) := Or.inr ⟨by simp [okRun, hf], rfl, hb⟩
    clear hb hf
    go_wp2
    go_ret2
    exact HA.out
  have HC : Hid (∀ i, i < n * 5 → w1.cell? ⟨b, i, none⟩ = some (cell5 A S f i)) := hbc
  have HS : Hid (∀ j, j < n → Steps w1 (S j).1 (f j).zs (f j).len) := hS
  have HB : Hid (Below W.heap.size W w1) := hb
  have HF : Hid (flowB f n = true) := hf
  clear hbc hS hb hf
  cases hw : wordsB ws
  · have HA : Hid (RunOfAns f n ws fuel W (.returned (.tuple #[.pointer none, .bool false])) w1) := Or.inr ⟨by simp [okRun, hw], rfl, HB.out⟩
    go_wp2_with (go_at_call 65; refine (impl_words _ _ _ ws _ hz' hlv (h'.out.kept HB.out)).mono ?_; rw [hw]; rintro e w' ⟨rfl, rfl⟩)
    go_ret2
    exact HA.out
  have HI : Hid (Ints w1 v ws) := h'.out.kept HB.out
  have HW : Hid (wordsB ws = true) := hw
  by_cases h0 : fuel < 0
  · have hfq : inR fuel 0 300 = false := inR_lt h0
    have HA : Hid (RunOfAns f n ws fuel W (.returned (.tuple #[.pointer none, .bool false])) w1) := Or.inr ⟨by simp [okRun, inR]; intros; omega, rfl, HB.out⟩
    go_wp2_with (first | (go_at_call 65; refine (impl_words _ _ _ ws _ hz' hlv HI).mono ?_; rw [HW.out]; rintro e w' ⟨rfl, hw'⟩; rw [hw']; clear hw' w') | (go_at_call 32; refine (fuel_quiet hfq _).mono ?_; rintro e w' ⟨rfl, hw'⟩; rw [hw']; clear hw' w'))
    go_ret2
    exact HA.out
  by_cases h3 : 300 < fuel
  · have hfq : inR fuel 0 300 = false := inR_gt h3
    have HA : Hid (RunOfAns f n ws fuel W (.returned (.tuple #[.pointer none, .bool false])) w1) := Or.inr ⟨by simp [okRun, inR]; intros; omega, rfl, HB.out⟩
    go_wp2_with (first | (go_at_call 65; refine (impl_words _ _ _ ws _ hz' hlv HI).mono ?_; rw [HW.out]; rintro e w' ⟨rfl, hw'⟩; rw [hw']; clear hw' w') | (go_at_call 32; refine (fuel_quiet hfq _).mono ?_; rintro e w' ⟨rfl, hw'⟩; rw [hw']; clear hw' w'))
    go_ret2
    exact HA.out
  obtain ⟨h8, _⟩ := words_out hw
  have e8 : lv = 8 := by rw [← hz'.out]; exact h8
  subst e8
  obtain ⟨fu, rfl⟩ := Int.eq_ofNat_of_zero_le (show 0 ≤ fuel by omega)
  have hfu : fu ≤ 300 := by omega
  have hfq : inR (fu : Int) 0 300 = true := inR_mk (by omega) (by omega)
  have HO : Hid (okRun f n ws (fu : Int) = true) := by
    show _ = true
    simp [okRun, inR, HF.out, HW.out]; omega
  clear h0 h3
  obtain ⟨vb, vo, rfl, hvb, hv⟩ := eight h8 HI.out
  obtain ⟨x0, v0, X0⟩ : ∃ x : Int, w1.cell? ⟨vb, vo, none⟩ = some (.int .i64 x) ∧ Hid (x = ws.getD 0 0) := ⟨_, hv 0 (by omega), rfl⟩
  obtain ⟨x1, v1, X1⟩ : ∃ x : Int, w1.cell? ⟨vb, vo + 1, none⟩ = some (.int .i64 x) ∧ Hid (x = ws.getD 1 0) := ⟨_, hv 1 (by omega), rfl⟩
  obtain ⟨x2, v2, X2⟩ : ∃ x : Int, w1.cell? ⟨vb, vo + 2, none⟩ = some (.int .i64 x) ∧ Hid (x = ws.getD 2 0) := ⟨_, hv 2 (by omega), rfl⟩
  obtain ⟨x3, v3, X3⟩ : ∃ x : Int, w1.cell? ⟨vb, vo + 3, none⟩ = some (.int .i64 x) ∧ Hid (x = ws.getD 3 0) := ⟨_, hv 3 (by omega), rfl⟩
  obtain ⟨x4, v4, X4⟩ : ∃ x : Int, w1.cell? ⟨vb, vo + 4, none⟩ = some (.int .i64 x) ∧ Hid (x = ws.getD 4 0) := ⟨_, hv 4 (by omega), rfl⟩
  obtain ⟨x5, v5, X5⟩ : ∃ x : Int, w1.cell? ⟨vb, vo + 5, none⟩ = some (.int .i64 x) ∧ Hid (x = ws.getD 5 0) := ⟨_, hv 5 (by omega), rfl⟩
  obtain ⟨x6, v6, X6⟩ : ∃ x : Int, w1.cell? ⟨vb, vo + 6, none⟩ = some (.int .i64 x) ∧ Hid (x = ws.getD 6 0) := ⟨_, hv 6 (by omega), rfl⟩
  obtain ⟨x7, v7, X7⟩ : ∃ x : Int, w1.cell? ⟨vb, vo + 7, none⟩ = some (.int .i64 x) ∧ Hid (x = ws.getD 7 0) := ⟨_, hv 7 (by omega), rfl⟩
  clear hv h8 hw
  go_wp2_with (first | (go_at_call 65; refine (impl_words _ _ _ ws _ hz' hlv HI).mono ?_; rw [HW.out]; rintro e w' ⟨rfl, hw'⟩; rw [hw']; clear hw' w') | (go_at_call 32; refine (fuel_quiet hfq _).mono ?_; rintro e w' ⟨rfl, hw'⟩; rw [hw']; clear hw' w'))
  clear qa hfq v0 v1 v2 v3 v4 v5 v6 v7
  have F0 : Hid (FlowAt _ w1.heap.size w1.heap.size (flowTo f ws 0) (.slice none 0 0) (.slice none 0 0)) := flow_start w1 ws 89 _ _ _ _ _ _ _ _ X0.out X1.out X2.out X3.out X4.out X5.out X6.out X7.out
  go_loopg [] fu (fun gk wr => ∃ (k : Nat) (vt vp : Value), k + gk = fu ∧ Hid (Alive f ws k) ∧ Hid (FlowAt wr w1.heap.size w1.heap.size (flowTo f ws k) vt vp) ∧ Hid (Below w1.heap.size w1 wr))
  case atStart => exact ⟨0, _, _, by omega, fun j hj => absurd hj (by omega), F0, by show Below _ _ _; go_grown⟩
  case round =>
    clear F0 X0 X1 X2 X3 X4 X5 X6 X7
    obtain ⟨k, vt, vp, hk, HA, HR, HK⟩ := hrel
    obtain ⟨pa, pc, hvp, _⟩ := HR.out.path.mine
    rw [path_len] at hvp
    subst hvp
    obtain ⟨i1, i2, i3⟩ := flow_inv HF.out HW.out k HA.out
    obtain ⟨x, hx, EX⟩ : ∃ x : Int, wr.cell? ⟨w1.heap.size, 10, none⟩ = some (.int .i64 x) ∧ Hid (x = (flowTo f ws k).next) := ⟨_, HR.out.c10, rfl⟩
    rw [← EX.out] at i2
    have hp := HR.out.c9
    have I1 : Hid (wordsB (flowTo f ws k).ws = true) := i1
    have I3 : Hid ((flowTo f ws k).told.length ≤ 30 * k) := i3
    clear i1 i3
    by_cases hs : x = -1 ∨ k = fu
    · have HQ : Hid (RunOfAns f n ws (fu : Int) W (.returned (.tuple #[.pointer (some ⟨w1.heap.size, 0, none⟩), .bool true])) wr) := Or.inl ⟨HO.out, _, _, k, _, _, rfl, ⟨HA.out, by simp; omega, by rw [← EX.out]; rcases hs with e | e; exact Or.inl (by omega); exact Or.inr (by simpa using e)⟩, HB.out.size, HR.out, HB.out.trans (HK.out.mono HB.out.size)⟩
      by_cases hx1 : x = -1
      · subst hx1
        go_wp2
        go_ret2
        exact HQ.out
      · have hk2 : k = fu := by omega
        subst hk2
        go_wp2
        go_ret2
        exact HQ.out
    · have hx0 : x ≠ -1 := fun e => hs (Or.inl e)
      have hkf : k < fu := by omega
      clear hs
      obtain ⟨j, rfl⟩ := Int.eq_ofNat_of_zero_le (show 0 ≤ x by omega)
      have hj : j < n := by omega
      obtain ⟨hc, ht, _, _⟩ := block_out ((flow_out HF.out).2 j hj)
      obtain ⟨tn, htn⟩ : ∃ tn : Nat, (f j).t = (tn : Int) := Int.eq_ofNat_of_zero_le (by omega)
      have ht8 : tn < 8 := by omega
      have HT : Hid ((f j).t = (tn : Int)) := htn
      have HC1 : Hid (codeB (f j).zs (f j).len = true) := hc
      have K : ∀ i, i < 5 → wr.cell? ⟨b, j * 5 + i, none⟩ = some (cell5 A S f (j * 5 + i)) := fun i hi => (HK.out.cell (p := ⟨b, j * 5 + i, none⟩) hbl).trans (HC.out _ (by omega))
      obtain ⟨aa, la, ca, c0, E0⟩ : ∃ aa la ca, wr.cell? ⟨b, j * 5, none⟩ = some (.slice aa la ca) ∧ Hid (la = (f j).len) := ⟨_, _, _, by have := K 0 (by omega); rw [Nat.add_zero, cell5_0] at this; exact this, rfl⟩
      have c1 : wr.cell? ⟨b, j * 5 + 1, none⟩ = some (.int .i64 (tn : Int)) := by rw [K 1 (by omega), cell5_1, htn]
      obtain ⟨th, c2, E2⟩ : ∃ th, wr.cell? ⟨b, j * 5 + 2, none⟩ = some (.int .i64 th) ∧ Hid (th = (f j).th) := ⟨_, by rw [K 2 (by omega), cell5_2], rfl⟩
      obtain ⟨el, c3, E3⟩ : ∃ el, wr.cell? ⟨b, j * 5 + 3, none⟩ = some (.int .i64 el) ∧ Hid (el = (f j).el) := ⟨_, by rw [K 3 (by omega), cell5_3], rfl⟩
      obtain ⟨sa, sc, c4, E4⟩ : ∃ sa sc, wr.cell? ⟨b, j * 5 + 4, none⟩ = some (.slice sa la sc) ∧ Hid (sa = (S j).1) := ⟨_, _, by rw [K 4 (by omega), cell5_4, E0.out], rfl⟩
      have HST : Hid (Steps w1 sa (f j).zs la) := by show Steps _ _ _ _; rw [E4.out, E0.out]; exact HS.out j hj
      have HLO : Hid (la ≠ 0 → ∀ b o, sa = some ⟨b, o, none⟩ → b < w1.heap.size) := by
        intro h0 b o e
        rcases HST.out with q | ⟨b', q, hl, _⟩
        · exact absurd q h0
        · rw [e] at q; cases q; exact hl
      have HC2 : Hid (codeB (f j).zs la = true) := by show _ = true; rw [E0.out]; exact hc
      have HPL : Hid ((flowTo f ws k).path.length ≤ 1000) := by show _ ≤ _; rw [path_len]; omega
      have HTL : Hid ((flowTo f ws k).told.length ≤ 90000) := by have := I3.out; show _ ≤ _; omega
      have HA' : Hid (Alive f ws (k + 1)) := by
        intro i hi
        rcases Nat.lt_succ_iff_lt_or_eq.1 hi with q | q
        · exact HA.out i q
        · subst q; rw [← EX.out]; omega
      clear K hc ht htn
      go_wp2_with (go_at_call 66; refine (impl_go aa sa la ca sc tn th el (j : Int) (f j).zs w1.heap.size w1.heap.size (flowTo f ws k) vt _ _ EX HC2 I1 ht8 HR (HST.out.kept HK.out) HLO HPL HTL).mono ?_; rintro e w' ⟨rfl, vt', vp', q0, q1⟩; have Q0 : Hid (FlowAt w' w1.heap.size w1.heap.size (flowTo f ws (k + 1)) vt' vp') := (by show FlowAt _ _ _ _ _ _; rw [show flowTo f ws (k + 1) = goR f (flowTo f ws k) from rfl, goR_at EX.out HT.out, ← E0.out, ← E2.out, ← E3.out]; exact q0); have Q1 : Hid (Below w1.heap.size w1 w') := HK.out.trans q1; clear q0 q1)
      go_roundg (gk - 1)
      case rel => exact ⟨k + 1, vt', vp', by omega, HA', Q0, Q1⟩
      case measure => omega
end Go.Proofs.Ytgknofbkdgbokaa.walks
