/-
  What the program asks of a marker at work: isCell, isTaken, leadToTaken, leadsWell, hidesNothing, isColoredWell.
-/
import Derived.Test.YtokaibpkajloeaaProg
import Derived.Test.YtokaibpkajloeaaInts
import Derived.Test.YtokaibpkajloeaaDeep
import Derived.Test.YtokaibpkajloeaaDeepRow
import Derived.Test.YtokaibpkajloeaaMarkMath
import Derived.Test.YtokaibpkajloeaaMarkWell
import Derived.Test.YtokaibpkajloeaaMarkRun
import Derived.Test.YtokaibpkajloeaaNewRun
import Derived.WalkKit
import Derived.WalkSpells
import Derived.Below
import Derived.Handy
import Derived.OwnWalk
import Derived.ChangeKeysEq
import Derived.Laws.StructEq
import Derived.Deep.OwnRows
import Derived.Deep.RegionWith
import Derived.Deep.QuietTactic
import Derived.BigQuiet
import Derived.Deep.RegionHeld3
import Derived.Deep.DeepCutAuto
namespace Go.Proofs.Ytokaibpkajloeaa.walks
open Go.RowKit Go.Proofs.Ytokaibpkajloeaa.math Go.Proofs.Ytokaibpkajloeaa.ints Go.Proofs.Ytokaibpkajloeaa.deep
set_option linter.unusedVariables false
set_option linter.unusedSimpArgs false
set_option maxRecDepth 100000

def leadB (s : Mst) (n : Nat) (f : Nat → Int) : Bool := cellB s.fr n (f 0) && cellB s.fr n (f 1)
def LeadsW (s : Mst) (n : Nat) : Prop := leadB s n s.rt = true ∧ ∀ k, k < n → (s.fr k = true → s.lk k 0 = -1 ∧ s.lk k 1 = -1) ∧ leadB s n (s.lk k) = true
def HidesW (s : Mst) (n : Nat) : Prop := (whiteB s (s.rt 0) || whiteB s (s.rt 1)) = false ∧ ∀ k, k < n → s.co k = 2 → (whiteB s (s.lk k 0) || whiteB s (s.lk k 1)) = false
def ColorW (s : Mst) (n : Nat) : Prop := (∀ k, k < n → (0 ≤ s.co k ∧ s.co k ≤ 2) ∧ (s.co k ≠ 0 → s.on = true ∧ s.fr k = false)) ∧ (s.on = true → HidesW s n)
noncomputable instance (s : Mst) (n : Nat) : Decidable (LeadsW s n) := Classical.propDecidable _
noncomputable instance (s : Mst) (n : Nat) : Decidable (HidesW s n) := Classical.propDecidable _
noncomputable instance (s : Mst) (n : Nat) : Decidable (ColorW s n) := Classical.propDecidable _
theorem lead_in {s : Mst} {n : Nat} {f : Nat → Int} (h : leadB s n f = true) : (f 0 = -1 ∨ ∃ k : Nat, f 0 = (k : Int) ∧ k < n) ∧ (f 1 = -1 ∨ ∃ k : Nat, f 1 = (k : Int) ∧ k < n) := by
  unfold leadB at h
  rw [Bool.and_eq_true] at h
  refine ⟨?_, ?_⟩
  · rcases cellB_out h.1 with q | ⟨k, q, hk, _⟩
    · exact Or.inl q
    · exact Or.inr ⟨k, q, hk⟩
  · rcases cellB_out h.2 with q | ⟨k, q, hk, _⟩
    · exact Or.inl q
    · exact Or.inr ⟨k, q, hk⟩
theorem isCell_eq (x : Int) (n : Nat) : decide (0 ≤ x ∧ x ≤ (n : Int) - 1) = (decide (0 ≤ x) && decide (x < (n : Int))) := by
  by_cases h0 : 0 ≤ x <;> by_cases h1 : x < (n : Int)
  · rw [decide_eq_true h0, decide_eq_true h1, decide_eq_true ⟨h0, by omega⟩]; rfl
  · rw [decide_eq_true h0, decide_eq_false h1, decide_eq_false (by omega)]; rfl
  · rw [decide_eq_false h0, decide_eq_false (fun q => h0 q.1)]; rfl
  · rw [decide_eq_false h0, decide_eq_false (fun q => h0 q.1)]; rfl
theorem impl_iscell (B rp cp op n c1 c2 : Nat) (s : Mst) (x : Int) (W : World) (hn : n ≤ 10) (h : Hid (RunM W B rp cp op n c1 c2 s)) :
    Calls Try.prog 84 #[.pointer (some ⟨rp, 0, none⟩), .int .i64 x] W fun e W' => e = .returned (.bool (decide (0 ≤ x) && decide (x < (n : Int)))) ∧ W' = W := by
  have hb := betweenM (n := x) (lo := 0) (hi := (n : Int) - 1) (isCell_eq x n) W
  generalize (decide (0 ≤ x) && decide (x < (n : Int))) = R at hb ⊢
  have r0 : W.cell? ⟨rp, 0, none⟩ = some (.slice (some ⟨cp, 0, none⟩) n c1) := h.out.row.cell (i := 0) (by decide)
  have rl := h.out.row.lt
  have hwr : IntKind.i64.wrap ((n : Int) - 1) = (n : Int) - 1 := Go.IntWalk.i64_in _ (by omega)
  go_enter Try.func84, Try.ntmps84
  go_wp2_with fail
  refine hb.mono ?_
  rintro e w' ⟨rfl, hw⟩
  rw [hw]
  clear hw w'
  go_wp2
  go_ret
  exact ⟨rfl, rfl⟩
theorem impl_istaken (B rp cp op n c1 c2 : Nat) (s : Mst) (x : Int) (W : World) (hn : n ≤ 10) (h : Hid (RunM W B rp cp op n c1 c2 s)) :
    Calls Try.prog 91 #[.pointer (some ⟨rp, 0, none⟩), .int .i64 x] W fun e W' => e = .returned (.bool (takB s.fr n x)) ∧ W' = W := by
  have hc := impl_iscell B rp cp op n c1 c2 s x W hn h
  by_cases hx : 0 ≤ x ∧ x < (n : Int)
  rotate_left
  · have e1 : (decide (0 ≤ x) && decide (x < (n : Int))) = false := by
      by_cases h0 : 0 ≤ x
      · rw [decide_eq_false (show ¬ x < (n : Int) from fun q => hx ⟨h0, q⟩), Bool.and_false]
      · rw [decide_eq_false h0]; rfl
    have HE : Hid (takB s.fr n x = false) := by show _ = _; unfold takB; rw [e1]; rfl
    rw [HE.out]
    rw [e1] at hc
    go_enter Try.func91, Try.ntmps91
    go_wp2_with (go_at_call 84; refine hc.mono ?_; rintro e w' ⟨rfl, hw⟩; rw [hw]; clear hw w')
    go_ret
    exact ⟨rfl, rfl⟩
  obtain ⟨k, rfl⟩ : ∃ k : Nat, x = (k : Int) := ⟨x.toNat, by omega⟩
  have hk : k < n := by omega
  have e1 : (decide (0 ≤ (k : Int)) && decide ((k : Int) < (n : Int))) = true := by rw [decide_eq_true hx.1, decide_eq_true hx.2]; rfl
  have HE : Hid (takB s.fr n (k : Int) = !(s.fr k)) := by show _ = _; unfold takB; rw [e1, Int.toNat_natCast]; rfl
  rw [HE.out]
  rw [e1] at hc
  obtain ⟨c0, c1', c2'⟩ := h.out.cell hk
  have cl := h.out.cells.1
  have r0 : W.cell? ⟨rp, 0, none⟩ = some (.slice (some ⟨cp, 0, none⟩) n c1) := h.out.row.cell (i := 0) (by decide)
  have rl := h.out.row.lt
  have k0 : (0 : Int) ≤ (k : Int) := by omega
  have k1 : (k : Int) < (n : Int) := by omega
  generalize s.lk k 0 = y0 at c0
  generalize s.lk k 1 = y1 at c1'
  generalize s.fr k = z at c2' ⊢
  clear HE e1 hx
  go_enter Try.func91, Try.ntmps91
  go_wp2_with (go_at_call 84; refine hc.mono ?_; rintro e w' ⟨rfl, hw⟩; rw [hw]; clear hw w')
  go_ret
  exact ⟨rfl, rfl⟩
set_option maxHeartbeats 4000000 in
theorem impl_leadto (B rp cp op n c1 c2 : Nat) (s : Mst) (f : Nat → Int) (W : World) (hn : n ≤ 10) (h : Hid (RunM W B rp cp op n c1 c2 s)) :
    Calls Try.prog 82 #[.pointer (some ⟨rp, 0, none⟩), .agg #[.int .i64 (f 0), .int .i64 (f 1)]] W fun e W' => e = .returned (.bool (leadB s n f)) ∧ Below W.heap.size W W' := by
  obtain ⟨X, hX⟩ : ∃ X, Hid (W.alloc (.cells #[.int .i64 (f 0), .int .i64 (f 1)] 72) = X) := ⟨_, rfl⟩
  have HX : Hid (Below W.heap.size W X) := by show Below _ _ _; rw [← hX.out]; exact (Below.refl _ _).alloc (Nat.le_refl _) _
  have RX := row_of W #[.int .i64 (f 0), .int .i64 (f 1)] 72
  rw [hX.out] at RX
  have HR : Hid (RunM X B rp cp op n c1 c2 s) := h.out.kept HX.out
  have c0 : X.cell? ⟨W.heap.size, 0, none⟩ = some (.int .i64 (f 0)) := RX.cell (i := 0) (by show 0 < 2; decide)
  have c1' : X.cell? ⟨W.heap.size, 1, none⟩ = some (.int .i64 (f 1)) := RX.cell (i := 1) (by show 1 < 2; decide)
  have RXl := RX.lt
  clear RX
  have ht0 := impl_istaken B rp cp op n c1 c2 s (f 0) X hn HR
  have ht1 := impl_istaken B rp cp op n c1 c2 s (f 1) X hn HR
  have HL0 : Hid (leadB s n f = ((decide (f 0 = -1) || takB s.fr n (f 0)) && (decide (f 1 = -1) || takB s.fr n (f 1)))) := rfl
  obtain ⟨R, HRR⟩ : ∃ R, Hid (leadB s n f = R) := ⟨_, rfl⟩
  rw [HRR.out] at HL0 ⊢
  clear HRR
  obtain ⟨t0, T0⟩ : ∃ t, Hid (takB s.fr n (f 0) = t) := ⟨_, rfl⟩
  obtain ⟨t1, T1⟩ : ∃ t, Hid (takB s.fr n (f 1) = t) := ⟨_, rfl⟩
  rw [T0.out] at ht0 HL0
  rw [T1.out] at ht1 HL0
  clear T0 T1
  generalize f 0 = x0 at *
  generalize f 1 = x1 at *
  obtain ⟨b0, HB0⟩ : ∃ b, Hid ((decide (x0 = -1) || t0) = b) := ⟨_, rfl⟩
  obtain ⟨b1, HB1⟩ : ∃ b, Hid ((decide (x1 = -1) || t1) = b) := ⟨_, rfl⟩
  rw [HB0.out, HB1.out] at HL0
  go_enter Try.func82, Try.ntmps82
  go_upto_region 1 with fail
  rw [hX.out]
  clear hX
  go_wp2
  have ix0 : ∀ w : World, (Instr.index 72 (.agg #[.int .i64 x0, .int .i64 x1]) (.int .i64 0)).run Try.prog w = .ok (.int .i64 x0) w := fun _ => by kernel_rfl
  have ix1 : ∀ w : World, (Instr.index 72 (.agg #[.int .i64 x0, .int .i64 x1]) (.int .i64 1)).run Try.prog w = .ok (.int .i64 x1) w := fun _ => by kernel_rfl
  go_loop [8] (fun vi => ∃ k : Nat, k ≤ 2 ∧ vi = .int .i64 (k : Int) ∧ Hid (0 < k → b0 = true) ∧ Hid (1 < k → b1 = true)) (fun vi => 2 - (intOf vi).toNat)
  case atStart => exact ⟨0, by omega, rfl, fun q => by omega, fun q => by omega⟩
  case round =>
    obtain ⟨k, hk, rfl, K0, K1⟩ := hrel
    rcases (show k = 0 ∨ k = 1 ∨ k = 2 by omega) with r | r | r
    · subst r
      by_cases e0 : x0 = -1
      · have HG : Hid ((decide (x0 = -1) || t0) = true) := by show _ = _; rw [decide_eq_true e0]; rfl
        have d0 : (x0 != -1) = false := by rw [e0]; rfl
        have d1 : (x0 == -1) = true := by rw [e0]; rfl
        have d2 : decide (x0 = -1) = true := decide_eq_true e0
        have N0 : Hid (0 < 1 → b0 = true) := fun _ => by rw [← HB0.out]; exact HG.out
        have N1 : Hid (1 < 1 → b1 = true) := fun q => by omega
        clear HG
        subst e0
        go_wp2
        go_round
        case rel => exact ⟨1, by omega, by go_num, (by first | exact N0 | exact fun _ => trivial), (by first | exact N1 | exact fun _ => trivial)⟩
        case measure => simp [intOf]
      have d0 : (x0 != -1) = true := by simpa using e0
      have d1 : (x0 == -1) = false := by simpa using e0
      have d2 : decide (x0 = -1) = false := decide_eq_false e0
      cases t0
      · have HE : Hid (R = false) := by show _ = _; rw [HL0.out, ← HB0.out, d2]; simp
        go_wp2_with (go_at_call 91; refine ht0.mono ?_; rintro e w' ⟨rfl, hw⟩; rw [hw]; clear hw w')
        go_ret
        exact ⟨by rw [HE.out]; rfl, HX.out⟩
      · have HG : Hid ((decide (x0 = -1) || true) = true) := by show _ = _; simp
        have N0 : Hid (0 < 1 → b0 = true) := fun _ => by rw [← HB0.out]; exact HG.out
        have N1 : Hid (1 < 1 → b1 = true) := fun q => by omega
        clear HG
        go_wp2_with (go_at_call 91; refine ht0.mono ?_; rintro e w' ⟨rfl, hw⟩; rw [hw]; clear hw w')
        go_round
        case rel => exact ⟨1, by omega, by go_num, (by first | exact N0 | exact fun _ => trivial), (by first | exact N1 | exact fun _ => trivial)⟩
        case measure => simp [intOf]
    · subst r
      have q0 := K0.out (by omega)
      by_cases e0 : x1 = -1
      · have HG : Hid ((decide (x1 = -1) || t1) = true) := by show _ = _; rw [decide_eq_true e0]; rfl
        have d0 : (x1 != -1) = false := by rw [e0]; rfl
        have d1 : (x1 == -1) = true := by rw [e0]; rfl
        have d2 : decide (x1 = -1) = true := decide_eq_true e0
        have N0 : Hid (0 < 2 → b0 = true) := fun _ => q0
        have N1 : Hid (1 < 2 → b1 = true) := fun _ => by rw [← HB1.out]; exact HG.out
        clear HG
        subst e0
        go_wp2
        go_round
        case rel => exact ⟨2, by omega, by go_num, (by first | exact N0 | exact fun _ => trivial), (by first | exact N1 | exact fun _ => trivial)⟩
        case measure => simp [intOf]
      have d0 : (x1 != -1) = true := by simpa using e0
      have d1 : (x1 == -1) = false := by simpa using e0
      have d2 : decide (x1 = -1) = false := decide_eq_false e0
      cases t1
      · have HE : Hid (R = false) := by show _ = _; rw [HL0.out, ← HB1.out, d2]; simp
        go_wp2_with (go_at_call 91; refine ht1.mono ?_; rintro e w' ⟨rfl, hw⟩; rw [hw]; clear hw w')
        go_ret
        exact ⟨by rw [HE.out]; rfl, HX.out⟩
      · have HG : Hid ((decide (x1 = -1) || true) = true) := by show _ = _; simp
        have N0 : Hid (0 < 2 → b0 = true) := fun _ => q0
        have N1 : Hid (1 < 2 → b1 = true) := fun _ => by rw [← HB1.out]; exact HG.out
        clear HG
        go_wp2_with (go_at_call 91; refine ht1.mono ?_; rintro e w' ⟨rfl, hw⟩; rw [hw]; clear hw w')
        go_round
        case rel => exact ⟨2, by omega, by go_num, (by first | exact N0 | exact fun _ => trivial), (by first | exact N1 | exact fun _ => trivial)⟩
        case measure => simp [intOf]
    · subst r
      have HE : Hid (R = true) := by show _ = _; rw [HL0.out, K0.out (by omega), K1.out (by omega)]; rfl
      go_wp2
      go_ret
      exact ⟨by rw [HE.out]; rfl, HX.out⟩
theorem part_end (x y : Int) (w : World) : (part 3 #[.int .i64 x, .int .i64 y] 0).run Try.prog w = .ok (.int .i64 x) w ∧ (part 3 #[.int .i64 x, .int .i64 y] 1).run Try.prog w = .ok (.int .i64 y) w := ⟨by kernel_rfl, by kernel_rfl⟩
theorem eqIn_ends (y0 y1 : Int) (w : World) : (Op.equalIn 10000 72 (.agg #[.int .i64 y0, .int .i64 y1]) (.agg #[.int .i64 (-1), .int .i64 (-1)])).run Try.prog w = .ok (decide (y0 = -1) && decide (y1 = -1)) w := by
  obtain ⟨i, hi⟩ : ∃ i, Try.prog.info? 3 = some i := by
    cases h : Try.prog.info? 3 with
    | none => have : (Try.prog.info? 3).isSome = true := by kernel_rfl
              rw [h] at this; cases this
    | some i => exact ⟨i, rfl⟩
  have he : Try.prog.underlying 3 = some (.int .i64) := Try.underlying3
  rw [run_equalIn_array w 9999 _ _ Try.underlying72 hi]
  rw [show Try.prog.cellsOf 3 = 1 by kernel_rfl, show List.range 2 = [0, 1] from rfl]
  simp only [Op.eqItems, Nat.mul_one, Sem.run_bind, (part_end y0 y1 w).1, (part_end (-1) (-1) w).1, Result.andThen_ok, run_equalIn_int w 9998 3 .i64 .i64 y0 (-1) he]
  by_cases e : y0 = -1
  · subst e
    simp only [beq_self_eq_true, Bool.not_true, Bool.false_eq_true, if_false, (part_end (-1) y1 w).2, (part_end (-1) (-1) w).2, Sem.run_bind, Result.andThen_ok, run_equalIn_int w 9998 3 .i64 .i64 y1 (-1) he]
    by_cases e1 : y1 = -1
    · simp [e1]
    · simp [e1]
  · simp [e]
theorem eqG_ends (x y : Operand) (xs ys : Array Value) (w : World) : (eqGuard .neq 72 x y (.agg xs) (.agg ys)).run Try.prog w = .ok () w := run_eqGuard_agg w _ _ _ _ _ _ (by kernel_rfl)
set_option maxHeartbeats 8000000 in
theorem impl_leadsw (B rp cp op n c1 c2 : Nat) (s : Mst) (W : World) (hn : n ≤ 10) (h : Hid (RunM W B rp cp op n c1 c2 s)) :
    Calls Try.prog 63 #[.pointer (some ⟨rp, 0, none⟩)] W fun e W' => e = .returned (.bool (decide (LeadsW s n))) ∧ Below W.heap.size W W' := by
  have HRW : Hid (∀ w, Below W.heap.size W w → RunM w B rp cp op n c1 c2 s) := fun w q => h.out.kept q
  have hl0 := impl_leadto B rp cp op n c1 c2 s s.rt W hn h
  obtain ⟨R, HR⟩ : ∃ R, Hid (decide (LeadsW s n) = R) := ⟨_, rfl⟩
  rw [HR.out]
  have HNO : Hid (¬ LeadsW s n → R = false) := fun q => by rw [← HR.out]; exact decide_eq_false q
  have HYES : Hid (LeadsW s n → R = true) := fun q => by rw [← HR.out]; exact decide_eq_true q
  clear HR
  have r2 : W.cell? ⟨rp, 2, none⟩ = some (.int .i64 (s.rt 0)) := h.out.row.cell (i := 2) (by decide)
  have r3 : W.cell? ⟨rp, 3, none⟩ = some (.int .i64 (s.rt 1)) := h.out.row.cell (i := 3) (by decide)
  have rl := h.out.row.lt
  cases hb0 : leadB s n s.rt
  · have HE : Hid (R = false) := HNO.out (fun q => by rw [q.1] at hb0; cases hb0)
    rw [hb0] at hl0
    go_enter Try.func63, Try.ntmps63
    go_wp2_with (go_at_call 82; refine hl0.mono ?_; rintro e w1 ⟨rfl, hB⟩; have B1 : Hid (Below W.heap.size W w1) := hB; clear hB hl0 r2 r3 rl)
    go_ret
    exact ⟨by rw [HE.out]; rfl, B1.out⟩
  rw [hb0] at hl0
  have HB0 : Hid (leadB s n s.rt = true) := hb0
  clear hb0
  have eG := fun x y xs ys w => eqG_ends x y xs ys w
  have hnoe := impl_noends
  go_enter Try.func63, Try.ntmps63
  go_upto_region 3 with (go_at_call 82; refine hl0.mono ?_; rintro e w1 ⟨rfl, hB⟩; have B1 : Hid (Below W.heap.size W w1) := hB; clear hB hl0 r2 r3 rl)
  have r0 : w1.cell? ⟨rp, 0, none⟩ = some (.slice (some ⟨cp, 0, none⟩) n c1) := (HRW.out w1 B1.out).row.cell (i := 0) (by decide)
  have rl := (HRW.out w1 B1.out).row.lt
  go_wp2
  clear r0 rl
  go_loopw [17] (fun vi wr => ∃ k : Nat, k ≤ n ∧ vi = .int .i64 k ∧ Hid (∀ j, j < k → (s.fr j = true → s.lk j 0 = -1 ∧ s.lk j 1 = -1) ∧ leadB s n (s.lk j) = true) ∧ Hid (Below W.heap.size W wr)) (fun vi _ => n - (intOf vi).toNat)
  case atStart => exact ⟨0, Nat.zero_le _, rfl, fun j hj => by omega, B1⟩
  case round =>
    obtain ⟨k, hk, rfl, HG, HB⟩ := hrel
    by_cases hlt : k < n
    rotate_left
    · have HE : Hid (R = true) := HYES.out ⟨HB0.out, fun j hj => HG.out j (by omega)⟩
      go_wp2
      go_ret
      exact ⟨by rw [HE.out]; rfl, HB.out⟩
    have hltI : (k : Int) < (n : Int) := by omega
    have HRr := HRW.out wr HB.out
    obtain ⟨c0, c1', c2'⟩ := HRr.cell hlt
    have cl := HRr.cells.1
    have HNX : Hid ((s.fr k = true → s.lk k 0 = -1 ∧ s.lk k 1 = -1) → leadB s n (s.lk k) = true → ∀ j, j < k + 1 → (s.fr j = true → s.lk j 0 = -1 ∧ s.lk j 1 = -1) ∧ leadB s n (s.lk j) = true) := fun q1 q2 j hj => by
      by_cases e : j = k
      · rw [e]; exact ⟨q1, q2⟩
      · exact HG.out j (by omega)
    have HNK : Hid (¬ ((s.fr k = true → s.lk k 0 = -1 ∧ s.lk k 1 = -1) ∧ leadB s n (s.lk k) = true) → R = false) := fun q => HNO.out (fun r => q (r.2 k hlt))
    have HLT : Hid (∀ w, Below W.heap.size W w → Calls Try.prog 82 #[.pointer (some ⟨rp, 0, none⟩), .agg #[.int .i64 (s.lk k 0), .int .i64 (s.lk k 1)]] w fun e W' => e = .returned (.bool (leadB s n (s.lk k))) ∧ Below w.heap.size w W') := fun w q => impl_leadto B rp cp op n c1 c2 s (s.lk k) w hn (HRW.out w q)
    obtain ⟨lb, HLB⟩ : ∃ b, Hid (leadB s n (s.lk k) = b) := ⟨_, rfl⟩
    rw [HLB.out] at HLT HNX HNK
    have HLT1 : Hid (s.lk k 0 = -1 → s.lk k 1 = -1 → lb = true) := fun q1 q2 => by
      rw [← HLB.out]
      unfold leadB
      rw [q1, q2]
      unfold cellB
      simp
    obtain ⟨y0, Hy0⟩ : ∃ y, Hid (s.lk k 0 = y) := ⟨_, rfl⟩
    obtain ⟨y1, Hy1⟩ : ∃ y, Hid (s.lk k 1 = y) := ⟨_, rfl⟩
    rw [Hy0.out, Hy1.out] at HLT1
    obtain ⟨z, Hz⟩ : ∃ y, Hid (s.fr k = y) := ⟨_, rfl⟩
    rw [Hy0.out] at c0 HLT HNX HNK
    rw [Hy1.out] at c1' HLT HNX HNK
    rw [Hz.out] at c2' HNX HNK
    obtain ⟨Y, hY⟩ : ∃ Y, Hid (wr.alloc (.cells #[.int .i64 y0, .int .i64 y1, .bool z] 78) = Y) := ⟨_, rfl⟩
    have HYB : Hid (Below wr.heap.size wr Y) := by show Below _ _ _; rw [← hY.out]; exact (Below.refl _ _).alloc (Nat.le_refl _) _
    have BY : Hid (Below W.heap.size W Y) := HB.out.trans (HYB.out.mono HB.out.size)
    have HYR := row_of wr #[.int .i64 y0, .int .i64 y1, .bool z] 78
    rw [hY.out] at HYR
    have l0 : Y.cell? ⟨wr.heap.size, 0, none⟩ = some (.int .i64 y0) := HYR.cell (i := 0) (by show 0 < 3; decide)
    have l1 : Y.cell? ⟨wr.heap.size, 1, none⟩ = some (.int .i64 y1) := HYR.cell (i := 1) (by show 1 < 3; decide)
    have l2 : Y.cell? ⟨wr.heap.size, 2, none⟩ = some (.bool z) := HYR.cell (i := 2) (by show 2 < 3; decide)
    have ll := HYR.lt
    clear HRr HYR
    go_upto_region 6 with fail
    rw [hY.out]
    clear hY c0 c1' c2' cl HYB Hy0 Hy1 Hz
    generalize wr.heap.size = lbx at l0 l1 l2 ll ⊢
    have BYd : Hid (Below W.heap.size W Y.drew) := BY.out.drew
    have BYa : Hid (∀ o, Below W.heap.size W (Y.drew.alloc o)) := fun o => BYd.out.alloc BYd.out.size o
    cases z
    · have HNX2 : Hid (lb = true → ∀ j, j < k + 1 → (s.fr j = true → s.lk j 0 = -1 ∧ s.lk j 1 = -1) ∧ leadB s n (s.lk j) = true) := HNX.out (fun q => by cases q)
      have HNK2 : Hid (lb = false → R = false) := fun q => HNK.out (fun r => by rw [q] at r; cases r.2)
      have hlt1 := HLT.out Y.drew BYd.out
      clear HNX HNK HLT1
      cases lb
      · have HE : Hid (R = false) := HNK2.out rfl
        first | (go_region_with (first | (go_at_call 82; refine hlt1.mono ?_; rintro e w5 ⟨rfl, hB5⟩; have B5 : Hid (Below W.heap.size W w5) := (BYd.out.trans (hB5.mono BYd.out.size)); clear hB5))) | fail
        all_goals
          go_wp2
          go_ret
          exact ⟨by rw [HE.out]; rfl, B5.out⟩
      · have HN2 : Hid (∀ j, j < k + 1 → (s.fr j = true → s.lk j 0 = -1 ∧ s.lk j 1 = -1) ∧ leadB s n (s.lk j) = true) := HNX2.out rfl
        clear HNX2 HNK2
        first | (go_region_with (first | (go_at_call 82; refine hlt1.mono ?_; rintro e w5 ⟨rfl, hB5⟩; have B5 : Hid (Below W.heap.size W w5) := (BYd.out.trans (hB5.mono BYd.out.size)); clear hB5))) | fail
        all_goals
          go_wp2
          go_roundw
          case rel => exact ⟨k + 1, by omega, by go_num, HN2, B5⟩
          case measure => simp [intOf]; omega
    · have hb : ∀ w, (Op.equalIn 10000 72 (.agg #[.int .i64 y0, .int .i64 y1]) (.agg #[.int .i64 (-1), .int .i64 (-1)])).run Try.prog w = .ok (decide (y0 = -1) && decide (y1 = -1)) w := fun w => eqIn_ends y0 y1 w
      by_cases ho : y0 = -1 ∧ y1 = -1
      · obtain ⟨rfl, rfl⟩ := ho
        have hlb : lb = true := HLT1.out rfl rfl
        subst hlb
        have HN2 : Hid (∀ j, j < k + 1 → (s.fr j = true → s.lk j 0 = -1 ∧ s.lk j 1 = -1) ∧ leadB s n (s.lk j) = true) := HNX.out (fun _ => ⟨rfl, rfl⟩) rfl
        have hb2 : ∀ w, (Op.equalIn 10000 72 (.agg #[.int .i64 (-1), .int .i64 (-1)]) (.agg #[.int .i64 (-1), .int .i64 (-1)])).run Try.prog w = .ok true w := fun w => hb w
        clear HNX HNK hb HLT1
        first | (go_region_with (first
          | (go_at_call 56; refine (hnoe _).mono ?_; rintro e w' ⟨rfl, hw⟩; rw [hw]; clear hw w')
          | (go_at_call 82; refine (HLT.out _ (BYa.out _)).mono ?_; rintro e w5 ⟨rfl, hB5⟩; have B5 : Hid (Below W.heap.size W w5) := ((BYa.out _).trans (hB5.mono (BYa.out _).size)); clear hB5))) | fail
        all_goals
          go_wp2
          go_roundw
          case rel => exact ⟨k + 1, by omega, by go_num, HN2, B5⟩
          case measure => simp [intOf]; omega
      · have HE : Hid (R = false) := HNK.out (fun q => ho (q.1 rfl))
        have hq : (decide (y0 = -1) && decide (y1 = -1)) = false := by
          by_cases q0 : y0 = -1
          · rw [decide_eq_false (fun q1 => ho ⟨q0, q1⟩), Bool.and_false]
          · rw [decide_eq_false q0, Bool.false_and]
        have hb2 : ∀ w, (Op.equalIn 10000 72 (.agg #[.int .i64 y0, .int .i64 y1]) (.agg #[.int .i64 (-1), .int .i64 (-1)])).run Try.prog w = .ok false w := fun w => by rw [hb w, hq]
        clear HNX HNK hb hq ho HLT1
        first | (go_region_with (first
          | (go_at_call 56; refine (hnoe _).mono ?_; rintro e w' ⟨rfl, hw⟩; rw [hw]; clear hw w'))) | fail
        all_goals
          go_wp2
          go_ret
          exact ⟨by rw [HE.out]; rfl, BYa.out _⟩
end Go.Proofs.Ytokaibpkajloeaa.walks
