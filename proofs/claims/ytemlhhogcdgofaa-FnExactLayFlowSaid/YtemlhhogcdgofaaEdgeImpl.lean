/-
  What the program's isBetween, isBlocks, isBlock, isOrder, IsLayout and placesIn answer.
-/
import Derived.Test.YtemlhhogcdgofaaProg
import Derived.Test.YtemlhhogcdgofaaMagMath
import Derived.Test.YtemlhhogcdgofaaEdgeMath
import Derived.Test.YtemlhhogcdgofaaEdgeSpec
import Derived.Test.YtemlhhogcdgofaaInts
import Derived.WalkKit
import Derived.WalkSpells
import Derived.Below
import Derived.Handy
import Derived.Deep.OwnRows
import Derived.Deep.QuietTactic
import Derived.BigQuiet
namespace Go.Proofs.Ytemlhhogcdgofaa.walks
open Go.RowKit Go.Proofs.Ytemlhhogcdgofaa.math Go.Proofs.Ytemlhhogcdgofaa.ints
set_option linter.unusedVariables false
set_option maxRecDepth 100000

theorem impl_between (lo n hi : Int) (W : World) : Calls Try.prog 51 #[.int .i64 lo, .int .i64 n, .int .i64 hi] W fun e W' => e = .returned (.bool (inR n lo hi)) ∧ W' = W := by
  by_cases h0 : lo ≤ n
  rotate_left
  · have k0 : n < lo := by omega
    have d0 : decide (lo ≤ n) = false := decide_eq_false h0
    rw [inR_lt k0]
    clear h0
    go_enter Try.func51, Try.ntmps51
    go_wp2
    go_ret
    exact ⟨rfl, rfl⟩
  by_cases h1 : n ≤ hi
  rotate_left
  · have k1 : hi < n := by omega
    have d1 : decide (n ≤ hi) = false := decide_eq_false (by omega)
    rw [inR_gt k1]
    clear h1
    go_enter Try.func51, Try.ntmps51
    go_wp2
    go_ret
    exact ⟨rfl, rfl⟩
  rw [inR_mk h0 h1]
  have d1 : decide (n ≤ hi) = true := decide_eq_true (by omega)
  have d0 : decide (lo ≤ n) = true := decide_eq_true h0
  go_enter Try.func51, Try.ntmps51
  go_wp2
  go_ret
  exact ⟨rfl, rfl⟩
theorem between_quiet {n lo hi : Int} {b : Bool} (h : inR n lo hi = b) (W : World) : Calls Try.prog 51 #[.int .i64 lo, .int .i64 n, .int .i64 hi] W fun e W' => e = .returned (.bool b) ∧ W' = W := by
  have := impl_between lo n hi W
  rw [h] at this
  exact this
theorem blocks_quiet {u : Int} {b : Bool} (h : inR u 1 8 = b) (W : World) : Calls Try.prog 41 #[.int .i64 u] W fun e W' => e = .returned (.bool b) ∧ W' = W := by
  go_enter Try.func41, Try.ntmps41
  go_wp2_with (go_at_call 51; refine (between_quiet h _).mono ?_; rintro e w' ⟨rfl, hw⟩; rw [hw]; clear hw w')
  go_ret
  exact ⟨rfl, rfl⟩
theorem bool_info : (Try.prog.info? 4).map (fun i => (i.zero, i.size, i.bytes)) = some (some (.bool false), 1, 1) := by kernel_rfl
set_option maxHeartbeats 4000000 in
theorem impl_order (a : Option Addr) (len cap n : Nat) (zs : List Int) (W : World) (hz : Hid (zs.length = len)) (hlen : len ≤ 1048576) (hn : n ≤ 12) (h : Hid (Ints W a zs)) :
    Calls Try.prog 42 #[.slice a len cap, .int .i64 (n : Int)] W fun e W' => e = .returned (.bool (orderB zs (n : Int))) ∧ Below W.heap.size W W' := by
  by_cases hl : len = n
  rotate_left
  · have HE : Hid (orderB zs (n : Int) = false) := order_len (by rw [hz.out]; omega)
    have hlI : (len : Int) ≠ (n : Int) := by omega
    have e1 : ((len : Int) != (n : Int)) = true := by simpa using hlI
    have e2 : ((len : Int) == (n : Int)) = false := by simpa using hlI
    have e3 : decide ((len : Int) = (n : Int)) = false := decide_eq_false hlI
    have e4 : decide (len = n) = false := decide_eq_false hl
    have e5 : (len == n) = false := by simpa using hl
    go_enter Try.func42, Try.ntmps42
    go_wp2
    go_ret
    exact ⟨by rw [HE.out]; rfl, Below.refl _ _⟩
  subst hl
  have hmk := run_make_row' (P := Try.prog) 83 4 (.bool false) 1 Try.underlying83 bool_info rfl .i64 .i64 len (by omega) (by omega)
  go_enter Try.func42, Try.ntmps42
  go_wp2
  clear hmk
  go_loopw [16] (fun vi wr => ∃ k : Nat, k ≤ len ∧ vi = .int .i64 k ∧ Hid (∀ i, i < k → OrdOk zs (len : Int) i) ∧ Hid (wr.rowIs W.heap.size 4 len (fun j => .bool (hasTo zs (j : Int) k))) ∧ Hid (Below W.heap.size W wr)) (fun vi _ => len - (intOf vi).toNat)
  case atStart =>
    refine ⟨0, Nat.zero_le _, rfl, fun i hi => by omega, ?_, ?_⟩
    · show World.rowIs _ _ _ _ _
      exact (World.rowIs_made W (.bool false) len 4).congr (fun i hi => by simp [hasTo])
    · show Below _ _ _
      go_grown
  case round =>
    obtain ⟨k, hk, rfl, HG, HC, HB⟩ := hrel
    by_cases hlt : k < len
    rotate_left
    · have HE : Hid (orderB zs (len : Int) = true) := order_yes (by rw [hz.out]) (fun i hi => HG.out i (by rw [hz.out] at hi; omega))
      go_wp2
      go_ret
      exact ⟨by rw [HE.out]; rfl, HB.out⟩
    have hltI : (k : Int) < (len : Int) := by omega
    obtain ⟨b, off, ha, hc⟩ := h.out.at HB.out (k := k) (by rw [hz.out]; exact hlt)
    subst ha
    have HNO : Hid ((inR (zs.getD k 0) 0 ((len : Int) - 1) = false ∨ hasTo zs (zs.getD k 0) k = true) → orderB zs (len : Int) = false) := fun q => order_bad (k := k) (by rw [hz.out]; exact hlt) (fun r => by
      obtain ⟨r0, r1, r2⟩ := r
      rcases q with q | q
      · rw [inR_mk r0 (by omega)] at q; cases q
      · rw [q] at r2; cases r2)
    have HYES : Hid (inR (zs.getD k 0) 0 ((len : Int) - 1) = true → hasTo zs (zs.getD k 0) k = false → ∀ i, i < k + 1 → OrdOk zs (len : Int) i) := fun q0 q2 i hi => by
      by_cases e : i = k
      · subst e; have := inR_out q0; exact ⟨this.1, by omega, q2⟩
      · exact HG.out i (by omega)
    have HST : Hid (∀ j, hasTo zs j (k + 1) = (hasTo zs j k || decide (zs.getD k 0 = j))) := fun j => rfl
    obtain ⟨x, hx⟩ : ∃ x, Hid (zs.getD k 0 = x) := ⟨_, rfl⟩
    rw [hx.out] at hc HNO HYES HST
    cases hr : inR x 0 ((len : Int) - 1)
    · have HE : Hid (orderB zs (len : Int) = false) := HNO.out (Or.inl hr)
      go_wp2_with (go_at_call 51; refine (between_quiet hr _).mono ?_; rintro e w' ⟨rfl, hw⟩; rw [hw]; clear hw w')
      go_ret
      exact ⟨by rw [HE.out]; rfl, HB.out⟩
    obtain ⟨x0, x1⟩ := inR_out hr
    obtain ⟨m, rfl⟩ : ∃ m : Nat, x = (m : Int) := ⟨x.toNat, by omega⟩
    have hm : m < len := by omega
    have hmI : (m : Int) < (len : Int) := by omega
    have t0 := HC.out.cell hm
    have t1 := HC.out.frozen m
    cases hh : hasTo zs (m : Int) k
    · have HN : Hid (∀ i, i < k + 1 → OrdOk zs (len : Int) i) := HYES.out hr hh
      rw [hh] at t0
      go_wp2_with (go_at_call 51; refine (between_quiet hr _).mono ?_; rintro e w' ⟨rfl, hw⟩; rw [hw]; clear hw w')
      go_roundw
      case rel =>
        refine ⟨k + 1, by omega, by go_num, HN, ?_, ?_⟩
        · show World.rowIs _ _ _ _ _
          refine (HC.out.set m _).congr ?_
          intro j hj
          rw [HST.out]
          by_cases e : j = m
          · subst e; simp
          · rw [if_neg e, decide_eq_false (by omega), Bool.or_false]
        · show Below _ _ _
          exact HB.out.setCell (Nat.le_refl _) _
      case measure => simp [intOf]; omega
    · have HE : Hid (orderB zs (len : Int) = false) := HNO.out (Or.inr hh)
      rw [hh] at t0
      go_wp2_with (go_at_call 51; refine (between_quiet hr _).mono ?_; rintro e w' ⟨rfl, hw⟩; rw [hw]; clear hw w')
      go_ret
      exact ⟨by rw [HE.out]; rfl, HB.out⟩
theorem order_some {a : Option Addr} {len cap : Nat} {u : Int} {zs : List Int} {b : Bool} (W : World) (hz : Hid (zs.length = len)) (hlen : len ≤ 1048576) (hu0 : 1 ≤ u) (hu1 : u ≤ 8) (h : Hid (Ints W a zs)) (hb : orderB zs u = b) :
    Calls Try.prog 42 #[.slice a len cap, .int .i64 u] W fun e W' => e = .returned (.bool b) ∧ Below W.heap.size W W' := by
  obtain ⟨n, rfl⟩ : ∃ n : Nat, u = (n : Int) := ⟨u.toNat, by omega⟩
  have := impl_order a len cap n zs W hz hlen (by omega) h
  rw [hb] at this
  exact this
set_option maxHeartbeats 4000000 in
theorem impl_islay (a : Option Addr) (len cap : Nat) (u : Int) (zs : List Int) (W : World) (hz : Hid (zs.length = len)) (hlen : len ≤ 1048576) (h : Hid (Ints W a zs)) :
    Calls Try.prog 23 #[.int .i64 u, .slice a len cap] W fun e W' => e = .returned (.bool (layB zs u)) ∧ Below W.heap.size W W' := by
  cases hu : inR u 1 8
  · have HE : Hid (layB zs u = false) := lay_u hu
    go_enter Try.func23, Try.ntmps23
    go_wp2_with (go_at_call 41; refine (blocks_quiet hu _).mono ?_; rintro e w' ⟨rfl, hw⟩; rw [hw]; clear hw w')
    go_ret
    exact ⟨by rw [HE.out]; rfl, Below.refl _ _⟩
  obtain ⟨hu0, hu1⟩ := inR_out hu
  cases ho : orderB zs u
  · have HE : Hid (layB zs u = false) := lay_ord ho
    go_enter Try.func23, Try.ntmps23
    go_wp2_with (first | (go_at_call 41; refine (blocks_quiet hu _).mono ?_; rintro e w' ⟨rfl, hw⟩; rw [hw]; clear hw w') | (go_at_call 42; refine (order_some _ hz hlen hu0 hu1 h ho).mono ?_; rintro e w1 ⟨rfl, hB⟩))
    go_ret
    exact ⟨by rw [HE.out]; rfl, hB⟩
  have hl : (len : Int) = u := by have := (order_out ho).1; rw [hz.out] at this; exact this
  have hl0 : 0 < len := by omega
  have hl0I : (0 : Int) < (len : Int) := by omega
  clear hl
  obtain ⟨v, hv⟩ : ∃ v, Hid (zs.getD 0 0 = v) := ⟨_, rfl⟩
  have HV : Hid (layB zs u = decide (v = 0)) := by
    show layB zs u = _
    unfold layB
    rw [hu, ho, hv.out]; rfl
  go_enter Try.func23, Try.ntmps23
  by_cases e : v = 0
  · rw [decide_eq_true e] at HV
    subst e
    go_wp2_with (first | (go_at_call 41; refine (blocks_quiet hu _).mono ?_; rintro e w' ⟨rfl, hw⟩; rw [hw]; clear hw w') | (go_at_call 42; refine (order_some _ hz hlen hu0 hu1 h ho).mono ?_; rintro e w1 ⟨rfl, hB⟩; obtain ⟨b, off, ha, hc⟩ := h.out.at hB (k := 0) (by rw [hz.out]; exact hl0); rw [Nat.add_zero, hv.out] at hc; subst ha; have HB : Hid (Below W.heap.size W w1) := hB; clear hB))
    go_ret
    exact ⟨by rw [HV.out]; rfl, HB.out⟩
  · rw [decide_eq_false e] at HV
    have e1 : (v == 0) = false := by simpa using e
    have e2 : decide (v = 0) = false := decide_eq_false e
    go_wp2_with (first | (go_at_call 41; refine (blocks_quiet hu _).mono ?_; rintro e w' ⟨rfl, hw⟩; rw [hw]; clear hw w') | (go_at_call 42; refine (order_some _ hz hlen hu0 hu1 h ho).mono ?_; rintro e w1 ⟨rfl, hB⟩; obtain ⟨b, off, ha, hc⟩ := h.out.at hB (k := 0) (by rw [hz.out]; exact hl0); rw [Nat.add_zero, hv.out] at hc; subst ha; have HB : Hid (Below W.heap.size W w1) := hB; clear hB))
    go_ret
    exact ⟨by rw [HV.out]; rfl, HB.out⟩
end Go.Proofs.Ytemlhhogcdgofaa.walks
