/-
  What the program's GoodWorld, isClass, isMethodName, SubclassOf, NewCache answer.
-/
import Derived.Test.YticgipmaflhplaaProg
import Derived.Test.YticgipmaflhplaaMagMath
import Derived.Test.YticgipmaflhplaaWorldMath
import Derived.Test.YticgipmaflhplaaInts
import Derived.Test.YticgipmaflhplaaDeep
import Derived.Test.YticgipmaflhplaaDeepRow
import Derived.Test.YticgipmaflhplaaDeepC
import Derived.Test.YticgipmaflhplaaWorldSpec
import Derived.WalkKit
import Derived.WalkSpells
import Derived.Below
import Derived.Handy
import Derived.Deep.DeepFit
namespace Go.Proofs.Yticgipmaflhplaa.walks
open Go.RowKit Go.Proofs.Yticgipmaflhplaa.math Go.Proofs.Yticgipmaflhplaa.ints Go.Proofs.Yticgipmaflhplaa.deep
set_option linter.unusedVariables false
set_option maxRecDepth 100000

theorem btw_quiet {n lo hi : Int} {b : Bool} (h : inR n lo hi = b) (W : World) : Calls Try.prog 36 #[.int .i64 lo, .int .i64 n, .int .i64 hi] W fun e W' => e = .returned (.bool b) ∧ W' = W := by
  subst h
  by_cases h0 : lo ≤ n
  rotate_left
  · have k0 : n < lo := by omega
    have d0 : decide (lo ≤ n) = false := decide_eq_false h0
    rw [inR_lt k0]
    clear h0
    go_enter Try.func36, Try.ntmps36
    go_wp2
    go_ret
    exact ⟨rfl, rfl⟩
  by_cases h1 : n ≤ hi
  rotate_left
  · have k1 : hi < n := by omega
    have d1 : decide (n ≤ hi) = false := decide_eq_false (by omega)
    rw [inR_gt k1]
    clear h1
    go_enter Try.func36, Try.ntmps36
    go_wp2
    go_ret
    exact ⟨rfl, rfl⟩
  rw [inR_mk h0 h1]
  have d1 : decide (n ≤ hi) = true := decide_eq_true (by omega)
  have d0 : decide (lo ≤ n) = true := decide_eq_true h0
  go_enter Try.func36, Try.ntmps36
  go_wp2
  go_ret
  exact ⟨rfl, rfl⟩
/-- MaxNames numbers in 0..1000. -/
def MethOk (zs : List Int) : Prop := zs.length = 5 ∧ ∀ m, m < 5 → 0 ≤ zs.getD m 0 ∧ zs.getD m 0 ≤ 1000
noncomputable def methsB (zs : List Int) : Bool := @decide (MethOk zs) (Classical.propDecidable _)
theorem meths_yes {zs : List Int} (h : MethOk zs) : methsB zs = true := @decide_eq_true _ (Classical.propDecidable _) h
theorem meths_no {zs : List Int} (h : ¬ MethOk zs) : methsB zs = false := @decide_eq_false _ (Classical.propDecidable _) h
theorem meths_out {zs : List Int} (h : methsB zs = true) : MethOk zs := @of_decide_eq_true _ (Classical.propDecidable _) h
set_option maxHeartbeats 4000000 in
theorem impl_methods (a : Option Addr) (L cap : Nat) (zs : List Int) (W : World) (hL : zs.length = L) (hx : L ≤ 1048576) (h : Hid (Ints W a zs)) :
    Calls Try.prog 37 #[.slice a L cap] W fun e W' => e = .returned (.bool (methsB zs)) ∧ W' = W := by
  have HL : Hid (zs.length = L) := hL
  by_cases l5 : L = 5
  rotate_left
  · have HE : Hid (methsB zs = false) := meths_no (fun q => l5 (by rw [← hL]; exact q.1))
    rw [HE.out]
    have lI : (L : Int) ≠ 5 := by omega
    have d2 : decide ((L : Int) = 5) = false := decide_eq_false lI
    have d3 : ((L : Int) == 5) = false := by simpa using lI
    have d4 : ((L : Int) != 5) = true := by simpa using lI
    have d5 : decide (L = 5) = false := decide_eq_false l5
    have d6 : (L == 5) = false := by simpa using l5
    clear hL
    go_enter Try.func37, Try.ntmps37
    go_wp2
    go_ret
    exact ⟨rfl, rfl⟩
  subst l5
  clear hL
  obtain ⟨R, HR⟩ : ∃ R, Hid (methsB zs = R) := ⟨_, rfl⟩
  rw [HR.out]
  go_enter Try.func37, Try.ntmps37
  go_wp2
  go_loop [10] (fun vj => ∃ j : Nat, j ≤ 5 ∧ vj = .int .i64 j ∧ Hid (∀ m, m < j → 0 ≤ zs.getD m 0 ∧ zs.getD m 0 ≤ 1000)) (fun vj => 5 - (intOf vj).toNat)
  case atStart => exact ⟨0, Nat.zero_le _, rfl, fun j hj => by omega⟩
  case round =>
    obtain ⟨j, hj, rfl, HM⟩ := hrel
    by_cases hjl : j < 5
    rotate_left
    · have HE : Hid (R = true) := by show _ = _; rw [← HR.out]; exact meths_yes ⟨HL.out, fun m hm => HM.out m (by omega)⟩
      go_wp2
      go_ret
      exact ⟨by rw [HE.out]; rfl, rfl⟩
    obtain ⟨b', o', ha, hc⟩ := h.out.at (Below.refl _ _) (k := j) (by rw [HL.out]; exact hjl)
    subst ha
    have hjI : (j : Int) < 5 := by omega
    obtain ⟨x, HXX⟩ : ∃ x, Hid (zs.getD j 0 = x) := ⟨_, rfl⟩
    rw [HXX.out] at hc
    cases hr : inR x 0 1000
    · have HE : Hid (R = false) := by
        show _ = _; rw [← HR.out]
        exact meths_no (fun q => by
          have q2 := q.2 j hjl
          rw [HXX.out] at q2
          rw [inR_mk q2.1 q2.2] at hr; cases hr)
      go_wp2_with (go_at_call 36; refine (btw_quiet hr _).mono ?_; rintro e w' ⟨rfl, hw⟩; rw [hw]; clear hw w')
      go_ret
      exact ⟨by rw [HE.out]; rfl, rfl⟩
    · have HM' : Hid (∀ m, m < j + 1 → 0 ≤ zs.getD m 0 ∧ zs.getD m 0 ≤ 1000) := fun m hm => by
        by_cases e : m = j
        · subst e; rw [HXX.out]; exact inR_out hr
        · exact HM.out m (by omega)
      go_wp2_with (go_at_call 36; refine (btw_quiet hr _).mono ?_; rintro e w' ⟨rfl, hw⟩; rw [hw]; clear hw w')
      go_round
      case rel => exact ⟨j + 1, by omega, by go_num, HM'⟩
      case measure => simp [intOf]; omega
set_option maxHeartbeats 4000000 in
theorem impl_world (a : Option Addr) (n cap : Nat) (cs : Nat → Dv) (st : Int) (c : Bool) (W : World) (hf : Hid (Fits shClassS (.l n 2 cs))) (hs : Hid (szD (.l n 2 cs) ≤ 1048576)) (h : Hid (Holds W c (.l n 2 cs) (.slice a n cap))) :
    Calls Try.prog 12 #[.agg #[.slice a n cap, .int .i64 st]] W fun e W' => e = .returned (.bool (worldB cs n st)) ∧ Below W.heap.size W W' := by
  have hn : n ≤ 1048576 := Nat.le_trans (Nat.le_add_right _ _) hs.out
  cases h1 : inR (n : Int) 1 8
  · have HE : Hid (worldB cs n st = false) := world_n h1
    rw [HE.out]
    go_enter Try.func12, Try.ntmps12
    go_wp2_with (go_at_call 36; refine (btw_quiet h1 _).mono ?_; rintro e w' ⟨rfl, hw⟩; rw [hw]; clear hw w')
    go_ret
    exact ⟨rfl, by go_grown⟩
  cases h2 : inR st 0 1000000
  · have HE : Hid (worldB cs n st = false) := world_st h2
    rw [HE.out]
    go_enter Try.func12, Try.ntmps12
    go_wp2_with (go_at_call 36; (first | go_fit (btw_quiet h1 _) | go_fit (btw_quiet h2 _)); rintro e w' ⟨rfl, hw⟩; rw [hw]; clear hw w')
    go_ret
    exact ⟨rfl, by go_grown⟩
  obtain ⟨R, HRR⟩ : ∃ R, Hid (worldB cs n st = R) := ⟨_, rfl⟩
  have H1 : Hid (inR (n : Int) 1 8 = true) := h1
  have H2 : Hid (inR st 0 1000000 = true) := h2
  obtain ⟨X, hX⟩ : ∃ X, Hid (W.alloc (.cells #[.slice a n cap, .int .i64 st] 29) = X) := ⟨_, rfl⟩
  have HX : Hid (Below W.heap.size W X) := by show Below _ _ _; rw [← hX.out]; repeat (first | exact Below.refl _ _ | refine Below.drew ?_ | refine Below.setCell ?_ (by simp; try omega) _ | refine Below.alloc ?_ (by simp; try omega) _)
  have HRX : Hid (X.rowIs W.heap.size 29 2 (rowF [.slice a n cap, .int .i64 st])) := by show World.rowIs _ _ _ _ _; rw [← hX.out]; exact row_of W #[.slice a n cap, .int .i64 st] _
  rw [HRR.out]
  go_enter Try.func12, Try.ntmps12
  go_wp2_with (go_at_call 36; (first | go_fit (btw_quiet h1 _) | go_fit (btw_quiet h2 _)); rintro e w' ⟨rfl, hw⟩; rw [hw]; clear hw w')
  rw [hX.out]
  clear hX h1 h2
  go_loopw [19] (fun vi wr => ∃ k : Nat, k ≤ n ∧ vi = .int .i64 k ∧ Hid (∀ j, j < k → ClassOk cs j) ∧ Hid (Below W.heap.size W wr)) (fun vi _ => n - (intOf vi).toNat)
  case atStart => exact ⟨0, Nat.zero_le _, rfl, fun j hj => by omega, HX⟩
  case round =>
    obtain ⟨k, hk, rfl, HG, HB⟩ := hrel
    by_cases hlt : k < n
    rotate_left
    · have HALL : Hid (∀ j, j < n → ClassOk cs j) := fun j hj => HG.out j (by omega)
      have HE : Hid (R = true) := by show _ = _; rw [← HRR.out]; exact world_yes H1.out H2.out HALL.out
      go_wp2
      go_ret
      exact ⟨by rw [HE.out]; rfl, HB.out⟩
    have hltI : (k : Int) < (n : Int) := by omega
    obtain ⟨b, o, ma, mc, ha, hb, c0, c1, hI⟩ := class_at h.out hf.out HB.out hlt
    have HI : Hid (Ints wr ma (mtsC cs k)) := hI
    have hml : Hid ((mtsC cs k).length = mlC cs k) := mts_len _ _
    clear hI
    subst ha
    have hbw : b < wr.heap.size := by have := HB.out.size; omega
    have HNO : Hid ((upC cs k < -1 ∨ (k : Int) - 1 < upC cs k ∨ methsB (mtsC cs k) = false) → R = false) := fun q => by
      rw [← HRR.out]
      refine world_bad hlt (fun r => ?_)
      obtain ⟨⟨r0, r1⟩, r2, r3⟩ := r
      rcases q with q | q | q
      · omega
      · omega
      · have : methsB (mtsC cs k) = true := meths_yes ⟨by rw [mts_len]; exact r2, r3⟩
        rw [this] at q; cases q
    have HYES : Hid (-1 ≤ upC cs k → upC cs k ≤ (k : Int) - 1 → methsB (mtsC cs k) = true → ∀ j, j < k + 1 → ClassOk cs j) := fun q0 q1 q2 i hi => by
      by_cases e : i = k
      · subst e
        have q3 := meths_out q2
        exact ⟨⟨q0, by omega⟩, by rw [← mts_len]; exact q3.1, q3.2⟩
      · exact HG.out i (by omega)
    obtain ⟨u, HU⟩ : ∃ u, Hid (upC cs k = u) := ⟨_, rfl⟩
    obtain ⟨L, HL⟩ : ∃ L, Hid (mlC cs k = L) := ⟨_, rfl⟩
    obtain ⟨zs, HZ⟩ : ∃ zs, Hid (mtsC cs k = zs) := ⟨_, rfl⟩
    have hmx : L ≤ 1048576 := by
      have q := sz_at (len := n) (sz := 2) (cs := cs) (i := k * 2 + 1) (by omega)
      have q2 := hs.out
      have q3 : mlC cs k ≤ szD (cs (k * 2 + 1)) := by
        unfold mlC
        cases cs (k * 2 + 1) with
        | n x => exact Nat.zero_le _
        | t x => exact Nat.zero_le _
        | l a b c => exact Nat.le_add_right _ _
      rw [HL.out] at q3; omega
    rw [HU.out] at c0 HNO HYES
    rw [HL.out] at c1 hml
    rw [HZ.out] at hml HI HNO HYES
    obtain ⟨Y, hY⟩ : ∃ Y, Hid (wr.alloc (.cells #[.int .i64 u, .slice ma L mc] 59) = Y) := ⟨_, rfl⟩
    have HY : Hid (Below wr.heap.size wr Y) := by show Below _ _ _; rw [← hY.out]; repeat (first | exact Below.refl _ _ | refine Below.drew ?_ | refine Below.setCell ?_ (by simp; try omega) _ | refine Below.alloc ?_ (by simp; try omega) _)
    have HYB : Hid (Below W.heap.size W Y) := HB.out.trans (HY.out.mono HB.out.size)
    have HIY : Hid (Ints Y ma zs) := HI.out.kept HY.out
    have e1 : Y.cell? ⟨wr.heap.size, 1, none⟩ = some (.slice ma L mc) := by rw [← hY.out]; go_simp
    cases hr : inR u (-1) ((k : Int) - 1)
    · have HE : Hid (R = false) := HNO.out (by
        by_cases q : u < -1
        · exact Or.inl q
        · by_cases q2 : (k : Int) - 1 < u
          · exact Or.inr (Or.inl q2)
          · rw [inR_mk (by omega) (by omega)] at hr; cases hr)
      go_wp2_with (go_at_call 36; refine (btw_quiet hr _).mono ?_; rintro e w' ⟨rfl, hw⟩; rw [hw]; clear hw w')
      go_ret
      exact ⟨by rw [HE.out]; rfl, by rw [hY.out]; exact HYB.out⟩
    obtain ⟨u0, u1⟩ := inR_out hr
    cases hm : methsB zs
    · have HE : Hid (R = false) := HNO.out (Or.inr (Or.inr hm))
      have hc := impl_methods ma L mc zs Y hml.out hmx HIY
      rw [hm] at hc
      go_wp2_with (first | (go_at_call 36; refine (btw_quiet hr _).mono ?_; rintro e w' ⟨rfl, hw⟩; rw [hw]; clear hw w') | (go_at_call 37; rw [hY.out]; refine hc.mono ?_; rintro e w' ⟨rfl, hw⟩; rw [hw]; clear hw w'))
      go_ret
      exact ⟨by rw [HE.out]; rfl, HYB.out⟩
    · have HN : Hid (∀ j, j < k + 1 → ClassOk cs j) := HYES.out u0 u1 hm
      have hc := impl_methods ma L mc zs Y hml.out hmx HIY
      rw [hm] at hc
      go_wp2_with (first | (go_at_call 36; refine (btw_quiet hr _).mono ?_; rintro e w' ⟨rfl, hw⟩; rw [hw]; clear hw w') | (go_at_call 37; rw [hY.out]; refine hc.mono ?_; rintro e w' ⟨rfl, hw⟩; rw [hw]; clear hw w'))
      go_roundw
      case rel => exact ⟨k + 1, by omega, by go_num, HN, HYB⟩
      case measure => simp [intOf]; omega
theorem mname_quiet {m : Int} {b : Bool} (h : inR m 0 4 = b) (W : World) : Calls Try.prog 46 #[.int .i64 m] W fun e W' => e = .returned (.bool b) ∧ W' = W := by
  go_enter Try.func46, Try.ntmps46
  go_wp2_with (go_at_call 36; refine (btw_quiet h _).mono ?_; rintro e w' ⟨rfl, hw⟩; rw [hw]; clear hw w')
  go_ret
  exact ⟨rfl, rfl⟩
theorem impl_class {a : Option Addr} {n cap : Nat} {st k : Int} {b : Bool} (h : inR k 0 ((n : Int) - 1) = b) (hn : n ≤ 1048576) (W : World) : Calls Try.prog 45 #[.int .i64 k, .agg #[.slice a n cap, .int .i64 st]] W fun e W' => e = .returned (.bool b) ∧ Below W.heap.size W W' := by
  go_enter Try.func45, Try.ntmps45
  go_wp2_with (go_at_call 36; refine (btw_quiet h _).mono ?_; rintro e w' ⟨rfl, hw⟩; rw [hw]; clear hw w')
  go_ret
  exact ⟨rfl, by go_grown⟩
set_option maxHeartbeats 4000000 in
theorem impl_subclass (p : Option Addr) (n cap : Nat) (cs : Nat → Dv) (st a b : Int) (c : Bool) (W : World) (hf : Hid (Fits shClassS (.l n 2 cs))) (hs : Hid (szD (.l n 2 cs) ≤ 1048576)) (h : Hid (Holds W c (.l n 2 cs) (.slice p n cap))) :
    Calls Try.prog 32 #[.agg #[.slice p n cap, .int .i64 st], .int .i64 a, .int .i64 b] W fun e W' => e = .returned (.tuple #[.bool (subV cs n st a b), .bool (okS cs n st a b)]) ∧ Below W.heap.size W W' := by
  have hn : n ≤ 1048576 := Nat.le_trans (Nat.le_add_right _ _) hs.out
  obtain ⟨X, hX⟩ : ∃ X, Hid (W.alloc (.cells #[.slice p n cap, .int .i64 st] 29) = X) := ⟨_, rfl⟩
  have HX : Hid (Below W.heap.size W X) := by show Below _ _ _; rw [← hX.out]; repeat (first | exact Below.refl _ _ | refine Below.drew ?_ | refine Below.setCell ?_ (by simp; try omega) _ | refine Below.alloc ?_ (by simp; try omega) _)
  have HRX : Hid (X.rowIs W.heap.size 29 2 (rowF [.slice p n cap, .int .i64 st])) := by show World.rowIs _ _ _ _ _; rw [← hX.out]; exact row_of W #[.slice p n cap, .int .i64 st] _
  cases hw : worldB cs n st
  · skip
    have HO : Hid (okS cs n st a b = false) := by show _ = _; unfold okS; rw [hw]; simp
    have HV : Hid (subV cs n st a b = false) := by show _ = _; unfold subV; rw [HO.out]; rfl
    go_enter Try.func32, Try.ntmps32
    go_wp2_with fail
    rw [hX.out]
    have hc := impl_world p n cap cs st c X hf hs (h.out.kept HX.out)
    rw [hw] at hc
    refine hc.mono ?_
    rintro e w1 ⟨rfl, hB⟩
    have B1 : Hid (Below W.heap.size W w1) := HX.out.trans (hB.mono HX.out.size)
    have R1 : Hid (w1.rowIs W.heap.size 29 2 (rowF [.slice p n cap, .int .i64 st])) := HRX.out.of_block (hB.block _ HRX.out.lt)
    clear hB hc
    have r0 : w1.cell? ⟨W.heap.size, 0, none⟩ = some (.slice p n cap) := R1.out.cell (i := 0) (by decide)
    have r1 : w1.cell? ⟨W.heap.size, 1, none⟩ = some (.int .i64 st) := R1.out.cell (i := 1) (by decide)
    go_wp2
    go_ret2
    exact ⟨by rw [HO.out, HV.out]; rfl, B1.out⟩
  cases ha : inR a 0 ((n : Int) - 1)
  · skip
    have HO : Hid (okS cs n st a b = false) := by show _ = _; unfold okS; rw [ha]; simp
    have HV : Hid (subV cs n st a b = false) := by show _ = _; unfold subV; rw [HO.out]; rfl
    go_enter Try.func32, Try.ntmps32
    go_wp2_with fail
    rw [hX.out]
    have hc := impl_world p n cap cs st c X hf hs (h.out.kept HX.out)
    rw [hw] at hc
    refine hc.mono ?_
    rintro e w1 ⟨rfl, hB⟩
    have B1 : Hid (Below W.heap.size W w1) := HX.out.trans (hB.mono HX.out.size)
    have R1 : Hid (w1.rowIs W.heap.size 29 2 (rowF [.slice p n cap, .int .i64 st])) := HRX.out.of_block (hB.block _ HRX.out.lt)
    clear hB hc
    have r0 : w1.cell? ⟨W.heap.size, 0, none⟩ = some (.slice p n cap) := R1.out.cell (i := 0) (by decide)
    have r1 : w1.cell? ⟨W.heap.size, 1, none⟩ = some (.int .i64 st) := R1.out.cell (i := 1) (by decide)
    go_wp2_with fail
    refine (impl_class ha hn w1).mono ?_
    rintro e w2 ⟨rfl, hB⟩
    have B2 : Hid (Below W.heap.size W w2) := B1.out.trans (hB.mono B1.out.size)
    have R2 : Hid (w2.rowIs W.heap.size 29 2 (rowF [.slice p n cap, .int .i64 st])) := R1.out.of_block (hB.block _ R1.out.lt)
    clear hB r0 r1
    have r0' : w2.cell? ⟨W.heap.size, 0, none⟩ = some (.slice p n cap) := R2.out.cell (i := 0) (by decide)
    have r1' : w2.cell? ⟨W.heap.size, 1, none⟩ = some (.int .i64 st) := R2.out.cell (i := 1) (by decide)
    go_wp2
    go_ret2
    exact ⟨by rw [HO.out, HV.out]; rfl, B2.out⟩
  cases hb : inR b 0 ((n : Int) - 1)
  · skip
    have HO : Hid (okS cs n st a b = false) := by show _ = _; unfold okS; rw [hb]; simp
    have HV : Hid (subV cs n st a b = false) := by show _ = _; unfold subV; rw [HO.out]; rfl
    go_enter Try.func32, Try.ntmps32
    go_wp2_with fail
    rw [hX.out]
    have hc := impl_world p n cap cs st c X hf hs (h.out.kept HX.out)
    rw [hw] at hc
    refine hc.mono ?_
    rintro e w1 ⟨rfl, hB⟩
    have B1 : Hid (Below W.heap.size W w1) := HX.out.trans (hB.mono HX.out.size)
    have R1 : Hid (w1.rowIs W.heap.size 29 2 (rowF [.slice p n cap, .int .i64 st])) := HRX.out.of_block (hB.block _ HRX.out.lt)
    clear hB hc
    have r0 : w1.cell? ⟨W.heap.size, 0, none⟩ = some (.slice p n cap) := R1.out.cell (i := 0) (by decide)
    have r1 : w1.cell? ⟨W.heap.size, 1, none⟩ = some (.int .i64 st) := R1.out.cell (i := 1) (by decide)
    go_wp2_with fail
    refine (impl_class ha hn w1).mono ?_
    rintro e w2 ⟨rfl, hB⟩
    have B2 : Hid (Below W.heap.size W w2) := B1.out.trans (hB.mono B1.out.size)
    have R2 : Hid (w2.rowIs W.heap.size 29 2 (rowF [.slice p n cap, .int .i64 st])) := R1.out.of_block (hB.block _ R1.out.lt)
    clear hB r0 r1
    have r0 : w2.cell? ⟨W.heap.size, 0, none⟩ = some (.slice p n cap) := R2.out.cell (i := 0) (by decide)
    have r1 : w2.cell? ⟨W.heap.size, 1, none⟩ = some (.int .i64 st) := R2.out.cell (i := 1) (by decide)
    go_wp2_with fail
    refine (impl_class hb hn w2).mono ?_
    rintro e w3 ⟨rfl, hB⟩
    have B3 : Hid (Below W.heap.size W w3) := B2.out.trans (hB.mono B2.out.size)
    have R3 : Hid (w3.rowIs W.heap.size 29 2 (rowF [.slice p n cap, .int .i64 st])) := R2.out.of_block (hB.block _ R2.out.lt)
    clear hB r0 r1
    go_wp2
    go_ret2
    exact ⟨by rw [HO.out, HV.out]; rfl, B3.out⟩
  have HO : Hid (okS cs n st a b = true) := by show _ = _; unfold okS; rw [hw, ha, hb]; rfl
  obtain ⟨R, HR⟩ : ∃ R, Hid (subC cs a b = R) := ⟨_, rfl⟩
  have HV : Hid (subV cs n st a b = R) := by show _ = _; unfold subV; rw [HO.out, HR.out]; rfl
  rw [HO.out, HV.out]
  obtain ⟨a0, a1⟩ := inR_out ha
  obtain ⟨b0, b1⟩ := inR_out hb
  have HOK : Hid (∀ k, k < n → ClassOk cs k) := (world_out hw).2.2
  go_enter Try.func32, Try.ntmps32
  go_wp2_with fail
  rw [hX.out]
  have hc := impl_world p n cap cs st c X hf hs (h.out.kept HX.out)
  rw [hw] at hc
  refine hc.mono ?_
  rintro e w1 ⟨rfl, hB⟩
  have B1 : Hid (Below W.heap.size W w1) := HX.out.trans (hB.mono HX.out.size)
  have R1 : Hid (w1.rowIs W.heap.size 29 2 (rowF [.slice p n cap, .int .i64 st])) := HRX.out.of_block (hB.block _ HRX.out.lt)
  clear hB hc
  have r0 : w1.cell? ⟨W.heap.size, 0, none⟩ = some (.slice p n cap) := R1.out.cell (i := 0) (by decide)
  have r1 : w1.cell? ⟨W.heap.size, 1, none⟩ = some (.int .i64 st) := R1.out.cell (i := 1) (by decide)
  go_wp2_with fail
  refine (impl_class ha hn w1).mono ?_
  rintro e w2 ⟨rfl, hB⟩
  have B2 : Hid (Below W.heap.size W w2) := B1.out.trans (hB.mono B1.out.size)
  have R2 : Hid (w2.rowIs W.heap.size 29 2 (rowF [.slice p n cap, .int .i64 st])) := R1.out.of_block (hB.block _ R1.out.lt)
  clear hB r0 r1
  have r0 : w2.cell? ⟨W.heap.size, 0, none⟩ = some (.slice p n cap) := R2.out.cell (i := 0) (by decide)
  have r1 : w2.cell? ⟨W.heap.size, 1, none⟩ = some (.int .i64 st) := R2.out.cell (i := 1) (by decide)
  go_wp2_with fail
  refine (impl_class hb hn w2).mono ?_
  rintro e w3 ⟨rfl, hB⟩
  have B3 : Hid (Below W.heap.size W w3) := B2.out.trans (hB.mono B2.out.size)
  have R3 : Hid (w3.rowIs W.heap.size 29 2 (rowF [.slice p n cap, .int .i64 st])) := R2.out.of_block (hB.block _ R2.out.lt)
  clear hB r0 r1
  have r0 : w3.cell? ⟨W.heap.size, 0, none⟩ = some (.slice p n cap) := R3.out.cell (i := 0) (by decide)
  go_wp2
  go_loop [8] (fun vk => ∃ k : Int, -1 ≤ k ∧ k < (n : Int) ∧ vk = .int .i64 k ∧ Hid (subC cs k b = R)) (fun vk => (intOf vk + 1).toNat)
  case atStart => exact ⟨a, by omega, by omega, rfl, HR⟩
  case round =>
    obtain ⟨k, hk0, hk1, rfl, HF⟩ := hrel
    by_cases hneg : k = -1
    · subst hneg
      have HE : Hid (R = false) := by show _ = _; rw [← HF.out]; exact sub_low HOK.out hk1 (by omega)
      go_wp2
      go_ret2
      exact ⟨by rw [HE.out]; rfl, B3.out⟩
    have n1 : (k == -1) = false := by simpa using hneg
    have n2 : decide (k = -1) = false := decide_eq_false hneg
    have n3 : (k != -1) = true := by simpa using hneg
    obtain ⟨q, rfl⟩ : ∃ q : Nat, k = (q : Int) := ⟨k.toNat, by omega⟩
    have hq : q < n := by omega
    by_cases he : (q : Int) = b
    · subst he
      have HE : Hid (R = true) := by show _ = _; rw [← HF.out]; exact sub_same _ _
      clear hneg
      go_wp2
      go_ret2
      exact ⟨by rw [HE.out]; rfl, B3.out⟩
    obtain ⟨bl, o, ma, mc, hp, hbl, c0, c1, hI⟩ := class_at h.out hf.out B3.out hq
    obtain ⟨⟨hu0, hu1⟩, _, _⟩ := HOK.out q hq
    have HE : Hid (subC cs (upC cs q) b = R) := by show _ = _; rw [← HF.out]; exact (sub_up HOK.out hq he).symm
    have e1 : ((q : Int) == b) = false := by simpa using he
    have e2 : decide ((q : Int) = b) = false := decide_eq_false he
    obtain ⟨u, HU⟩ : ∃ u, Hid (upC cs q = u) := ⟨_, rfl⟩
    rw [HU.out] at c0 hu0 hu1 HE
    subst hp
    clear hI c1 hneg he
    go_wp2
    go_round
    case rel => exact ⟨u, hu0, by omega, rfl, HE⟩
    case measure => simp [intOf]; omega
set_option maxHeartbeats 4000000 in
theorem impl_newcache (a : Option Addr) (n cap : Nat) (cs : Nat → Dv) (st m : Int) (c : Bool) (W : World) (hf : Hid (Fits shClassS (.l n 2 cs))) (hs : Hid (szD (.l n 2 cs) ≤ 1048576)) (h : Hid (Holds W c (.l n 2 cs) (.slice a n cap))) :
    Calls Try.prog 21 #[.agg #[.slice a n cap, .int .i64 st], .int .i64 m] W fun e W' => e = .returned (.tuple #[.agg #[.int .i64 (nameN cs n st m), .int .i64 0, .slice none 0 0, .int .i64 (stampN cs n st m), .int .i64 0, .int .i64 0], .bool (okN cs n st m)]) ∧ Below W.heap.size W W' := by
  obtain ⟨P, HP⟩ : ∃ P, Hid (nameN cs n st m = P) := ⟨_, rfl⟩
  obtain ⟨S, HS⟩ : ∃ S, Hid (stampN cs n st m = S) := ⟨_, rfl⟩
  obtain ⟨O, HO⟩ : ∃ O, Hid (okN cs n st m = O) := ⟨_, rfl⟩
  have HNO : Hid (okN cs n st m = false → P = 0 ∧ S = 0) := fun q => by rw [← HP.out, ← HS.out]; exact newN_no q
  have HYES : Hid (okN cs n st m = true → P = m ∧ S = st) := fun q => by rw [← HP.out, ← HS.out]; exact newN_yes q
  rw [HO.out] at HNO HYES ⊢
  rw [HP.out, HS.out]
  obtain ⟨X, hX⟩ : ∃ X, Hid ((W.alloc (.cells #[.slice a n cap, .int .i64 st] 29)).alloc (.cells #[.int .i64 0, .int .i64 0, .slice none 0 0, .int .i64 0, .int .i64 0, .int .i64 0] 42) = X) := ⟨_, rfl⟩
  have HX : Hid (Below W.heap.size W X) := by show Below _ _ _; rw [← hX.out]; go_grown
  have HRX : Hid (X.rowIs W.heap.size 29 2 (rowF [.slice a n cap, .int .i64 st])) := by show World.rowIs _ _ _ _ _; rw [← hX.out]; exact (row_of W #[.slice a n cap, .int .i64 st] _).alloc _
  have HCX : Hid (X.rowIs (W.heap.size + 1) 42 6 (rowF [.int .i64 0, .int .i64 0, .slice none 0 0, .int .i64 0, .int .i64 0, .int .i64 0])) := by
    have q := row_of (W.alloc (.cells #[.slice a n cap, .int .i64 st] 29)) #[.int .i64 0, .int .i64 0, .slice none 0 0, .int .i64 0, .int .i64 0, .int .i64 0] 42
    rw [show (W.alloc (.cells #[.slice a n cap, .int .i64 st] 29)).heap.size = W.heap.size + 1 by simp] at q
    show World.rowIs _ _ _ _ _
    rw [← hX.out]; exact q
  go_enter Try.func21, Try.ntmps21
  go_wp2_with fail
  rw [hX.out]
  have hc := impl_world a n cap cs st c X hf hs (h.out.kept HX.out)
  cases hw : worldB cs n st
  · rw [hw] at hc
    have hO : O = false := by rw [← HO.out]; unfold okN; rw [hw]; rfl
    obtain ⟨p0, s0⟩ := HNO.out hO
    subst hO p0 s0
    refine hc.mono ?_
    rintro e w1 ⟨rfl, hB⟩
    have B1 : Hid (Below W.heap.size W w1) := HX.out.trans (hB.mono HX.out.size)
    have C1 : Hid (w1.rowIs (W.heap.size + 1) 42 6 (rowF [.int .i64 0, .int .i64 0, .slice none 0 0, .int .i64 0, .int .i64 0, .int .i64 0])) := HCX.out.of_block (hB.block _ HCX.out.lt)
    clear hB hc
    have k0 : w1.cell? ⟨W.heap.size + 1, 0, none⟩ = some (.int .i64 0) := C1.out.cell (i := 0) (by decide)
    have z0 : w1.frozen? ⟨W.heap.size + 1, 0, none⟩ = false := C1.out.frozen 0
    have k1 : w1.cell? ⟨W.heap.size + 1, 1, none⟩ = some (.int .i64 0) := C1.out.cell (i := 1) (by decide)
    have z1 : w1.frozen? ⟨W.heap.size + 1, 1, none⟩ = false := C1.out.frozen 1
    have k2 : w1.cell? ⟨W.heap.size + 1, 2, none⟩ = some (.slice none 0 0) := C1.out.cell (i := 2) (by decide)
    have z2 : w1.frozen? ⟨W.heap.size + 1, 2, none⟩ = false := C1.out.frozen 2
    have k3 : w1.cell? ⟨W.heap.size + 1, 3, none⟩ = some (.int .i64 0) := C1.out.cell (i := 3) (by decide)
    have z3 : w1.frozen? ⟨W.heap.size + 1, 3, none⟩ = false := C1.out.frozen 3
    have k4 : w1.cell? ⟨W.heap.size + 1, 4, none⟩ = some (.int .i64 0) := C1.out.cell (i := 4) (by decide)
    have z4 : w1.frozen? ⟨W.heap.size + 1, 4, none⟩ = false := C1.out.frozen 4
    have k5 : w1.cell? ⟨W.heap.size + 1, 5, none⟩ = some (.int .i64 0) := C1.out.cell (i := 5) (by decide)
    have z5 : w1.frozen? ⟨W.heap.size + 1, 5, none⟩ = false := C1.out.frozen 5
    have lC := C1.out.lt
    go_wp2
    refine bodyPost_ret (v := .tuple #[.agg #[.int .i64 0, .int .i64 0, .slice none 0 0, .int .i64 0, .int .i64 0, .int .i64 0], .bool false]) (by simp only [results, Try.results21]; go_simp) rfl ⟨rfl, ?_⟩
    refine Below.trans B1.out ?_
    iterate 6 refine Below.setCell ?_ (by simp; try omega) _
    exact Below.refl _ _
  rw [hw] at hc
  refine hc.mono ?_
  rintro e w1 ⟨rfl, hB⟩
  have B1 : Hid (Below W.heap.size W w1) := HX.out.trans (hB.mono HX.out.size)
  have C1 : Hid (w1.rowIs (W.heap.size + 1) 42 6 (rowF [.int .i64 0, .int .i64 0, .slice none 0 0, .int .i64 0, .int .i64 0, .int .i64 0])) := HCX.out.of_block (hB.block _ HCX.out.lt)
  have R1 : Hid (w1.rowIs W.heap.size 29 2 (rowF [.slice a n cap, .int .i64 st])) := HRX.out.of_block (hB.block _ HRX.out.lt)
  have r1 : w1.cell? ⟨W.heap.size, 1, none⟩ = some (.int .i64 st) := R1.out.cell (i := 1) (by decide)
  clear hB hc
  cases hm : inR m 0 4
  · have hO : O = false := by rw [← HO.out]; unfold okN; rw [hm]; simp
    obtain ⟨p0, s0⟩ := HNO.out hO
    subst hO p0 s0
    have k0 : w1.cell? ⟨W.heap.size + 1, 0, none⟩ = some (.int .i64 0) := C1.out.cell (i := 0) (by decide)
    have z0 : w1.frozen? ⟨W.heap.size + 1, 0, none⟩ = false := C1.out.frozen 0
    have k1 : w1.cell? ⟨W.heap.size + 1, 1, none⟩ = some (.int .i64 0) := C1.out.cell (i := 1) (by decide)
    have z1 : w1.frozen? ⟨W.heap.size + 1, 1, none⟩ = false := C1.out.frozen 1
    have k2 : w1.cell? ⟨W.heap.size + 1, 2, none⟩ = some (.slice none 0 0) := C1.out.cell (i := 2) (by decide)
    have z2 : w1.frozen? ⟨W.heap.size + 1, 2, none⟩ = false := C1.out.frozen 2
    have k3 : w1.cell? ⟨W.heap.size + 1, 3, none⟩ = some (.int .i64 0) := C1.out.cell (i := 3) (by decide)
    have z3 : w1.frozen? ⟨W.heap.size + 1, 3, none⟩ = false := C1.out.frozen 3
    have k4 : w1.cell? ⟨W.heap.size + 1, 4, none⟩ = some (.int .i64 0) := C1.out.cell (i := 4) (by decide)
    have z4 : w1.frozen? ⟨W.heap.size + 1, 4, none⟩ = false := C1.out.frozen 4
    have k5 : w1.cell? ⟨W.heap.size + 1, 5, none⟩ = some (.int .i64 0) := C1.out.cell (i := 5) (by decide)
    have z5 : w1.frozen? ⟨W.heap.size + 1, 5, none⟩ = false := C1.out.frozen 5
    have lC := C1.out.lt
    go_wp2_with (go_at_call 46; refine (mname_quiet hm _).mono ?_; rintro e w' ⟨rfl, hw'⟩; rw [hw']; clear hw' w')
    refine bodyPost_ret (v := .tuple #[.agg #[.int .i64 0, .int .i64 0, .slice none 0 0, .int .i64 0, .int .i64 0, .int .i64 0], .bool false]) (by simp only [results, Try.results21]; go_simp) rfl ⟨rfl, ?_⟩
    refine Below.trans B1.out ?_
    iterate 6 refine Below.setCell ?_ (by simp; try omega) _
    exact Below.refl _ _
  · have hO : O = true := by rw [← HO.out]; unfold okN; rw [hw, hm]; rfl
    obtain ⟨p0, s0⟩ := HYES.out hO
    subst hO p0 s0
    have k0 : w1.cell? ⟨W.heap.size + 1, 0, none⟩ = some (.int .i64 0) := C1.out.cell (i := 0) (by decide)
    have z0 : w1.frozen? ⟨W.heap.size + 1, 0, none⟩ = false := C1.out.frozen 0
    have k1 : w1.cell? ⟨W.heap.size + 1, 1, none⟩ = some (.int .i64 0) := C1.out.cell (i := 1) (by decide)
    have z1 : w1.frozen? ⟨W.heap.size + 1, 1, none⟩ = false := C1.out.frozen 1
    have k2 : w1.cell? ⟨W.heap.size + 1, 2, none⟩ = some (.slice none 0 0) := C1.out.cell (i := 2) (by decide)
    have z2 : w1.frozen? ⟨W.heap.size + 1, 2, none⟩ = false := C1.out.frozen 2
    have k3 : w1.cell? ⟨W.heap.size + 1, 3, none⟩ = some (.int .i64 0) := C1.out.cell (i := 3) (by decide)
    have z3 : w1.frozen? ⟨W.heap.size + 1, 3, none⟩ = false := C1.out.frozen 3
    have k4 : w1.cell? ⟨W.heap.size + 1, 4, none⟩ = some (.int .i64 0) := C1.out.cell (i := 4) (by decide)
    have z4 : w1.frozen? ⟨W.heap.size + 1, 4, none⟩ = false := C1.out.frozen 4
    have k5 : w1.cell? ⟨W.heap.size + 1, 5, none⟩ = some (.int .i64 0) := C1.out.cell (i := 5) (by decide)
    have z5 : w1.frozen? ⟨W.heap.size + 1, 5, none⟩ = false := C1.out.frozen 5
    have lC := C1.out.lt
    go_wp2_with (go_at_call 46; refine (mname_quiet hm _).mono ?_; rintro e w' ⟨rfl, hw'⟩; rw [hw']; clear hw' w')
    refine bodyPost_ret (v := .tuple #[.agg #[.int .i64 P, .int .i64 0, .slice none 0 0, .int .i64 S, .int .i64 0, .int .i64 0], .bool true]) (by simp only [results, Try.results21]; go_simp) rfl ⟨rfl, ?_⟩
    refine Below.trans B1.out ?_
    iterate 6 refine Below.setCell ?_ (by simp; try omega) _
    exact Below.refl _ _
end Go.Proofs.Yticgipmaflhplaa.walks
