/-
  What the specification's GoodWorld, l12Class, l12Name, l12Find, FindMethod answer.
-/
import Derived.Test.YticgipmaflhplaaProg
import Derived.Test.YticgipmaflhplaaMagMath
import Derived.Test.YticgipmaflhplaaWorldMath
import Derived.Test.YticgipmaflhplaaInts
import Derived.Test.YticgipmaflhplaaDeep
import Derived.Test.YticgipmaflhplaaDeepRow
import Derived.Test.YticgipmaflhplaaDeepC
import Derived.WalkKit
import Derived.WalkSpells
import Derived.Below
import Derived.Handy
import Derived.Deep.QuietTactic
import Derived.BigQuiet
import Derived.Deep.DeepFit
namespace Go.Proofs.Yticgipmaflhplaa.walks
open Go.RowKit Go.Proofs.Yticgipmaflhplaa.math Go.Proofs.Yticgipmaflhplaa.ints Go.Proofs.Yticgipmaflhplaa.deep
set_option linter.unusedVariables false
set_option maxRecDepth 100000

theorem belowN {B : Nat} {W w : World} (h : Below B W w) : ∀ q, Below B W (w.drewN q)
  | 0 => h
  | q + 1 => (belowN h q).drew
theorem in_quiet {n lo hi : Int} {b : Bool} (h : inR n lo hi = b) (W : World) : Calls Try.prog 34 #[.int .i64 n, .int .i64 lo, .int .i64 hi] W fun e W' => e = .returned (.bool b) ∧ W' = W := by
  subst h
  by_cases h0 : lo ≤ n
  rotate_left
  · have k0 : n < lo := by omega
    have d0 : decide (lo ≤ n) = false := decide_eq_false h0
    rw [inR_lt k0]
    clear h0
    go_enter Try.func34, Try.ntmps34
    go_wp2
    go_ret
    exact ⟨rfl, rfl⟩
  by_cases h1 : n ≤ hi
  rotate_left
  · have k1 : hi < n := by omega
    have d1 : decide (n ≤ hi) = false := decide_eq_false (by omega)
    rw [inR_gt k1]
    clear h1
    go_enter Try.func34, Try.ntmps34
    go_wp2
    go_ret
    exact ⟨rfl, rfl⟩
  rw [inR_mk h0 h1]
  have d1 : decide (n ≤ hi) = true := decide_eq_true (by omega)
  have d0 : decide (lo ≤ n) = true := decide_eq_true h0
  go_enter Try.func34, Try.ntmps34
  go_wp2
  go_ret
  exact ⟨rfl, rfl⟩
/-- One class of a world, in a world that has only grown. -/
theorem class_at {W wr : World} {c : Bool} {a : Option Addr} {n cap k : Nat} {cs : Nat → Dv} (h : Holds W c (.l n 2 cs) (.slice a n cap)) (hf : Fits shClassS (.l n 2 cs)) (hB : Below W.heap.size W wr) (hk : k < n) : ∃ b o ma mc, a = some ⟨b, o, none⟩ ∧ b < W.heap.size ∧ wr.cell? ⟨b, o + k * 2, none⟩ = some (.int .i64 (upC cs k)) ∧ wr.cell? ⟨b, o + k * 2 + 1, none⟩ = some (.slice ma (mlC cs k) mc) ∧ Ints wr ma (mtsC cs k) := by
  obtain ⟨b, o, ha, hb, hc⟩ := h.cells hB (show 0 < n * 2 by omega)
  obtain ⟨u0, d0, q0⟩ := hc (k * 2) (by omega)
  obtain ⟨u1, d1, q1⟩ := hc (k * 2 + 1) (by omega)
  obtain ⟨x, hx⟩ := (hf.cell hk (c := 0) (by decide)).int
  obtain ⟨m, es, he, hes⟩ := (hf.cell hk (c := 1) (by decide)).list
  have hx : cs (k * 2) = .n x := hx
  have he : cs (k * 2 + 1) = .l m 1 es := he
  rw [hx] at q0
  rw [he] at q1
  obtain ⟨ma, mc, ev, _⟩ := q1.slice
  subst ev
  have q0 : u0 = .int .i64 x := q0
  subst q0
  refine ⟨b, o, ma, mc, ha, hb, by rw [d0]; unfold upC; rw [hx]; rfl, by rw [Nat.add_assoc, d1]; unfold mlC; rw [he]; rfl, ?_⟩
  have hi := holds_ints q1 (fun i hi => (hes i hi).int)
  have e : mtsC cs k = intsOf es (m * 1) := by
    unfold mtsC mlC
    rw [he, Nat.mul_one]; rfl
  rw [e]; exact hi
set_option maxHeartbeats 4000000 in
theorem spec_world (a : Option Addr) (n cap : Nat) (cs : Nat → Dv) (st : Int) (c : Bool) (W : World) (hf : Hid (Fits shClassS (.l n 2 cs))) (hs : Hid (szD (.l n 2 cs) ≤ 1048576)) (h : Hid (Holds W c (.l n 2 cs) (.slice a n cap))) :
    Calls Try.prog 10 #[.agg #[.slice a n cap, .int .i64 st]] W fun e W' => e = .returned (.bool (worldB cs n st)) ∧ Below W.heap.size W W' := by
  have hn : n ≤ 1048576 := Nat.le_trans (Nat.le_add_right _ _) hs.out
  go_enter Try.func10, Try.ntmps10
  go_wp2
  go_loopw [10] (fun vi wr => ∃ k : Nat, k ≤ n ∧ vi = .int .i64 k ∧ Hid (∀ j, j < k → ClassOk cs j) ∧ Hid (wr.rowIs W.heap.size 29 2 (rowF [.slice a n cap, .int .i64 st])) ∧ Hid (Below W.heap.size W wr)) (fun vi _ => n - (intOf vi).toNat)
  case atStart => exact ⟨0, Nat.zero_le _, rfl, fun j hj => by omega, row_of W #[.slice a n cap, .int .i64 st] _, by show Below _ _ _; go_grown⟩
  case round =>
    obtain ⟨k, hk, rfl, HG, HR, HB⟩ := hrel
    have r0 : wr.cell? ⟨W.heap.size, 0, none⟩ = some (.slice a n cap) := HR.out.cell (i := 0) (by decide)
    have r1 : wr.cell? ⟨W.heap.size, 1, none⟩ = some (.int .i64 st) := HR.out.cell (i := 1) (by decide)
    have rl := HR.out.lt
    by_cases hlt : k < n
    rotate_left
    · have HALL : Hid (∀ j, j < n → ClassOk cs j) := fun j hj => HG.out j (by omega)
      cases h1 : inR (n : Int) 1 8
      · have HE : Hid (worldB cs n st = false) := world_n h1
        go_wp2_with (go_at_call 34; refine (in_quiet h1 _).mono ?_; rintro e w' ⟨rfl, hw⟩; rw [hw]; clear hw w')
        go_ret
        exact ⟨by rw [HE.out]; rfl, HB.out⟩
      cases h2 : inR st 0 1000000
      · have HE : Hid (worldB cs n st = false) := world_st h2
        go_wp2_with (go_at_call 34; (first | go_fit (in_quiet h1 _) | go_fit (in_quiet h2 _)); rintro e w' ⟨rfl, hw⟩; rw [hw]; clear hw w')
        go_ret
        exact ⟨by rw [HE.out]; rfl, HB.out⟩
      · have HE : Hid (worldB cs n st = true) := world_yes h1 h2 HALL.out
        go_wp2_with (go_at_call 34; (first | go_fit (in_quiet h1 _) | go_fit (in_quiet h2 _)); rintro e w' ⟨rfl, hw⟩; rw [hw]; clear hw w')
        go_ret
        exact ⟨by rw [HE.out]; rfl, HB.out⟩
    have hltI : (k : Int) < (n : Int) := by omega
    obtain ⟨b, o, ma, mc, ha, hb, c0, c1, hI⟩ := class_at h.out hf.out HB.out hlt
    have HI : Hid (Ints wr ma (mtsC cs k)) := hI
    have hml : Hid ((mtsC cs k).length = mlC cs k) := mts_len _ _
    clear hI
    subst ha
    have hbw : b < wr.heap.size := by have := HB.out.size; omega
    have HNO : Hid ((upC cs k < -1 ∨ (k : Int) ≤ upC cs k ∨ mlC cs k ≠ 5 ∨ ∃ m, m < 5 ∧ (mtC cs k m < 0 ∨ 1000 < mtC cs k m)) → worldB cs n st = false) := fun q => world_bad hlt (fun r => by
      obtain ⟨⟨r0, r1⟩, r2, r3⟩ := r
      rcases q with q | q | q | ⟨m, hm, q⟩
      · omega
      · omega
      · exact q r2
      · have := r3 m hm; omega)
    have HYES : Hid (-1 ≤ upC cs k → upC cs k < (k : Int) → mlC cs k = 5 → (∀ m, m < 5 → 0 ≤ mtC cs k m ∧ mtC cs k m ≤ 1000) → ∀ j, j < k + 1 → ClassOk cs j) := fun q0 q1 q2 q3 i hi => by
      by_cases e : i = k
      · subst e; exact ⟨⟨q0, q1⟩, q2, q3⟩
      · exact HG.out i (by omega)
    have HMT : Hid (∀ m, (mtsC cs k).getD m 0 = mtC cs k m) := fun m => rfl
    obtain ⟨u, HU⟩ : ∃ u, Hid (upC cs k = u) := ⟨_, rfl⟩
    obtain ⟨L, HL⟩ : ∃ L, Hid (mlC cs k = L) := ⟨_, rfl⟩
    have hmx : L ≤ 1048576 := by
      have q := sz_at (len := n) (sz := 2) (cs := cs) (i := k * 2 + 1) (by omega)
      have q2 := hs.out
      have q3 : mlC cs k ≤ szD (cs (k * 2 + 1)) := by
        unfold mlC
        cases cs (k * 2 + 1) with
        | n x => exact Nat.zero_le _
        | t x => exact Nat.zero_le _
        | l a b c => exact Nat.le_add_right _ _
      rw [HL.out] at q3; omega
    rw [HU.out] at c0 HNO HYES
    rw [HL.out] at c1 HNO HYES hml
    obtain ⟨X, hX⟩ : ∃ X, Hid (wr.alloc (.cells #[.int .i64 u, .slice ma L mc] 59) = X) := ⟨_, rfl⟩
    have HX : Hid (Below wr.heap.size wr X) := by show Below _ _ _; rw [← hX.out]; repeat (first | exact Below.refl _ _ | refine Below.drew ?_ | refine Below.setCell ?_ (by simp; try omega) _ | refine Below.alloc ?_ (by simp; try omega) _)
    have HXB : Hid (Below W.heap.size W X) := HB.out.trans (HX.out.mono HB.out.size)
    have HRX : Hid (X.rowIs W.heap.size 29 2 (rowF [.slice (some ⟨b, o, none⟩) n cap, .int .i64 st])) := HR.out.of_block (HX.out.block _ rl)
    have e1 : X.cell? ⟨wr.heap.size, 1, none⟩ = some (.slice ma L mc) := by rw [← hX.out]; go_simp
    by_cases u0 : u < -1
    · have HE : Hid (worldB cs n st = false) := HNO.out (Or.inl u0)
      have d0 : decide (u < -1) = true := decide_eq_true u0
      go_wp2
      go_ret
      exact ⟨by rw [HE.out]; rfl, by rw [hX.out]; exact HXB.out⟩
    have u0' : -1 ≤ u := by omega
    have d0 : decide (u < -1) = false := decide_eq_false u0
    clear u0
    by_cases u1 : (k : Int) ≤ u
    · have HE : Hid (worldB cs n st = false) := HNO.out (Or.inr (Or.inl u1))
      have d1 : decide (u ≥ (k : Int)) = true := decide_eq_true u1
      go_wp2
      go_ret
      exact ⟨by rw [HE.out]; rfl, by rw [hX.out]; exact HXB.out⟩
    have u1' : u < (k : Int) := by omega
    have d1 : decide (u ≥ (k : Int)) = false := decide_eq_false u1
    clear u1
    by_cases l5 : L = 5
    rotate_left
    · have HE : Hid (worldB cs n st = false) := HNO.out (Or.inr (Or.inr (Or.inl l5)))
      have lI : (L : Int) ≠ 5 := by omega
      have d2 : decide ((L : Int) = 5) = false := decide_eq_false lI
      have d3 : ((L : Int) == 5) = false := by simpa using lI
      have d4 : ((L : Int) != 5) = true := by simpa using lI
      have d5 : decide (L = 5) = false := decide_eq_false l5
      have d6 : (L == 5) = false := by simpa using l5
      go_wp2
      go_ret
      exact ⟨by rw [HE.out]; rfl, by rw [hX.out]; exact HXB.out⟩
    subst l5
    go_wp2
    rw [hX.out]
    have HIX : Hid (Ints X ma (mtsC cs k)) := HI.out.kept HX.out
    clear c0 c1 HI hX r0 r1 HX
    obtain ⟨wo, hwo⟩ : ∃ wo, wo = wr := ⟨_, rfl⟩
    subst hwo
    go_loop [33] (fun vj => ∃ j : Nat, j ≤ 5 ∧ vj = .int .i64 j ∧ Hid (∀ m, m < j → 0 ≤ mtC cs k m ∧ mtC cs k m ≤ 1000)) (fun vj => 5 - (intOf vj).toNat)
    case atStart => exact ⟨0, Nat.zero_le _, rfl, fun j hj => by omega⟩
    case round =>
      obtain ⟨j, hj, rfl, HM⟩ := hrel
      by_cases hjl : j < 5
      rotate_left
      · have HN : Hid (∀ j, j < k + 1 → ClassOk cs j) := HYES.out u0' u1' (by simp) (fun m hm => HM.out m (by omega))
        go_wp2
        go_roundw
        case rel => exact ⟨k + 1, by omega, by go_num, HN, HRX, HXB⟩
        case measure => simp [intOf]; omega
      obtain ⟨b', o', ha, hc⟩ := HIX.out.at (Below.refl _ _) (k := j) (by rw [hml.out]; exact hjl)
      subst ha
      have hjI : (j : Int) < 5 := by omega
      rw [HMT.out] at hc
      obtain ⟨x, HXX⟩ : ∃ x, Hid (mtC cs k j = x) := ⟨_, rfl⟩
      rw [HXX.out] at hc
      cases hr : inR x 0 1000
      · have HE : Hid (worldB cs n st = false) := HNO.out (Or.inr (Or.inr (Or.inr ⟨j, hjl, by
          rw [HXX.out]
          by_cases q : x < 0
          · exact Or.inl q
          · right
            by_cases q2 : 1000 < x
            · exact q2
            · rw [inR_mk (by omega) (by omega)] at hr; cases hr⟩)))
        go_wp2_with (go_at_call 34; refine (in_quiet hr _).mono ?_; rintro e w' ⟨rfl, hw⟩; rw [hw]; clear hw w')
        go_ret
        exact ⟨by rw [HE.out]; rfl, HXB.out⟩
      · have HM' : Hid (∀ m, m < j + 1 → 0 ≤ mtC cs k m ∧ mtC cs k m ≤ 1000) := fun m hm => by
          by_cases e : m = j
          · subst e; rw [HXX.out]; exact inR_out hr
          · exact HM.out m (by omega)
        go_wp2_with (go_at_call 34; refine (in_quiet hr _).mono ?_; rintro e w' ⟨rfl, hw⟩; rw [hw]; clear hw w')
        go_round
        case rel => exact ⟨j + 1, by omega, by go_num, HM'⟩
        case measure => simp [intOf]; omega
theorem name_quiet {m : Int} {b : Bool} (h : inR m 0 4 = b) (W : World) : Calls Try.prog 40 #[.int .i64 m] W fun e W' => e = .returned (.bool b) ∧ W' = W := by
  go_enter Try.func40, Try.ntmps40
  go_wp2_with (go_at_call 34; refine (in_quiet h _).mono ?_; rintro e w' ⟨rfl, hw⟩; rw [hw]; clear hw w')
  go_ret
  exact ⟨rfl, rfl⟩
theorem spec_class {a : Option Addr} {n cap : Nat} {st k : Int} {b : Bool} (h : inR k 0 ((n : Int) - 1) = b) (hn : n ≤ 1048576) (W : World) : Calls Try.prog 39 #[.agg #[.slice a n cap, .int .i64 st], .int .i64 k] W fun e W' => e = .returned (.bool b) ∧ Below W.heap.size W W' := by
  subst h
  by_cases h0 : 0 ≤ k
  rotate_left
  · have k0 : k < 0 := by omega
    have d0 : decide (k ≥ 0) = false := decide_eq_false h0
    rw [inR_lt k0]
    clear h0
    go_enter Try.func39, Try.ntmps39
    go_wp2
    go_ret
    exact ⟨rfl, by go_grown⟩
  have d0 : decide (k ≥ 0) = true := decide_eq_true h0
  by_cases h1 : k < (n : Int)
  · rw [inR_mk h0 (by omega)]
    have d1 : decide (k < (n : Int)) = true := decide_eq_true h1
    go_enter Try.func39, Try.ntmps39
    go_wp2
    go_ret
    exact ⟨rfl, by go_grown⟩
  · have h1' : (n : Int) ≤ k := by omega
    rw [inR_gt (by omega)]
    have d1 : decide (k < (n : Int)) = false := decide_eq_false h1
    clear h1
    go_enter Try.func39, Try.ntmps39
    go_wp2
    go_ret
    exact ⟨rfl, by go_grown⟩
set_option maxHeartbeats 4000000 in
theorem spec_find (a : Option Addr) (n cap : Nat) (cs : Nat → Dv) (st : Int) (k0 : Int) (m : Nat) (c : Bool) (W : World) (hf : Hid (Fits shClassS (.l n 2 cs))) (hw : Hid (worldB cs n st = true)) (hk00 : -1 ≤ k0) (hk : k0 < (n : Int)) (hm : m < 5) (h : Hid (Holds W c (.l n 2 cs) (.slice a n cap))) :
    Calls Try.prog 41 #[.agg #[.slice a n cap, .int .i64 st], .int .i64 k0, .int .i64 (m : Int)] W fun e W' => e = .returned (.int .i64 (findC cs k0 m)) ∧ Below W.heap.size W W' := by
  obtain ⟨⟨hn0, hn1⟩, _, hok⟩ := world_out hw.out
  have HOK : Hid (∀ k, k < n → ClassOk cs k) := hok
  clear hok
  obtain ⟨R, HR0⟩ : ∃ R, Hid (findC cs k0 m = R) := ⟨_, rfl⟩
  rw [HR0.out]
  obtain ⟨X, hX⟩ : ∃ X, Hid (W.alloc (.cells #[.slice a n cap, .int .i64 st] 29) = X) := ⟨_, rfl⟩
  have HX : Hid (Below W.heap.size W X) := by show Below _ _ _; rw [← hX.out]; repeat (first | exact Below.refl _ _ | refine Below.drew ?_ | refine Below.setCell ?_ (by simp; try omega) _ | refine Below.alloc ?_ (by simp; try omega) _)
  have r0 : X.cell? ⟨W.heap.size, 0, none⟩ = some (.slice a n cap) := by rw [← hX.out]; go_simp
  go_enter Try.func41, Try.ntmps41
  go_wp2
  rw [hX.out]
  clear hX
  go_loop [1] (fun vk => ∃ k : Int, -1 ≤ k ∧ k < (n : Int) ∧ vk = .int .i64 k ∧ Hid (findC cs k m = R)) (fun vk => (intOf vk + 1).toNat)
  case atStart => exact ⟨k0, hk00, hk, rfl, HR0⟩
  case round =>
    obtain ⟨k, hk0, hk1, rfl, HF⟩ := hrel
    by_cases hneg : k < 0
    · have HE : Hid (R = 0) := by show _ = _; rw [← HF.out]; exact find_neg hneg
      have d0 : decide (k ≥ 0) = false := decide_eq_false (by omega)
      go_wp2
      go_ret
      exact ⟨by rw [HE.out]; rfl, HX.out⟩
    have hpos : 0 ≤ k := by omega
    have d0 : decide (k ≥ 0) = true := decide_eq_true hpos
    clear hneg
    obtain ⟨q, rfl⟩ : ∃ q : Nat, k = (q : Int) := ⟨k.toNat, by omega⟩
    have hq : q < n := by omega
    obtain ⟨b, o, ma, mc, ha, hb, c0, c1, hI⟩ := class_at h.out hf.out HX.out hq
    obtain ⟨⟨hu0, hu1⟩, hl5, _⟩ := HOK.out q hq
    rw [hl5] at c1
    obtain ⟨b', o', ha', hc0⟩ := hI.at (Below.refl _ _) (k := m) (by rw [mts_len, hl5]; exact hm)
    have hc : X.cell? ⟨b', o' + m, none⟩ = some (.int .i64 (mtC cs q m)) := hc0
    clear hc0
    subst ha ha'
    clear hI hl5
    have HOWN : Hid (0 < mtC cs q m → R = mtC cs q m) := fun r => by rw [← HF.out]; exact find_own r
    have HUP : Hid (¬ 0 < mtC cs q m → findC cs (upC cs q) m = R) := fun r => by rw [← HF.out]; exact (find_up hq HOK.out r).symm
    obtain ⟨x, HXX⟩ : ∃ x, Hid (mtC cs q m = x) := ⟨_, rfl⟩
    obtain ⟨u, HU⟩ : ∃ u, Hid (upC cs q = u) := ⟨_, rfl⟩
    rw [HXX.out] at hc HOWN HUP
    rw [HU.out] at c0 hu0 hu1 HUP
    have hmI : (m : Int) < 5 := by omega
    by_cases hx : 0 < x
    · have HE : Hid (R = x) := HOWN.out hx
      have d1 : decide (x > 0) = true := decide_eq_true hx
      go_wp2
      go_ret
      exact ⟨by rw [HE.out]; rfl, HX.out⟩
    · have HE : Hid (findC cs u m = R) := HUP.out hx
      have d1 : decide (x > 0) = false := decide_eq_false hx
      have hx' : x ≤ 0 := by omega
      clear hx
      go_wp2
      go_round
      case rel => exact ⟨u, hu0, by omega, rfl, HE⟩
      case measure => simp [intOf]; omega
set_option maxHeartbeats 4000000 in
theorem spec_findm (a : Option Addr) (n cap : Nat) (cs : Nat → Dv) (st k m : Int) (c : Bool) (W : World) (hf : Hid (Fits shClassS (.l n 2 cs))) (hs : Hid (szD (.l n 2 cs) ≤ 1048576)) (h : Hid (Holds W c (.l n 2 cs) (.slice a n cap))) :
    Calls Try.prog 14 #[.agg #[.slice a n cap, .int .i64 st], .int .i64 k, .int .i64 m] W fun e W' => e = .returned (.tuple #[.int .i64 (findV cs n st k m), .bool (findB cs n st k m)]) ∧ Below W.heap.size W W' := by
  have hn : n ≤ 1048576 := Nat.le_trans (Nat.le_add_right _ _) hs.out
  obtain ⟨V, HV⟩ : ∃ V, Hid (findV cs n st k m = V) := ⟨_, rfl⟩
  have HB0 : Hid (findB cs n st k m = decide (0 < V)) := by show _ = _; unfold findB; rw [HV.out]
  rw [HV.out, HB0.out]
  obtain ⟨X, hX⟩ : ∃ X, Hid (W.alloc (.cells #[.slice a n cap, .int .i64 st] 29) = X) := ⟨_, rfl⟩
  have HX : Hid (Below W.heap.size W X) := by show Below _ _ _; rw [← hX.out]; repeat (first | exact Below.refl _ _ | refine Below.drew ?_ | refine Below.setCell ?_ (by simp; try omega) _ | refine Below.alloc ?_ (by simp; try omega) _)
  have HRX : Hid (X.rowIs W.heap.size 29 2 (rowF [.slice a n cap, .int .i64 st])) := by show World.rowIs _ _ _ _ _; rw [← hX.out]; exact row_of W #[.slice a n cap, .int .i64 st] _
  have HNO : Hid (okF cs n st k m = false → V = 0) := fun q => by rw [← HV.out]; unfold findV; rw [q]; rfl
  cases hw : worldB cs n st
  · have HE : Hid (V = 0) := HNO.out (by unfold okF; rw [hw]; rfl)
    have HD : Hid (decide (0 < V) = false) := by show _ = _; rw [HE.out]; rfl
    rw [HD.out]
    go_enter Try.func14, Try.ntmps14
    go_wp2_with fail
    rw [hX.out]
    have hc := spec_world a n cap cs st c X hf hs (h.out.kept HX.out)
    rw [hw] at hc
    refine hc.mono ?_
    rintro e w1 ⟨rfl, hB⟩
    have B1 : Hid (Below W.heap.size W w1) := HX.out.trans (hB.mono HX.out.size)
    clear hB hc
    go_wp2
    go_ret2
    exact ⟨by rw [HE.out]; rfl, B1.out⟩
  cases hk : inR k 0 ((n : Int) - 1)
  · have HE : Hid (V = 0) := HNO.out (by unfold okF; rw [hk]; simp)
    have HD : Hid (decide (0 < V) = false) := by show _ = _; rw [HE.out]; rfl
    rw [HD.out]
    go_enter Try.func14, Try.ntmps14
    go_wp2_with fail
    rw [hX.out]
    have hc := spec_world a n cap cs st c X hf hs (h.out.kept HX.out)
    rw [hw] at hc
    refine hc.mono ?_
    rintro e w1 ⟨rfl, hB⟩
    have B1 : Hid (Below W.heap.size W w1) := HX.out.trans (hB.mono HX.out.size)
    have R1 : Hid (w1.rowIs W.heap.size 29 2 (rowF [.slice a n cap, .int .i64 st])) := HRX.out.of_block (hB.block _ HRX.out.lt)
    clear hB hc
    have r0 : w1.cell? ⟨W.heap.size, 0, none⟩ = some (.slice a n cap) := R1.out.cell (i := 0) (by decide)
    have r1 : w1.cell? ⟨W.heap.size, 1, none⟩ = some (.int .i64 st) := R1.out.cell (i := 1) (by decide)
    go_wp2_with fail
    refine (spec_class hk hn w1).mono ?_
    rintro e w2 ⟨rfl, hB⟩
    have B2 : Hid (Below W.heap.size W w2) := B1.out.trans (hB.mono B1.out.size)
    clear hB r0 r1
    go_wp2
    go_ret2
    exact ⟨by rw [HE.out]; rfl, B2.out⟩
  cases hm : inR m 0 4
  · have HE : Hid (V = 0) := HNO.out (by unfold okF; rw [hm]; simp)
    have HD : Hid (decide (0 < V) = false) := by show _ = _; rw [HE.out]; rfl
    rw [HD.out]
    go_enter Try.func14, Try.ntmps14
    go_wp2_with fail
    rw [hX.out]
    have hc := spec_world a n cap cs st c X hf hs (h.out.kept HX.out)
    rw [hw] at hc
    refine hc.mono ?_
    rintro e w1 ⟨rfl, hB⟩
    have B1 : Hid (Below W.heap.size W w1) := HX.out.trans (hB.mono HX.out.size)
    have R1 : Hid (w1.rowIs W.heap.size 29 2 (rowF [.slice a n cap, .int .i64 st])) := HRX.out.of_block (hB.block _ HRX.out.lt)
    clear hB hc
    have r0 : w1.cell? ⟨W.heap.size, 0, none⟩ = some (.slice a n cap) := R1.out.cell (i := 0) (by decide)
    have r1 : w1.cell? ⟨W.heap.size, 1, none⟩ = some (.int .i64 st) := R1.out.cell (i := 1) (by decide)
    go_wp2_with fail
    refine (spec_class hk hn w1).mono ?_
    rintro e w2 ⟨rfl, hB⟩
    have B2 : Hid (Below W.heap.size W w2) := B1.out.trans (hB.mono B1.out.size)
    clear hB r0 r1
    go_wp2_with (go_at_call 40; refine (name_quiet hm _).mono ?_; rintro e w' ⟨rfl, hw'⟩; rw [hw']; clear hw' w')
    go_ret2
    exact ⟨by rw [HE.out]; rfl, B2.out⟩
  obtain ⟨hm0, hm1⟩ := inR_out hm
  obtain ⟨hk0, hk1⟩ := inR_out hk
  obtain ⟨mn, rfl⟩ : ∃ mn : Nat, m = (mn : Int) := ⟨m.toNat, by omega⟩
  have HE : Hid (findC cs k mn = V) := by show _ = _; rw [← HV.out]; unfold findV okF; rw [hw, hk, hm]; simp
  have HW : Hid (worldB cs n st = true) := hw
  go_enter Try.func14, Try.ntmps14
  go_wp2_with fail
  rw [hX.out]
  have hc := spec_world a n cap cs st c X hf hs (h.out.kept HX.out)
  rw [hw] at hc
  refine hc.mono ?_
  rintro e w1 ⟨rfl, hB⟩
  have B1 : Hid (Below W.heap.size W w1) := HX.out.trans (hB.mono HX.out.size)
  have R1 : Hid (w1.rowIs W.heap.size 29 2 (rowF [.slice a n cap, .int .i64 st])) := HRX.out.of_block (hB.block _ HRX.out.lt)
  clear hB hc
  have r0 : w1.cell? ⟨W.heap.size, 0, none⟩ = some (.slice a n cap) := R1.out.cell (i := 0) (by decide)
  have r1 : w1.cell? ⟨W.heap.size, 1, none⟩ = some (.int .i64 st) := R1.out.cell (i := 1) (by decide)
  go_wp2_with fail
  refine (spec_class hk hn w1).mono ?_
  rintro e w2 ⟨rfl, hB⟩
  have B2 : Hid (Below W.heap.size W w2) := B1.out.trans (hB.mono B1.out.size)
  have R2 : Hid (w2.rowIs W.heap.size 29 2 (rowF [.slice a n cap, .int .i64 st])) := R1.out.of_block (hB.block _ R1.out.lt)
  clear hB r0 r1
  have r0 : w2.cell? ⟨W.heap.size, 0, none⟩ = some (.slice a n cap) := R2.out.cell (i := 0) (by decide)
  have r1 : w2.cell? ⟨W.heap.size, 1, none⟩ = some (.int .i64 st) := R2.out.cell (i := 1) (by decide)
  go_wp2_with (go_at_call 40; refine (name_quiet hm _).mono ?_; rintro e w' ⟨rfl, hw'⟩; rw [hw']; clear hw' w')
  refine (spec_find a n cap cs st k mn c w2 hf HW (by omega) (by omega) (by omega) (h.out.kept B2.out)).mono ?_
  rw [HE.out]
  rintro e w3 ⟨rfl, hB⟩
  have B3 : Hid (Below W.heap.size W w3) := B2.out.trans (hB.mono B2.out.size)
  clear hB r0 r1
  by_cases hv : 0 < V
  · have HD2 : Hid (decide (0 < V) = true) := decide_eq_true hv
    go_wp2
    go_ret2
    exact ⟨by rw [HD2.out]; rfl, B3.out⟩
  · have HD2 : Hid (decide (0 < V) = false) := decide_eq_false hv
    have hv' : V ≤ 0 := by omega
    have d1 : decide (V > 0) = false := decide_eq_false hv
    clear hv
    go_wp2
    go_ret2
    exact ⟨by rw [HD2.out]; rfl, B3.out⟩
set_option maxHeartbeats 4000000 in
theorem spec_newcache (a : Option Addr) (n cap : Nat) (cs : Nat → Dv) (st m : Int) (c : Bool) (W : World) (hf : Hid (Fits shClassS (.l n 2 cs))) (hs : Hid (szD (.l n 2 cs) ≤ 1048576)) (h : Hid (Holds W c (.l n 2 cs) (.slice a n cap))) :
    Calls Try.prog 20 #[.agg #[.slice a n cap, .int .i64 st], .int .i64 m] W fun e W' => e = .returned (.tuple #[.agg #[.int .i64 (nameN cs n st m), .int .i64 0, .slice none 0 0, .int .i64 (stampN cs n st m), .int .i64 0, .int .i64 0], .bool (okN cs n st m)]) ∧ Below W.heap.size W W' := by
  obtain ⟨P, HP⟩ : ∃ P, Hid (nameN cs n st m = P) := ⟨_, rfl⟩
  obtain ⟨S, HS⟩ : ∃ S, Hid (stampN cs n st m = S) := ⟨_, rfl⟩
  obtain ⟨O, HO⟩ : ∃ O, Hid (okN cs n st m = O) := ⟨_, rfl⟩
  have HNO : Hid (okN cs n st m = false → P = 0 ∧ S = 0) := fun q => by rw [← HP.out, ← HS.out]; exact newN_no q
  have HYES : Hid (okN cs n st m = true → P = m ∧ S = st) := fun q => by rw [← HP.out, ← HS.out]; exact newN_yes q
  rw [HO.out] at HNO HYES ⊢
  rw [HP.out, HS.out]
  obtain ⟨X, hX⟩ : ∃ X, Hid ((W.alloc (.cells #[.slice a n cap, .int .i64 st] 29)).alloc (.cells #[.int .i64 0, .int .i64 0, .slice none 0 0, .int .i64 0, .int .i64 0, .int .i64 0] 42) = X) := ⟨_, rfl⟩
  have HX : Hid (Below W.heap.size W X) := by show Below _ _ _; rw [← hX.out]; go_grown
  have HRX : Hid (X.rowIs W.heap.size 29 2 (rowF [.slice a n cap, .int .i64 st])) := by show World.rowIs _ _ _ _ _; rw [← hX.out]; exact (row_of W #[.slice a n cap, .int .i64 st] _).alloc _
  have HCX : Hid (X.rowIs (W.heap.size + 1) 42 6 (rowF [.int .i64 0, .int .i64 0, .slice none 0 0, .int .i64 0, .int .i64 0, .int .i64 0])) := by
    have q := row_of (W.alloc (.cells #[.slice a n cap, .int .i64 st] 29)) #[.int .i64 0, .int .i64 0, .slice none 0 0, .int .i64 0, .int .i64 0, .int .i64 0] 42
    rw [show (W.alloc (.cells #[.slice a n cap, .int .i64 st] 29)).heap.size = W.heap.size + 1 by simp] at q
    show World.rowIs _ _ _ _ _
    rw [← hX.out]; exact q
  go_enter Try.func20, Try.ntmps20
  go_wp2_with fail
  rw [hX.out]
  have hc := spec_world a n cap cs st c X hf hs (h.out.kept HX.out)
  cases hw : worldB cs n st
  · rw [hw] at hc
    have hO : O = false := by rw [← HO.out]; unfold okN; rw [hw]; rfl
    obtain ⟨p0, s0⟩ := HNO.out hO
    subst hO p0 s0
    refine hc.mono ?_
    rintro e w1 ⟨rfl, hB⟩
    have B1 : Hid (Below W.heap.size W w1) := HX.out.trans (hB.mono HX.out.size)
    have C1 : Hid (w1.rowIs (W.heap.size + 1) 42 6 (rowF [.int .i64 0, .int .i64 0, .slice none 0 0, .int .i64 0, .int .i64 0, .int .i64 0])) := HCX.out.of_block (hB.block _ HCX.out.lt)
    clear hB hc
    have k0 : w1.cell? ⟨W.heap.size + 1, 0, none⟩ = some (.int .i64 0) := C1.out.cell (i := 0) (by decide)
    have z0 : w1.frozen? ⟨W.heap.size + 1, 0, none⟩ = false := C1.out.frozen 0
    have k1 : w1.cell? ⟨W.heap.size + 1, 1, none⟩ = some (.int .i64 0) := C1.out.cell (i := 1) (by decide)
    have z1 : w1.frozen? ⟨W.heap.size + 1, 1, none⟩ = false := C1.out.frozen 1
    have k2 : w1.cell? ⟨W.heap.size + 1, 2, none⟩ = some (.slice none 0 0) := C1.out.cell (i := 2) (by decide)
    have z2 : w1.frozen? ⟨W.heap.size + 1, 2, none⟩ = false := C1.out.frozen 2
    have k3 : w1.cell? ⟨W.heap.size + 1, 3, none⟩ = some (.int .i64 0) := C1.out.cell (i := 3) (by decide)
    have z3 : w1.frozen? ⟨W.heap.size + 1, 3, none⟩ = false := C1.out.frozen 3
    have k4 : w1.cell? ⟨W.heap.size + 1, 4, none⟩ = some (.int .i64 0) := C1.out.cell (i := 4) (by decide)
    have z4 : w1.frozen? ⟨W.heap.size + 1, 4, none⟩ = false := C1.out.frozen 4
    have k5 : w1.cell? ⟨W.heap.size + 1, 5, none⟩ = some (.int .i64 0) := C1.out.cell (i := 5) (by decide)
    have z5 : w1.frozen? ⟨W.heap.size + 1, 5, none⟩ = false := C1.out.frozen 5
    have lC := C1.out.lt
    go_wp2
    refine bodyPost_ret (v := .tuple #[.agg #[.int .i64 0, .int .i64 0, .slice none 0 0, .int .i64 0, .int .i64 0, .int .i64 0], .bool false]) (by simp only [results, Try.results20]; go_simp) rfl ⟨rfl, ?_⟩
    refine Below.trans B1.out ?_
    iterate 6 refine Below.setCell ?_ (by simp; try omega) _
    exact Below.refl _ _
  rw [hw] at hc
  refine hc.mono ?_
  rintro e w1 ⟨rfl, hB⟩
  have B1 : Hid (Below W.heap.size W w1) := HX.out.trans (hB.mono HX.out.size)
  have C1 : Hid (w1.rowIs (W.heap.size + 1) 42 6 (rowF [.int .i64 0, .int .i64 0, .slice none 0 0, .int .i64 0, .int .i64 0, .int .i64 0])) := HCX.out.of_block (hB.block _ HCX.out.lt)
  have R1 : Hid (w1.rowIs W.heap.size 29 2 (rowF [.slice a n cap, .int .i64 st])) := HRX.out.of_block (hB.block _ HRX.out.lt)
  have r1 : w1.cell? ⟨W.heap.size, 1, none⟩ = some (.int .i64 st) := R1.out.cell (i := 1) (by decide)
  clear hB hc
  cases hm : inR m 0 4
  · have hO : O = false := by rw [← HO.out]; unfold okN; rw [hm]; simp
    obtain ⟨p0, s0⟩ := HNO.out hO
    subst hO p0 s0
    have k0 : w1.cell? ⟨W.heap.size + 1, 0, none⟩ = some (.int .i64 0) := C1.out.cell (i := 0) (by decide)
    have z0 : w1.frozen? ⟨W.heap.size + 1, 0, none⟩ = false := C1.out.frozen 0
    have k1 : w1.cell? ⟨W.heap.size + 1, 1, none⟩ = some (.int .i64 0) := C1.out.cell (i := 1) (by decide)
    have z1 : w1.frozen? ⟨W.heap.size + 1, 1, none⟩ = false := C1.out.frozen 1
    have k2 : w1.cell? ⟨W.heap.size + 1, 2, none⟩ = some (.slice none 0 0) := C1.out.cell (i := 2) (by decide)
    have z2 : w1.frozen? ⟨W.heap.size + 1, 2, none⟩ = false := C1.out.frozen 2
    have k3 : w1.cell? ⟨W.heap.size + 1, 3, none⟩ = some (.int .i64 0) := C1.out.cell (i := 3) (by decide)
    have z3 : w1.frozen? ⟨W.heap.size + 1, 3, none⟩ = false := C1.out.frozen 3
    have k4 : w1.cell? ⟨W.heap.size + 1, 4, none⟩ = some (.int .i64 0) := C1.out.cell (i := 4) (by decide)
    have z4 : w1.frozen? ⟨W.heap.size + 1, 4, none⟩ = false := C1.out.frozen 4
    have k5 : w1.cell? ⟨W.heap.size + 1, 5, none⟩ = some (.int .i64 0) := C1.out.cell (i := 5) (by decide)
    have z5 : w1.frozen? ⟨W.heap.size + 1, 5, none⟩ = false := C1.out.frozen 5
    have lC := C1.out.lt
    go_wp2_with (go_at_call 40; refine (name_quiet hm _).mono ?_; rintro e w' ⟨rfl, hw'⟩; rw [hw']; clear hw' w')
    refine bodyPost_ret (v := .tuple #[.agg #[.int .i64 0, .int .i64 0, .slice none 0 0, .int .i64 0, .int .i64 0, .int .i64 0], .bool false]) (by simp only [results, Try.results20]; go_simp) rfl ⟨rfl, ?_⟩
    refine Below.trans B1.out ?_
    iterate 6 refine Below.setCell ?_ (by simp; try omega) _
    exact Below.refl _ _
  · have hO : O = true := by rw [← HO.out]; unfold okN; rw [hw, hm]; rfl
    obtain ⟨p0, s0⟩ := HYES.out hO
    subst hO p0 s0
    have k0 : w1.cell? ⟨W.heap.size + 1, 0, none⟩ = some (.int .i64 0) := C1.out.cell (i := 0) (by decide)
    have z0 : w1.frozen? ⟨W.heap.size + 1, 0, none⟩ = false := C1.out.frozen 0
    have k1 : w1.cell? ⟨W.heap.size + 1, 1, none⟩ = some (.int .i64 0) := C1.out.cell (i := 1) (by decide)
    have z1 : w1.frozen? ⟨W.heap.size + 1, 1, none⟩ = false := C1.out.frozen 1
    have k2 : w1.cell? ⟨W.heap.size + 1, 2, none⟩ = some (.slice none 0 0) := C1.out.cell (i := 2) (by decide)
    have z2 : w1.frozen? ⟨W.heap.size + 1, 2, none⟩ = false := C1.out.frozen 2
    have k3 : w1.cell? ⟨W.heap.size + 1, 3, none⟩ = some (.int .i64 0) := C1.out.cell (i := 3) (by decide)
    have z3 : w1.frozen? ⟨W.heap.size + 1, 3, none⟩ = false := C1.out.frozen 3
    have k4 : w1.cell? ⟨W.heap.size + 1, 4, none⟩ = some (.int .i64 0) := C1.out.cell (i := 4) (by decide)
    have z4 : w1.frozen? ⟨W.heap.size + 1, 4, none⟩ = false := C1.out.frozen 4
    have k5 : w1.cell? ⟨W.heap.size + 1, 5, none⟩ = some (.int .i64 0) := C1.out.cell (i := 5) (by decide)
    have z5 : w1.frozen? ⟨W.heap.size + 1, 5, none⟩ = false := C1.out.frozen 5
    have lC := C1.out.lt
    go_wp2_with (go_at_call 40; refine (name_quiet hm _).mono ?_; rintro e w' ⟨rfl, hw'⟩; rw [hw']; clear hw' w')
    refine bodyPost_ret (v := .tuple #[.agg #[.int .i64 P, .int .i64 0, .slice none 0 0, .int .i64 S, .int .i64 0, .int .i64 0], .bool true]) (by simp only [results, Try.results20]; go_simp) rfl ⟨rfl, ?_⟩
    refine Below.trans B1.out ?_
    iterate 6 refine Below.setCell ?_ (by simp; try omega) _
    exact Below.refl _ _
set_option maxHeartbeats 4000000 in
theorem spec_subclass (p : Option Addr) (n cap : Nat) (cs : Nat → Dv) (st a b : Int) (c : Bool) (W : World) (hf : Hid (Fits shClassS (.l n 2 cs))) (hs : Hid (szD (.l n 2 cs) ≤ 1048576)) (h : Hid (Holds W c (.l n 2 cs) (.slice p n cap))) :
    Calls Try.prog 31 #[.agg #[.slice p n cap, .int .i64 st], .int .i64 a, .int .i64 b] W fun e W' => e = .returned (.tuple #[.bool (subV cs n st a b), .bool (okS cs n st a b)]) ∧ Below W.heap.size W W' := by
  have hn : n ≤ 1048576 := Nat.le_trans (Nat.le_add_right _ _) hs.out
  obtain ⟨X, hX⟩ : ∃ X, Hid (W.alloc (.cells #[.slice p n cap, .int .i64 st] 29) = X) := ⟨_, rfl⟩
  have HX : Hid (Below W.heap.size W X) := by show Below _ _ _; rw [← hX.out]; repeat (first | exact Below.refl _ _ | refine Below.drew ?_ | refine Below.setCell ?_ (by simp; try omega) _ | refine Below.alloc ?_ (by simp; try omega) _)
  have HRX : Hid (X.rowIs W.heap.size 29 2 (rowF [.slice p n cap, .int .i64 st])) := by show World.rowIs _ _ _ _ _; rw [← hX.out]; exact row_of W #[.slice p n cap, .int .i64 st] _
  cases hw : worldB cs n st
  · skip
    have HO : Hid (okS cs n st a b = false) := by show _ = _; unfold okS; rw [hw]; simp
    have HV : Hid (subV cs n st a b = false) := by show _ = _; unfold subV; rw [HO.out]; rfl
    go_enter Try.func31, Try.ntmps31
    go_wp2_with fail
    rw [hX.out]
    have hc := spec_world p n cap cs st c X hf hs (h.out.kept HX.out)
    rw [hw] at hc
    refine hc.mono ?_
    rintro e w1 ⟨rfl, hB⟩
    have B1 : Hid (Below W.heap.size W w1) := HX.out.trans (hB.mono HX.out.size)
    have R1 : Hid (w1.rowIs W.heap.size 29 2 (rowF [.slice p n cap, .int .i64 st])) := HRX.out.of_block (hB.block _ HRX.out.lt)
    clear hB hc
    have r0 : w1.cell? ⟨W.heap.size, 0, none⟩ = some (.slice p n cap) := R1.out.cell (i := 0) (by decide)
    have r1 : w1.cell? ⟨W.heap.size, 1, none⟩ = some (.int .i64 st) := R1.out.cell (i := 1) (by decide)
    go_wp2
    go_ret2
    exact ⟨by rw [HO.out, HV.out]; rfl, B1.out⟩
  cases ha : inR a 0 ((n : Int) - 1)
  · skip
    have HO : Hid (okS cs n st a b = false) := by show _ = _; unfold okS; rw [ha]; simp
    have HV : Hid (subV cs n st a b = false) := by show _ = _; unfold subV; rw [HO.out]; rfl
    go_enter Try.func31, Try.ntmps31
    go_wp2_with fail
    rw [hX.out]
    have hc := spec_world p n cap cs st c X hf hs (h.out.kept HX.out)
    rw [hw] at hc
    refine hc.mono ?_
    rintro e w1 ⟨rfl, hB⟩
    have B1 : Hid (Below W.heap.size W w1) := HX.out.trans (hB.mono HX.out.size)
    have R1 : Hid (w1.rowIs W.heap.size 29 2 (rowF [.slice p n cap, .int .i64 st])) := HRX.out.of_block (hB.block _ HRX.out.lt)
    clear hB hc
    have r0 : w1.cell? ⟨W.heap.size, 0, none⟩ = some (.slice p n cap) := R1.out.cell (i := 0) (by decide)
    have r1 : w1.cell? ⟨W.heap.size, 1, none⟩ = some (.int .i64 st) := R1.out.cell (i := 1) (by decide)
    go_wp2_with fail
    refine (spec_class ha hn w1).mono ?_
    rintro e w2 ⟨rfl, hB⟩
    have B2 : Hid (Below W.heap.size W w2) := B1.out.trans (hB.mono B1.out.size)
    have R2 : Hid (w2.rowIs W.heap.size 29 2 (rowF [.slice p n cap, .int .i64 st])) := R1.out.of_block (hB.block _ R1.out.lt)
    clear hB r0 r1
    have r0' : w2.cell? ⟨W.heap.size, 0, none⟩ = some (.slice p n cap) := R2.out.cell (i := 0) (by decide)
    have r1' : w2.cell? ⟨W.heap.size, 1, none⟩ = some (.int .i64 st) := R2.out.cell (i := 1) (by decide)
    go_wp2
    go_ret2
    exact ⟨by rw [HO.out, HV.out]; rfl, B2.out⟩
  cases hb : inR b 0 ((n : Int) - 1)
  · skip
    have HO : Hid (okS cs n st a b = false) := by show _ = _; unfold okS; rw [hb]; simp
    have HV : Hid (subV cs n st a b = false) := by show _ = _; unfold subV; rw [HO.out]; rfl
    go_enter Try.func31, Try.ntmps31
    go_wp2_with fail
    rw [hX.out]
    have hc := spec_world p n cap cs st c X hf hs (h.out.kept HX.out)
    rw [hw] at hc
    refine hc.mono ?_
    rintro e w1 ⟨rfl, hB⟩
    have B1 : Hid (Below W.heap.size W w1) := HX.out.trans (hB.mono HX.out.size)
    have R1 : Hid (w1.rowIs W.heap.size 29 2 (rowF [.slice p n cap, .int .i64 st])) := HRX.out.of_block (hB.block _ HRX.out.lt)
    clear hB hc
    have r0 : w1.cell? ⟨W.heap.size, 0, none⟩ = some (.slice p n cap) := R1.out.cell (i := 0) (by decide)
    have r1 : w1.cell? ⟨W.heap.size, 1, none⟩ = some (.int .i64 st) := R1.out.cell (i := 1) (by decide)
    go_wp2_with fail
    refine (spec_class ha hn w1).mono ?_
    rintro e w2 ⟨rfl, hB⟩
    have B2 : Hid (Below W.heap.size W w2) := B1.out.trans (hB.mono B1.out.size)
    have R2 : Hid (w2.rowIs W.heap.size 29 2 (rowF [.slice p n cap, .int .i64 st])) := R1.out.of_block (hB.block _ R1.out.lt)
    clear hB r0 r1
    have r0 : w2.cell? ⟨W.heap.size, 0, none⟩ = some (.slice p n cap) := R2.out.cell (i := 0) (by decide)
    have r1 : w2.cell? ⟨W.heap.size, 1, none⟩ = some (.int .i64 st) := R2.out.cell (i := 1) (by decide)
    go_wp2_with fail
    refine (spec_class hb hn w2).mono ?_
    rintro e w3 ⟨rfl, hB⟩
    have B3 : Hid (Below W.heap.size W w3) := B2.out.trans (hB.mono B2.out.size)
    have R3 : Hid (w3.rowIs W.heap.size 29 2 (rowF [.slice p n cap, .int .i64 st])) := R2.out.of_block (hB.block _ R2.out.lt)
    clear hB r0 r1
    go_wp2
    go_ret2
    exact ⟨by rw [HO.out, HV.out]; rfl, B3.out⟩
  have HO : Hid (okS cs n st a b = true) := by show _ = _; unfold okS; rw [hw, ha, hb]; rfl
  obtain ⟨R, HR⟩ : ∃ R, Hid (subC cs a b = R) := ⟨_, rfl⟩
  have HV : Hid (subV cs n st a b = R) := by show _ = _; unfold subV; rw [HO.out, HR.out]; rfl
  rw [HO.out, HV.out]
  obtain ⟨a0, a1⟩ := inR_out ha
  obtain ⟨b0, b1⟩ := inR_out hb
  have HOK : Hid (∀ k, k < n → ClassOk cs k) := (world_out hw).2.2
  go_enter Try.func31, Try.ntmps31
  go_wp2_with fail
  rw [hX.out]
  have hc := spec_world p n cap cs st c X hf hs (h.out.kept HX.out)
  rw [hw] at hc
  refine hc.mono ?_
  rintro e w1 ⟨rfl, hB⟩
  have B1 : Hid (Below W.heap.size W w1) := HX.out.trans (hB.mono HX.out.size)
  have R1 : Hid (w1.rowIs W.heap.size 29 2 (rowF [.slice p n cap, .int .i64 st])) := HRX.out.of_block (hB.block _ HRX.out.lt)
  clear hB hc
  have r0 : w1.cell? ⟨W.heap.size, 0, none⟩ = some (.slice p n cap) := R1.out.cell (i := 0) (by decide)
  have r1 : w1.cell? ⟨W.heap.size, 1, none⟩ = some (.int .i64 st) := R1.out.cell (i := 1) (by decide)
  go_wp2_with fail
  refine (spec_class ha hn w1).mono ?_
  rintro e w2 ⟨rfl, hB⟩
  have B2 : Hid (Below W.heap.size W w2) := B1.out.trans (hB.mono B1.out.size)
  have R2 : Hid (w2.rowIs W.heap.size 29 2 (rowF [.slice p n cap, .int .i64 st])) := R1.out.of_block (hB.block _ R1.out.lt)
  clear hB r0 r1
  have r0 : w2.cell? ⟨W.heap.size, 0, none⟩ = some (.slice p n cap) := R2.out.cell (i := 0) (by decide)
  have r1 : w2.cell? ⟨W.heap.size, 1, none⟩ = some (.int .i64 st) := R2.out.cell (i := 1) (by decide)
  go_wp2_with fail
  refine (spec_class hb hn w2).mono ?_
  rintro e w3 ⟨rfl, hB⟩
  have B3 : Hid (Below W.heap.size W w3) := B2.out.trans (hB.mono B2.out.size)
  have R3 : Hid (w3.rowIs W.heap.size 29 2 (rowF [.slice p n cap, .int .i64 st])) := R2.out.of_block (hB.block _ R2.out.lt)
  clear hB r0 r1
  have r0 : w3.cell? ⟨W.heap.size, 0, none⟩ = some (.slice p n cap) := R3.out.cell (i := 0) (by decide)
  go_wp2
  go_loop [1] (fun vk => ∃ k : Int, -1 ≤ k ∧ k < (n : Int) ∧ vk = .int .i64 k ∧ Hid (subC cs k b = R)) (fun vk => (intOf vk + 1).toNat)
  case atStart => exact ⟨a, by omega, by omega, rfl, HR⟩
  case round =>
    obtain ⟨k, hk0, hk1, rfl, HF⟩ := hrel
    by_cases hgt : b < k
    rotate_left
    · by_cases he : k = b
      · subst he
        have HE : Hid (R = true) := by show _ = _; rw [← HF.out]; exact sub_same _ _
        go_wp2
        go_ret2
        exact ⟨by rw [HE.out]; rfl, B3.out⟩
      · have HE : Hid (R = false) := by show _ = _; rw [← HF.out]; exact sub_low HOK.out hk1 (by omega)
        have g0 : k ≤ b := by omega
        have g1 : (k == b) = false := by simpa using he
        have g2 : decide (k = b) = false := decide_eq_false he
        have g3 : decide (k > b) = false := decide_eq_false hgt
        clear hgt
        go_wp2
        go_ret2
        exact ⟨by rw [HE.out]; rfl, B3.out⟩
    obtain ⟨q, rfl⟩ : ∃ q : Nat, k = (q : Int) := ⟨k.toNat, by omega⟩
    have hq : q < n := by omega
    obtain ⟨bl, o, ma, mc, hp, hbl, c0, c1, hI⟩ := class_at h.out hf.out B3.out hq
    obtain ⟨⟨hu0, hu1⟩, _, _⟩ := HOK.out q hq
    have HE : Hid (subC cs (upC cs q) b = R) := by show _ = _; rw [← HF.out]; exact (sub_up HOK.out hq (by omega)).symm
    obtain ⟨u, HU⟩ : ∃ u, Hid (upC cs q = u) := ⟨_, rfl⟩
    rw [HU.out] at c0 hu0 hu1 HE
    subst hp
    clear hI c1
    go_wp2
    go_round
    case rel => exact ⟨u, hu0, by omega, rfl, HE⟩
    case measure => simp [intOf]; omega
end Go.Proofs.Yticgipmaflhplaa.walks
