/-
  What the program's hasBegun, overFrom, isReady and busyAt answer; they make new memory alone.
-/
import Derived.Test.YtbnddgdembmooaaProg
import Derived.Test.YtbnddgdembmooaaMagMath
import Derived.Test.YtbnddgdembmooaaTaskMath
import Derived.Test.YtbnddgdembmooaaSchedMath
import Derived.Test.YtbnddgdembmooaaTaskSpec
import Derived.Test.YtbnddgdembmooaaTaskImpl
import Derived.Test.YtbnddgdembmooaaInts
import Derived.Test.YtbnddgdembmooaaPats
import Derived.WalkKit
import Derived.WalkSpells
import Derived.Below
import Derived.Handy
import Derived.Deep.QuietTactic
import Derived.BigQuiet
namespace Go.Proofs.Ytbnddgdembmooaa.walks
open Go.RowKit Go.Proofs.Ytbnddgdembmooaa.math Go.Proofs.Ytbnddgdembmooaa.ints
set_option linter.unusedVariables false
set_option maxRecDepth 100000

/-- Tasks and starts in memory. -/
structure Times (W : World) (a : Option Addr) (n : Nat) (f : Nat → Pv) (b : Option Addr) (t : List Int) : Prop where
  tasks : Pats W a n f
  starts : Ints W b t
  len : t.length = n
theorem Times.kept {W W' : World} {a b : Option Addr} {n : Nat} {f : Nat → Pv} {t : List Int} (h : Times W a n f b t) (hb : Below W.heap.size W W') : Times W' a n f b t := ⟨h.tasks.kept hb, h.starts.kept hb, h.len⟩
set_option maxHeartbeats 2000000 in
theorem impl_begun (a b : Option Addr) (n ca cb k : Nat) (f : Nat → Pv) (t : List Int) (W : World) (hk : k < n) (hn : n ≤ 12) (h : Hid (Times W a n f b t)) :
    Calls Try.prog 45 #[.agg #[.slice a n ca, .slice b n cb], .int .i64 (k : Int)] W fun e W' => e = .returned (.bool (decide (t.getD k 0 ≠ -1))) ∧ Below W.heap.size W W' := by
  have hkI : (k : Int) < (n : Int) := by omega
  obtain ⟨bb, ob, hb, cS⟩ := h.out.starts.at (Below.refl _ _) (k := k) (by rw [h.out.len]; exact hk)
  subst hb
  have hlt := World.block_lt_of_cell? W _ cS
  obtain ⟨s, hs⟩ : ∃ s, Hid (t.getD k 0 = s) := ⟨_, rfl⟩
  rw [hs.out] at cS ⊢
  dsimp only at hlt
  by_cases e : s = -1
  · subst e
    go_enter Try.func45, Try.ntmps45
    go_wp2
    go_ret
    exact ⟨rfl, by repeat (first | exact Below.refl _ _ | refine Below.drew ?_ | refine Below.setCell ?_ (by simp; try omega) _ | refine Below.alloc ?_ (by simp; try omega) _)⟩
  · have HD : Hid (decide (s ≠ -1) = true) := decide_eq_true e
    have e1 : (s != -1) = true := by simpa using e
    have e2 : (s == -1) = false := by simpa using e
    go_enter Try.func45, Try.ntmps45
    go_wp2
    go_ret
    exact ⟨by rw [HD.out]; rfl, by repeat (first | exact Below.refl _ _ | refine Below.drew ?_ | refine Below.setCell ?_ (by simp; try omega) _ | refine Below.alloc ?_ (by simp; try omega) _)⟩
set_option maxHeartbeats 2000000 in
theorem impl_over (a b : Option Addr) (n ca cb k : Nat) (f : Nat → Pv) (t : List Int) (W : World) (hk : k < n) (hn : n ≤ 12) (hs0 : -1 ≤ t.getD k 0) (hs1 : t.getD k 0 ≤ 100000) (hc0 : 1 ≤ (f k).c) (hc1 : (f k).c ≤ 20) (h : Hid (Times W a n f b t)) :
    Calls Try.prog 46 #[.agg #[.slice a n ca, .slice b n cb], .int .i64 (k : Int)] W fun e W' => e = .returned (.int .i64 (overV f t k)) ∧ Below W.heap.size W W' := by
  have hkI : (k : Int) < (n : Int) := by omega
  obtain ⟨bb, ob, hb, cS⟩ := h.out.starts.at (Below.refl _ _) (k := k) (by rw [h.out.len]; exact hk)
  subst hb
  have hlt := World.block_lt_of_cell? W _ cS
  dsimp only at hlt
  obtain ⟨ba, oa, ta, tc, ha, hba, c0, c1, _⟩ := pat_at h.out.tasks (Below.refl _ _) hk
  subst ha
  have HO : Hid (overV f t k = t.getD k 0 + (f k).c) := rfl
  obtain ⟨s, hs⟩ : ∃ s, Hid (t.getD k 0 = s) := ⟨_, rfl⟩
  obtain ⟨c, hc⟩ : ∃ c, Hid ((f k).c = c) := ⟨_, rfl⟩
  rw [hs.out] at cS hs0 hs1 HO
  rw [hc.out] at c1 hc0 hc1 HO
  rw [HO.out]
  clear c0
  go_enter Try.func46, Try.ntmps46
  go_wp2_with fail
  go_quiet (fail)
  go_wp2
  go_ret
  exact ⟨rfl, belowN (by repeat (first | exact Below.refl _ _ | refine Below.drew ?_ | refine Below.setCell ?_ (by simp; try omega) _ | refine Below.alloc ?_ (by simp; try omega) _)) _⟩
theorem box_times (W : World) (a b : Option Addr) (n ca cb : Nat) : ∃ X, Hid (W.alloc (.cells #[.slice a n ca, .slice b n cb] 54) = X) ∧ Below W.heap.size W X ∧ X.heap.size = W.heap.size + 1 ∧ X.cell? ⟨W.heap.size, 0, none⟩ = some (.slice a n ca) ∧ X.cell? ⟨W.heap.size, 1, none⟩ = some (.slice b n cb) := by
  refine ⟨_, rfl, by repeat (first | exact Below.refl _ _ | refine Below.drew ?_ | refine Below.setCell ?_ (by simp; try omega) _ | refine Below.alloc ?_ (by simp; try omega) _), by simp, ?_, ?_⟩ <;> go_simp
set_option maxHeartbeats 4000000 in
theorem impl_ready (a b : Option Addr) (n ca cb k : Nat) (m : Int) (f : Nat → Pv) (t : List Int) (W : World) (hk : k < n) (hn : n ≤ 12) (hb : Hid (∀ i, i < n → -1 ≤ t.getD i 0 ∧ t.getD i 0 ≤ 100000)) (hg : Hid (∀ k, k < n → taskB (f k) k = true)) (hlen : Hid (∀ k, k < n → (f k).zs.length ≤ 1048576)) (h : Hid (Times W a n f b t)) :
    Calls Try.prog 39 #[.agg #[.slice a n ca, .slice b n cb], .int .i64 (k : Int), .int .i64 m] W fun e W' => e = .returned (.bool (readyB f t k m)) ∧ Below W.heap.size W W' := by
  have hkI : (k : Int) < (n : Int) := by omega
  have HNO : Hid (∀ j, j < (f k).zs.length → (t.getD ((f k).zs.getD j 0).toNat 0 < 0 ∨ m < overV f t ((f k).zs.getD j 0).toNat) → readyB f t k m = false) := fun j hj q => ready_no hj q
  have HYES : Hid (ReadyTo f t (f k).zs m (f k).zs.length → readyB f t k m = true) := ready_yes
  have ht := task_out (hg.out k hk)
  have HL := hlen.out k hk
  obtain ⟨X, hX, BX, hXs, x0, x1⟩ := box_times W a b n ca cb
  obtain ⟨ba, oa, ta, tc, ha, hba, c0, c1, hI⟩ := pat_at h.out.tasks (Below.refl _ _) hk
  subst ha
  have HI : Hid (Ints X ta (f k).zs) := hI.kept BX
  obtain ⟨zs, hzs⟩ : ∃ zs, Hid ((f k).zs = zs) := ⟨_, rfl⟩
  rw [hzs.out] at HNO HYES ht HL c0 HI
  have HR : Hid (RiseTo zs (k : Int) zs.length) := ht.2.2
  obtain ⟨L, HZ⟩ : ∃ L, Hid (zs.length = L) := ⟨_, rfl⟩
  rw [HZ.out] at HNO HYES HL c0 HR
  have HBX : Hid (Below W.heap.size W X) := BX
  clear ht hI BX c1
  go_enter Try.func39, Try.ntmps39
  go_wp2
  rw [hX.out]
  clear hX
  go_loopw [16] (fun vi wr => ∃ j : Nat, j ≤ L ∧ vi = .int .i64 (j : Int) ∧ Hid (ReadyTo f t zs m j) ∧ Hid (Below X.heap.size X wr)) (fun vi _ => L - (intOf vi).toNat)
  case atStart => exact ⟨0, Nat.zero_le _, rfl, ready_nil _ _ _ _, Below.refl _ _⟩
  case round =>
    obtain ⟨j, hj, rfl, HT, HB⟩ := hrel
    have HBW : Hid (Below W.heap.size W wr) := HBX.out.trans (HB.out.mono (by omega))
    by_cases hjL : j < L
    rotate_left
    · have HE : Hid (readyB f t k m = true) := HYES.out (by rw [show L = j by omega]; exact HT.out)
      go_wp2
      go_ret
      exact ⟨by rw [HE.out]; rfl, HBW.out⟩
    have hjI : (j : Int) < (L : Int) := by omega
    obtain ⟨bz, oz, hz, hc⟩ := HI.out.at HB.out (k := j) (by rw [HZ.out]; exact hjL)
    subst hz
    have hr := HR.out j hjL
    obtain ⟨z, hz⟩ : ∃ z : Nat, Hid (zs.getD j 0 = (z : Int)) := ⟨(zs.getD j 0).toNat, by show _ = _; omega⟩
    have HN1 : Hid (∀ q, (t.getD z 0 < 0 ∨ m < overV f t z) → q = readyB f t k m → q = false) := fun q e1 e2 => by
      rw [e2]
      exact HNO.out j hjL (by rw [hz.out, Int.toNat_natCast]; exact e1)
    have HN2 : Hid (0 ≤ t.getD z 0 → overV f t z ≤ m → ReadyTo f t zs m (j + 1)) := fun e1 e2 => ready_next HT.out (by rw [hz.out, Int.toNat_natCast]; exact e1) (by rw [hz.out, Int.toNat_natCast]; exact e2)
    rw [hz.out] at hc hr
    have hzk : z < k := by omega
    have hzn : z < n := by omega
    have y0 : wr.cell? ⟨W.heap.size, 0, none⟩ = some (.slice (some ⟨ba, oa, none⟩) n ca) := (HB.out.cell (p := ⟨W.heap.size, 0, none⟩) (by show W.heap.size < _; omega)).trans x0
    have y1 : wr.cell? ⟨W.heap.size, 1, none⟩ = some (.slice b n cb) := (HB.out.cell (p := ⟨W.heap.size, 1, none⟩) (by show W.heap.size < _; omega)).trans x1
    have HTm : Hid (Times wr (some ⟨ba, oa, none⟩) n f b t) := h.out.kept HBW.out
    obtain ⟨hb0, hb1⟩ := hb.out z hzn
    obtain ⟨t0, t1, _⟩ := task_out (hg.out z hzn)
    by_cases e : t.getD z 0 = -1
    · have HE : Hid (readyB f t k m = false) := HN1.out _ (Or.inl (by omega)) rfl
      have HD : Hid (decide (t.getD z 0 ≠ -1) = false) := decide_eq_false (fun q => q e)
      clear e
      go_wp2_with fail
      refine (impl_begun _ _ _ _ _ _ f t _ hzn hn HTm).mono ?_
      rw [HD.out]
      rintro e w1 ⟨rfl, hB⟩
      have HB1 : Hid (Below W.heap.size W w1) := HBW.out.trans (hB.mono HBW.out.size)
      clear hB
      go_wp2
      go_ret
      exact ⟨by rw [HE.out]; rfl, HB1.out⟩
    have HD : Hid (decide (t.getD z 0 ≠ -1) = true) := decide_eq_true e
    have e0 : 0 ≤ t.getD z 0 := by omega
    clear e
    go_wp2_with fail
    refine (impl_begun _ _ _ _ _ _ f t _ hzn hn HTm).mono ?_
    rw [HD.out]
    rintro e w1 ⟨rfl, hB⟩
    have HB1 : Hid (Below X.heap.size X w1) := HB.out.trans (hB.mono HB.out.size)
    have HBW1 : Hid (Below W.heap.size W w1) := HBW.out.trans (hB.mono HBW.out.size)
    have y0 := (hB.cell (p := ⟨W.heap.size, 0, none⟩) (by have := HB.out.size; show W.heap.size < _; omega)).trans y0
    have y1 := (hB.cell (p := ⟨W.heap.size, 1, none⟩) (by have := HB.out.size; show W.heap.size < _; omega)).trans y1
    have HTm1 : Hid (Times w1 (some ⟨ba, oa, none⟩) n f b t) := HTm.out.kept hB
    clear hB HB HBW HTm HD
    obtain ⟨ov, hov⟩ : ∃ ov, Hid (overV f t z = ov) := ⟨_, rfl⟩
    rw [hov.out] at HN1 HN2
    by_cases q : m < ov
    · have HE : Hid (readyB f t k m = false) := HN1.out _ (Or.inr q) rfl
      go_wp2_with fail
      refine (impl_over _ _ _ _ _ _ f t _ hzn hn hb0 hb1 t0 t1 HTm1).mono ?_
      rw [hov.out]
      rintro e w2 ⟨rfl, hB⟩
      have HB2 : Hid (Below W.heap.size W w2) := HBW1.out.trans (hB.mono HBW1.out.size)
      clear hB
      go_wp2
      go_ret
      exact ⟨by rw [HE.out]; rfl, HB2.out⟩
    · have q' : ov ≤ m := by omega
      have HN3 := HN2.out e0 q'
      have HN4 : Hid (ReadyTo f t zs m (j + 1)) := HN3
      clear HN3 q
      go_wp2_with fail
      refine (impl_over _ _ _ _ _ _ f t _ hzn hn hb0 hb1 t0 t1 HTm1).mono ?_
      rw [hov.out]
      rintro e w2 ⟨rfl, hB⟩
      have HB2 : Hid (Below X.heap.size X w2) := HB1.out.trans (hB.mono HB1.out.size)
      clear hB
      go_wp2
      go_roundw
      case rel => exact ⟨j + 1, by omega, by go_num, HN4, HB2⟩
      case measure => simp [intOf]; omega
theorem impl_one (b : Bool) (W : World) : Calls Try.prog 47 #[.bool b] W fun e W' => e = .returned (.int .i64 (if b then 1 else 0)) ∧ W' = W := by
  cases b
  all_goals
    go_enter Try.func47, Try.ntmps47
    go_wp2
    go_ret
    exact ⟨rfl, rfl⟩
theorem impl_one0 (W : World) : Calls Try.prog 47 #[.bool false] W fun e W' => e = .returned (.int .i64 0) ∧ W' = W := impl_one false W
theorem impl_one1 (W : World) : Calls Try.prog 47 #[.bool true] W fun e W' => e = .returned (.int .i64 1) ∧ W' = W := impl_one true W
set_option maxHeartbeats 4000000 in
theorem impl_busy (a b : Option Addr) (n ca cb : Nat) (m : Int) (f : Nat → Pv) (t : List Int) (W : World) (hn : n ≤ 12) (hb : Hid (∀ i, i < n → 0 ≤ t.getD i 0 ∧ t.getD i 0 ≤ 1000)) (hg : Hid (∀ k, k < n → taskB (f k) k = true)) (h : Hid (Times W a n f b t)) :
    Calls Try.prog 40 #[.agg #[.slice a n ca, .slice b n cb], .int .i64 m] W fun e W' => e = .returned (.int .i64 (runTo f t m n : Int)) ∧ Below W.heap.size W W' := by
  have hnI : (n : Int) ≤ 12 := by omega
  obtain ⟨X, hX, BX, hXs, x0, x1⟩ := box_times W a b n ca cb
  have HBX : Hid (Below W.heap.size W X) := BX
  clear BX
  go_enter Try.func40, Try.ntmps40
  go_wp2
  rw [hX.out]
  clear hX
  go_loopw [5, 11] (fun vs vi wr => ∃ (j s : Nat), j ≤ n ∧ s ≤ j ∧ vi = .int .i64 (j : Int) ∧ vs = .int .i64 (s : Int) ∧ Hid (runTo f t m j = s) ∧ Hid (Below X.heap.size X wr)) (fun _ vi _ => n - (intOf vi).toNat)
  case atStart => exact ⟨0, 0, Nat.zero_le _, Nat.le_refl _, rfl, rfl, rfl, Below.refl _ _⟩
  case round =>
    obtain ⟨j, s, hj, hsj, rfl, rfl, HS, HB⟩ := hrel
    have HBW : Hid (Below W.heap.size W wr) := HBX.out.trans (HB.out.mono (by omega))
    by_cases hjL : j < n
    rotate_left
    · have HE : Hid (runTo f t m n = s) := by show _ = _; rw [show n = j by omega]; exact HS.out
      go_wp2
      go_ret
      exact ⟨by rw [HE.out]; rfl, HBW.out⟩
    have hjI : (j : Int) < (n : Int) := by omega
    have hsI : (s : Int) ≤ 12 := by omega
    obtain ⟨bb, ob, hbE, cS⟩ := h.out.starts.at HBW.out (k := j) (by rw [h.out.len]; exact hjL)
    subst hbE
    have y0 : wr.cell? ⟨W.heap.size, 0, none⟩ = some (.slice a n ca) := (HB.out.cell (p := ⟨W.heap.size, 0, none⟩) (by show W.heap.size < _; omega)).trans x0
    have y1 : wr.cell? ⟨W.heap.size, 1, none⟩ = some (.slice (some ⟨bb, ob, none⟩) n cb) := (HB.out.cell (p := ⟨W.heap.size, 1, none⟩) (by show W.heap.size < _; omega)).trans x1
    have HTm : Hid (Times wr a n f (some ⟨bb, ob, none⟩) t) := h.out.kept HBW.out
    obtain ⟨hb0, hb1⟩ := hb.out j hjL
    obtain ⟨t0, t1, _⟩ := task_out (hg.out j hjL)
    have hbm : -1 ≤ t.getD j 0 := by omega
    have hbn : t.getD j 0 ≤ 100000 := by omega
    have HNO : Hid ((m < t.getD j 0 ∨ overV f t j ≤ m) → runTo f t m (j + 1) = s) := fun q => by rw [runTo_no (by omega)]; exact HS.out
    have HYES : Hid (t.getD j 0 ≤ m → m < overV f t j → runTo f t m (j + 1) = s + 1) := fun q1 q2 => by rw [runTo_yes hb0 q1 q2, HS.out]
    obtain ⟨ov, hov⟩ : ∃ ov, Hid (overV f t j = ov) := ⟨_, rfl⟩
    rw [hov.out] at HNO HYES
    have CO := impl_over a (some ⟨bb, ob, none⟩) n ca cb j f t wr hjL hn hbm hbn t0 t1 HTm
    rw [hov.out] at CO
    have HCO : Hid (Calls Try.prog 46 #[.agg #[.slice a n ca, .slice (some ⟨bb, ob, none⟩) n cb], .int .i64 (j : Int)] wr fun e W' => e = .returned (.int .i64 ov) ∧ Below wr.heap.size wr W') := CO
    obtain ⟨st, hst⟩ : ∃ st, Hid (t.getD j 0 = st) := ⟨_, rfl⟩
    rw [hst.out] at cS HNO HYES
    clear CO hb0 hb1 hbm hbn
    by_cases q1 : m < st
    · have HE : Hid (runTo f t m (j + 1) = s) := HNO.out (Or.inl q1)
      go_wp2_with (go_at_call 47; refine (impl_one0 _).mono ?_; rintro e w' ⟨rfl, hw⟩; rw [hw]; clear hw w')
      go_roundw
      case rel => exact ⟨j + 1, s, by omega, by omega, by go_num, by go_num, HE, HB⟩
      case measure => simp [intOf]; omega
    have q1' : st ≤ m := by omega
    clear q1
    by_cases q2 : ov ≤ m
    · have HE : Hid (runTo f t m (j + 1) = s) := HNO.out (Or.inr q2)
      have dq : decide (m < ov) = false := decide_eq_false (by omega)
      go_wp2_with fail
      refine HCO.out.mono ?_
      rintro e w1 ⟨rfl, hB⟩
      have HB1 : Hid (Below X.heap.size X w1) := HB.out.trans (hB.mono HB.out.size)
      clear hB
      go_wp2_with (go_at_call 47; refine (impl_one0 _).mono ?_; rintro e w' ⟨rfl, hw⟩; rw [hw]; clear hw w')
      go_roundw
      case rel => exact ⟨j + 1, s, by omega, by omega, by go_num, by go_num, HE, HB1⟩
      case measure => simp [intOf]; omega
    · have q2' : m < ov := by omega
      have dq : decide (m < ov) = true := decide_eq_true (by omega)
      have HE : Hid (runTo f t m (j + 1) = s + 1) := HYES.out q1' q2'
      clear q2
      go_wp2_with fail
      refine HCO.out.mono ?_
      rintro e w1 ⟨rfl, hB⟩
      have HB1 : Hid (Below X.heap.size X w1) := HB.out.trans (hB.mono HB.out.size)
      clear hB
      go_wp2_with (go_at_call 47; refine (impl_one1 _).mono ?_; rintro e w' ⟨rfl, hw⟩; rw [hw]; clear hw w')
      go_roundw
      case rel => exact ⟨j + 1, s + 1, by omega, by omega, by go_num, by go_num, HE, HB1⟩
      case measure => simp [intOf]; omega
theorem impl_starts (b : Option Addr) (n len cb : Nat) (t : List Int) (W : World) (hz : Hid (t.length = len)) (hlen : len ≤ 1048576) (hn : n ≤ 12) (h : Hid (Ints W b t)) :
    Calls Try.prog 38 #[.slice b len cb, .int .i64 (n : Int)] W fun e W' => e = .returned (.bool (startsB t n)) ∧ W' = W := by
  have hlI : (len : Int) ≤ 1048576 := by omega
  by_cases hq : len = n
  rotate_left
  · have HE : Hid (startsB t n = false) := starts_len (by rw [hz.out]; exact hq)
    have e1 : ((len : Int) != (n : Int)) = true := by simp; omega
    have e2 : ((len : Int) == (n : Int)) = false := by simp; omega
    have e3 : ¬ (len : Int) = (n : Int) := by omega
    go_enter Try.func38, Try.ntmps38
    go_wp2
    go_ret
    exact ⟨by rw [HE.out]; rfl, rfl⟩
  subst hq
  go_enter Try.func38, Try.ntmps38
  go_wp2
  go_loop [13] (fun vi => ∃ k : Nat, k ≤ len ∧ vi = .int .i64 (k : Int) ∧ Hid (∀ i, i < k → 0 ≤ t.getD i 0 ∧ t.getD i 0 ≤ 1000)) (fun vi => len - (intOf vi).toNat)
  case atStart => exact ⟨0, Nat.zero_le _, rfl, fun i hi => by omega⟩
  case round =>
    obtain ⟨k, hk, rfl, HA⟩ := hrel
    by_cases hlt : k < len
    rotate_left
    · have HE : Hid (startsB t len = true) := starts_yes hz.out (fun i hi => HA.out i (by omega))
      go_wp2
      go_ret
      exact ⟨by rw [HE.out]; rfl, rfl⟩
    have hltI : (k : Int) < (len : Int) := by omega
    obtain ⟨bb, ob, hbE, cS⟩ := h.out.at (Below.refl _ _) (k := k) (by rw [hz.out]; exact hlt)
    subst hbE
    cases hr : inR (t.getD k 0) 0 1000
    · have HE : Hid (startsB t len = false) := starts_bad hlt hr
      generalize t.getD k 0 = z at cS hr
      go_wp2_with (go_at_call 32; refine (between_quiet hr _).mono ?_; rintro e w' ⟨rfl, hw⟩; rw [hw]; clear hw w')
      go_ret
      exact ⟨by rw [HE.out]; rfl, rfl⟩
    · have HA2 : Hid (∀ i, i < k + 1 → 0 ≤ t.getD i 0 ∧ t.getD i 0 ≤ 1000) := by
        show ∀ i, _ → _
        intro i hi
        by_cases e : i = k
        · subst e; exact inR_out hr
        · exact HA.out i (by omega)
      generalize t.getD k 0 = z at cS hr
      go_wp2_with (go_at_call 32; refine (between_quiet hr _).mono ?_; rintro e w' ⟨rfl, hw⟩; rw [hw]; clear hw w')
      go_round
      case rel => exact ⟨k + 1, by omega, by go_num, HA2⟩
      case measure => simp [intOf]; omega
end Go.Proofs.Ytbnddgdembmooaa.walks
