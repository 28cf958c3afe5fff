/-
  What IsSchedule answers, of the specification and of the program.
-/
import Derived.Test.YtbnddgdembmooaaProg
import Derived.Test.YtbnddgdembmooaaMagMath
import Derived.Test.YtbnddgdembmooaaTaskMath
import Derived.Test.YtbnddgdembmooaaSchedMath
import Derived.Test.YtbnddgdembmooaaTaskSpec
import Derived.Test.YtbnddgdembmooaaTaskImpl
import Derived.Test.YtbnddgdembmooaaSchedImpl
import Derived.Test.YtbnddgdembmooaaUnits
import Derived.Test.YtbnddgdembmooaaInts
import Derived.Test.YtbnddgdembmooaaPats
import Derived.WalkKit
import Derived.WalkSpells
import Derived.Below
import Derived.Handy
import Derived.Deep.QuietTactic
import Derived.BigQuiet
namespace Go.Proofs.Ytbnddgdembmooaa.walks
open Go.RowKit Go.Proofs.Ytbnddgdembmooaa.math Go.Proofs.Ytbnddgdembmooaa.ints
set_option linter.unusedVariables false
set_option maxRecDepth 100000

set_option maxHeartbeats 4000000 in
theorem spec_running (a b : Option Addr) (n ca cb : Nat) (m : Int) (f : Nat → Pv) (t : List Int) (W : World) (hn : n ≤ 12) (hb : Hid (∀ i, i < n → -1 ≤ t.getD i 0 ∧ t.getD i 0 ≤ 100000)) (hg : Hid (∀ k, k < n → taskB (f k) k = true)) (h : Hid (Times W a n f b t)) :
    Calls Try.prog 36 #[.slice a n ca, .slice b n cb, .int .i64 m] W fun e W' => e = .returned (.int .i64 (runTo f t m n : Int)) ∧ W' = W := by
  have hnI : (n : Int) ≤ 12 := by omega
  go_enter Try.func36, Try.ntmps36
  go_wp2
  go_loop [7, 12] (fun vs vi => ∃ (j s : Nat), j ≤ n ∧ s ≤ j ∧ vi = .int .i64 (j : Int) ∧ vs = .int .i64 (s : Int) ∧ Hid (runTo f t m j = s)) (fun _ vi => n - (intOf vi).toNat)
  case atStart => exact ⟨0, 0, Nat.zero_le _, Nat.le_refl _, rfl, rfl, rfl⟩
  case round =>
    obtain ⟨j, s, hj, hsj, rfl, rfl, HS⟩ := hrel
    by_cases hjL : j < n
    rotate_left
    · have HE : Hid (runTo f t m n = s) := by show _ = _; rw [show n = j by omega]; exact HS.out
      go_wp2
      go_ret
      exact ⟨by rw [HE.out]; rfl, rfl⟩
    have hjI : (j : Int) < (n : Int) := by omega
    have hsI : (s : Int) ≤ 12 := by omega
    obtain ⟨bb, ob, hbE, cS⟩ := h.out.starts.at (Below.refl _ _) (k := j) (by rw [h.out.len]; exact hjL)
    subst hbE
    obtain ⟨ba, oa, ta, tc, ha, hba, c0, c1, _⟩ := pat_at h.out.tasks (Below.refl _ _) hjL
    subst ha
    clear c0
    obtain ⟨hb0, hb1⟩ := hb.out j hjL
    obtain ⟨t0, t1, _⟩ := task_out (hg.out j hjL)
    have HNO : Hid ((t.getD j 0 < 0 ∨ m < t.getD j 0 ∨ t.getD j 0 + (f j).c ≤ m) → runTo f t m (j + 1) = s) := fun q => by rw [runTo_no q]; exact HS.out
    have HYES : Hid (0 ≤ t.getD j 0 → t.getD j 0 ≤ m → m < t.getD j 0 + (f j).c → runTo f t m (j + 1) = s + 1) := fun q0 q1 q2 => by rw [runTo_yes q0 q1 q2, HS.out]
    obtain ⟨st, hst⟩ : ∃ st, Hid (t.getD j 0 = st) := ⟨_, rfl⟩
    obtain ⟨c, hc⟩ : ∃ c, Hid ((f j).c = c) := ⟨_, rfl⟩
    rw [hst.out] at cS HNO HYES hb0 hb1
    rw [hc.out] at c1 HNO HYES t0 t1
    by_cases q0 : st < 0
    · have HE : Hid (runTo f t m (j + 1) = s) := HNO.out (Or.inl q0)
      have d0 : decide (st ≥ 0) = false := decide_eq_false (by omega)
      go_wp2
      go_round
      case rel => exact ⟨j + 1, s, by omega, by omega, by go_num, rfl, HE⟩
      case measure => simp [intOf]; omega
    have q0' : 0 ≤ st := by omega
    have d0 : decide (st ≥ 0) = true := decide_eq_true q0'
    clear q0
    by_cases q1 : m < st
    · have HE : Hid (runTo f t m (j + 1) = s) := HNO.out (Or.inr (Or.inl q1))
      have d1 : decide (st ≤ m) = false := decide_eq_false (by omega)
      go_wp2
      go_round
      case rel => exact ⟨j + 1, s, by omega, by omega, by go_num, rfl, HE⟩
      case measure => simp [intOf]; omega
    have q1' : st ≤ m := by omega
    have d1 : decide (st ≤ m) = true := decide_eq_true q1'
    clear q1
    by_cases q2 : st + c ≤ m
    · have HE : Hid (runTo f t m (j + 1) = s) := HNO.out (Or.inr (Or.inr q2))
      have d2 : decide (m < st + c) = false := decide_eq_false (by omega)
      go_wp2
      go_round
      case rel => exact ⟨j + 1, s, by omega, by omega, by go_num, rfl, HE⟩
      case measure => simp [intOf]; omega
    · have q2' : m < st + c := by omega
      have HE : Hid (runTo f t m (j + 1) = s + 1) := HYES.out q0' q1' q2'
      have d2 : decide (m < st + c) = true := decide_eq_true q2'
      clear q2
      go_wp2
      go_round
      case rel => exact ⟨j + 1, s + 1, by omega, by omega, by go_num, by go_num, HE⟩
      case measure => simp [intOf]; omega
theorem okS_no1 {f : Nat → Pv} {t : List Int} {n : Nat} {u : Int} (h : tasksB f n = false) : okS f t n u = false := by unfold okS; rw [h]; rfl
theorem okS_no2 {f : Nat → Pv} {t : List Int} {n : Nat} {u : Int} (h : inR u 1 4 = false) : okS f t n u = false := by unfold okS; rw [h]; simp
theorem okS_no3 {f : Nat → Pv} {t : List Int} {n : Nat} {u : Int} (h : startsB t n = false) : okS f t n u = false := by unfold okS; rw [h]; simp
theorem okS_yes {f : Nat → Pv} {t : List Int} {n : Nat} {u : Int} (h : tasksB f n = true) (h2 : inR u 1 4 = true) (h3 : startsB t n = true) : okS f t n u = true := by unfold okS; rw [h, h2, h3]; rfl
theorem isS_no {f : Nat → Pv} {t : List Int} {n : Nat} {u : Int} (h : okS f t n u = false) : isS f t n u = false := by unfold isS; rw [h]; rfl
theorem isS_ok {f : Nat → Pv} {t : List Int} {n : Nat} {u : Int} (h : okS f t n u = true) : isS f t n u = schedB f t n u := by unfold isS; rw [h]; rfl
/-- What IsSchedule answers. -/
def SchAns (f : Nat → Pv) (t : List Int) (n : Nat) (u : Int) (W : World) (e : Ending) (W' : World) : Prop := e = .returned (.tuple #[.bool (isS f t n u), .bool (okS f t n u)]) ∧ Below W.heap.size W W'
theorem sch_told {f : Nat → Pv} {t : List Int} {n : Nat} {u : Int} {W W' : World} {e : Ending} (h : SchAns f t n u W e W') : e = .returned (.tuple #[.bool (isS f t n u), .bool (okS f t n u)]) ∧ Below W.heap.size W W' := h
theorem sch_no {f : Nat → Pv} {t : List Int} {n : Nat} {u : Int} {W W' : World} (h : okS f t n u = false) (hB : Below W.heap.size W W') : SchAns f t n u W (.returned (.tuple #[.bool false, .bool false])) W' := ⟨by rw [isS_no h, h], hB⟩
theorem sch_is {f : Nat → Pv} {t : List Int} {n : Nat} {u : Int} {W W' : World} {b : Bool} (h : okS f t n u = true) (hb : schedB f t n u = b) (hB : Below W.heap.size W W') : SchAns f t n u W (.returned (.tuple #[.bool b, .bool true])) W' := ⟨by rw [isS_ok h, h, hb], hB⟩
set_option maxHeartbeats 8000000 in
theorem spec_sched (a b : Option Addr) (n ca len cb : Nat) (u : Int) (f : Nat → Pv) (t : List Int) (W : World) (hn : n ≤ 1048576) (hlen : Hid (∀ k, k < n → (f k).zs.length ≤ 1048576)) (hz : Hid (t.length = len)) (hl1 : len ≤ 1048576) (h : Hid (Pats W a n f)) (hI : Hid (Ints W b t)) :
    Calls Try.prog 14 #[.slice a n ca, .int .i64 u, .slice b len cb] W fun e W' => SchAns f t n u W e W' := by
  have hlI : (len : Int) ≤ 1048576 := by omega
  cases hg : tasksB f n
  · have HE : Hid (okS f t n u = false) := okS_no1 hg
    go_enter Try.func14, Try.ntmps14
    go_wp2_with fail
    refine (spec_tasks _ _ _ f _ hn hlen h).mono ?_
    rw [hg]
    rintro e w1 ⟨rfl, hB⟩
    have HB1 : Hid (Below W.heap.size W w1) := hB
    clear hB
    go_wp2
    go_ret2
    exact sch_no HE.out HB1.out
  cases hu : inR u 1 4
  · have HE : Hid (okS f t n u = false) := okS_no2 hu
    go_enter Try.func14, Try.ntmps14
    go_wp2_with fail
    refine (spec_tasks _ _ _ f _ hn hlen h).mono ?_
    rw [hg]
    rintro e w1 ⟨rfl, hB⟩
    have HB1 : Hid (Below W.heap.size W w1) := hB
    clear hB
    go_wp2_with (go_at_call 35; refine (units_spec hu _).mono ?_; rintro e w' ⟨rfl, hw⟩; rw [hw]; clear hw w')
    go_ret2
    exact sch_no HE.out HB1.out
  obtain ⟨hn12, hgd⟩ := tasks_out hg
  have HG : Hid (∀ k, k < n → taskB (f k) k = true) := hgd
  clear hgd
  have hnI : (n : Int) ≤ 12 := by omega
  by_cases hq : len = n
  rotate_left
  · have HE : Hid (okS f t n u = false) := okS_no3 (starts_len (by rw [hz.out]; exact hq))
    have e1 : ((len : Int) != (n : Int)) = true := by simp; omega
    have e2 : ((len : Int) == (n : Int)) = false := by simp; omega
    have e3 : ¬ (len : Int) = (n : Int) := by omega
    go_enter Try.func14, Try.ntmps14
    go_wp2_with fail
    refine (spec_tasks _ _ _ f _ hn hlen h).mono ?_
    rw [hg]
    rintro e w1 ⟨rfl, hB⟩
    have HB1 : Hid (Below W.heap.size W w1) := hB
    clear hB
    go_wp2_with (go_at_call 35; refine (units_spec hu _).mono ?_; rintro e w' ⟨rfl, hw⟩; rw [hw]; clear hw w')
    go_ret2
    exact sch_no HE.out HB1.out
  subst hq
  go_enter Try.func14, Try.ntmps14
  go_wp2_with fail
  refine (spec_tasks _ _ _ f _ hn hlen h).mono ?_
  rw [hg]
  rintro e w1 ⟨rfl, hB⟩
  have HB1 : Hid (Below W.heap.size W w1) := hB
  clear hB
  go_wp2_with (go_at_call 35; refine (units_spec hu _).mono ?_; rintro e w' ⟨rfl, hw⟩; rw [hw]; clear hw w')
  go_loop [31] (fun vi => ∃ k : Nat, k ≤ len ∧ vi = .int .i64 (k : Int) ∧ Hid (∀ i, i < k → 0 ≤ t.getD i 0 ∧ t.getD i 0 ≤ 1000)) (fun vi => len - (intOf vi).toNat)
  case atStart => exact ⟨0, Nat.zero_le _, rfl, fun i hi => by omega⟩
  case round =>
    obtain ⟨k, hk, rfl, HA⟩ := hrel
    by_cases hlt : k < len
    · have hltI : (k : Int) < (len : Int) := by omega
      obtain ⟨bb, ob, hbE, cS⟩ := hI.out.at HB1.out (k := k) (by rw [hz.out]; exact hlt)
      subst hbE
      cases hr : inR (t.getD k 0) 0 1000
      · have HE : Hid (okS f t len u = false) := okS_no3 (starts_bad hlt hr)
        generalize t.getD k 0 = z at cS hr
        go_wp2_with (go_at_call 30; refine (in_quiet hr _).mono ?_; rintro e w' ⟨rfl, hw⟩; rw [hw]; clear hw w')
        go_ret2
        exact sch_no HE.out HB1.out
      · have HA2 : Hid (∀ i, i < k + 1 → 0 ≤ t.getD i 0 ∧ t.getD i 0 ≤ 1000) := by
          show ∀ i, _ → _
          intro i hi
          by_cases e : i = k
          · subst e; exact inR_out hr
          · exact HA.out i (by omega)
        generalize t.getD k 0 = z at cS hr
        go_wp2_with (go_at_call 30; refine (in_quiet hr _).mono ?_; rintro e w' ⟨rfl, hw⟩; rw [hw]; clear hw w')
        go_round
        case rel => exact ⟨k + 1, by omega, by go_num, HA2⟩
        case measure => simp [intOf]; omega
    have HBD : Hid (∀ i, i < len → 0 ≤ t.getD i 0 ∧ t.getD i 0 ≤ 1000) := fun i hi => HA.out i (by omega)
    have HOK : Hid (okS f t len u = true) := okS_yes hg hu (starts_yes hz.out HBD.out)
    have HBD2 : Hid (∀ i, i < len → -1 ≤ t.getD i 0 ∧ t.getD i 0 ≤ 100000) := fun i hi => by have := HBD.out i hi; omega
    clear HA hk
    go_wp2
    go_loopw [41] (fun vi wr => ∃ k : Nat, k ≤ len ∧ vi = .int .i64 (k : Int) ∧ Hid (∀ j, j < k → fitB f t len u j = true) ∧ Hid (Below W.heap.size W wr)) (fun vi _ => len - (intOf vi).toNat)
    case atStart => exact ⟨0, Nat.zero_le _, rfl, fun j hj => by omega, HB1⟩
    case round =>
      obtain ⟨k, hk, rfl, HF, HB⟩ := hrel
      by_cases hkl : k < len
      rotate_left
      · have HE : Hid (schedB f t len u = true) := sched_yes (fun j hj => HF.out j (by omega))
        go_wp2
        go_ret2
        exact sch_is HOK.out HE.out HB.out
      have hkI : (k : Int) < (len : Int) := by omega
      obtain ⟨ba, oa, ta, tc, ha, hba, c0, c1, hIk⟩ := pat_at h.out HB.out hkl
      subst ha
      have HT : Hid (Times W (some ⟨ba, oa, none⟩) len f b t) := ⟨h.out, hI.out, hz.out⟩
      have HIk : Hid (Ints wr ta (f k).zs) := hIk
      have HRy : Hid (∀ j, j < (f k).zs.length → t.getD k 0 < overV f t ((f k).zs.getD j 0).toNat → schedB f t len u = false) := fun j hj q => sched_bad hkl (fit_ready (ready_no hj (Or.inr q)))
      have HRt : Hid (ReadyTo f t (f k).zs (t.getD k 0) (f k).zs.length → (runTo f t (t.getD k 0) len : Int) ≤ u → fitB f t len u k = true) := fun q1 q2 => fit_yes (ready_yes q1) q2
      have HRm : Hid (u < (runTo f t (t.getD k 0) len : Int) → schedB f t len u = false) := fun q => sched_bad hkl (fit_many q)
      have ht := task_out (HG.out k hkl)
      have HL := hlen.out k hkl
      obtain ⟨p, hpE⟩ : ∃ p, Hid (f k = p) := ⟨_, rfl⟩
      rw [hpE.out] at c0 c1 HIk HRy HRt ht HL
      have HR : Hid (RiseTo p.zs (k : Int) p.zs.length) := ht.2.2
      obtain ⟨L, HZ⟩ : ∃ L, Hid (p.zs.length = L) := ⟨_, rfl⟩
      rw [HZ.out] at c0 HRy HRt HL HR
      obtain ⟨bb, ob, hbE, cK⟩ := HT.out.starts.at HB.out (k := k) (by rw [HT.out.len]; exact hkl)
      subst hbE
      obtain ⟨sk, hsk⟩ : ∃ sk, Hid (t.getD k 0 = sk) := ⟨_, rfl⟩
      have hskb := HBD.out k hkl
      rw [hsk.out] at cK HRy HRt HRm hskb
      clear ht hIk
      have hbw : ba < wr.heap.size := by have := HB.out.size; omega
      have hbb : bb < wr.heap.size := World.block_lt_of_cell? wr _ cK
      obtain ⟨wo, hwo⟩ : ∃ wo, wo = wr := ⟨_, rfl⟩
      subst hwo
      go_wp2
      obtain ⟨X, hX⟩ : ∃ X, Hid (wo.alloc (.cells #[.int .i64 p.c, .slice ta L tc] 46) = X) := ⟨_, rfl⟩
      have HX : Hid (Below wo.heap.size wo X) := by show Below _ _ _; rw [← hX.out]; repeat (first | exact Below.refl _ _ | refine Below.drew ?_ | refine Below.setCell ?_ (by simp; try omega) _ | refine Below.alloc ?_ (by simp; try omega) _)
      have hXs : X.heap.size = wo.heap.size + 1 := by rw [← hX.out]; simp
      rw [hX.out]
      have HIX : Hid (Ints X ta p.zs) := HIk.out.kept HX.out
      clear c0 c1 HIk hX
      go_loopw [49] (fun vj wi => ∃ j : Nat, j ≤ L ∧ vj = .int .i64 (j : Int) ∧ Hid (ReadyTo f t p.zs sk j) ∧ Hid (Below X.heap.size X wi)) (fun vj _ => L - (intOf vj).toNat)
      case atStart => exact ⟨0, Nat.zero_le _, rfl, ready_nil _ _ _ _, Below.refl _ _⟩
      case round =>
        obtain ⟨j, hj, rfl, HRD, HB2⟩ := hrel
        have HB3 : Hid (Below wo.heap.size wo wr) := HX.out.trans (HB2.out.mono (by omega))
        have HB4 : Hid (Below W.heap.size W wr) := HB.out.trans (HB3.out.mono HB.out.size)
        have cK2 : wr.cell? ⟨bb, ob + k, none⟩ = some (.int .i64 sk) := (HB3.out.cell (p := ⟨bb, ob + k, none⟩) hbb).trans cK
        by_cases hjL : j < L
        rotate_left
        · have HTk : Hid (Times wr (some ⟨ba, oa, none⟩) len f (some ⟨bb, ob, none⟩) t) := HT.out.kept HB4.out
          obtain ⟨rn, hrn⟩ : ∃ rn, Hid (runTo f t sk len = rn) := ⟨_, rfl⟩
          rw [hrn.out] at HRm HRt
          by_cases q : u < (rn : Int)
          · have HE : Hid (schedB f t len u = false) := HRm.out q
            go_wp2_with (go_at_call 36; refine (spec_running _ _ _ _ _ _ f t _ hn12 HBD2 HG HTk).mono ?_; rw [hrn.out]; rintro e w' ⟨rfl, hw⟩; rw [hw]; clear hw w')
            go_ret2
            exact sch_is HOK.out HE.out HB4.out
          · have q' : (rn : Int) ≤ u := by omega
            have HE := HRt.out (by rw [show L = j by omega]; exact HRD.out) q'
            have HF2 : Hid (∀ i, i < k + 1 → fitB f t len u i = true) := by
              show ∀ i, _ → _
              intro i hi
              by_cases e : i = k
              · subst e; exact HE
              · exact HF.out i (by omega)
            clear HE q
            go_wp2_with (go_at_call 36; refine (spec_running _ _ _ _ _ _ f t _ hn12 HBD2 HG HTk).mono ?_; rw [hrn.out]; rintro e w' ⟨rfl, hw⟩; rw [hw]; clear hw w')
            go_roundw
            case rel => exact ⟨k + 1, by omega, by go_num, HF2, HB4⟩
            case measure => simp [intOf]; omega
        have hjI : (j : Int) < (L : Int) := by omega
        obtain ⟨bz, oz, hzE, cZ⟩ := HIX.out.at HB2.out (k := j) (by rw [HZ.out]; exact hjL)
        subst hzE
        have hr := HR.out j hjL
        obtain ⟨z, hzz⟩ : ∃ z : Nat, Hid (p.zs.getD j 0 = (z : Int)) := ⟨(p.zs.getD j 0).toNat, by show _ = _; omega⟩
        have HNO : Hid (sk < overV f t z → schedB f t len u = false) := fun q => HRy.out j hjL (by rw [hzz.out, Int.toNat_natCast]; exact q)
        have HNX : Hid (0 ≤ t.getD z 0 → overV f t z ≤ sk → ReadyTo f t p.zs sk (j + 1)) := fun q1 q2 => ready_next HRD.out (by rw [hzz.out, Int.toNat_natCast]; exact q1) (by rw [hzz.out, Int.toNat_natCast]; exact q2)
        rw [hzz.out] at cZ hr
        have hzk : z < k := by omega
        have hzn : z < len := by omega
        have hznI : (z : Int) < (len : Int) := by omega
        obtain ⟨b2, o2, hbE, cT⟩ := HT.out.starts.at HB4.out (k := z) (by rw [HT.out.len]; exact hzn)
        obtain ⟨rfl, rfl⟩ : bb = b2 ∧ ob = o2 := by simpa using hbE
        obtain ⟨ba2, oa2, ta2, tc2, ha, hba2, e0, e1, _⟩ := pat_at HT.out.tasks HB4.out hzn
        obtain ⟨rfl, rfl⟩ : ba = ba2 ∧ oa = oa2 := by simpa using ha
        have hzb := HBD.out z hzn
        obtain ⟨t0, t1, _⟩ := task_out (HG.out z hzn)
        have HOV : Hid (overV f t z = t.getD z 0 + (f z).c) := rfl
        obtain ⟨sz, hsz⟩ : ∃ sz, Hid (t.getD z 0 = sz) := ⟨_, rfl⟩
        obtain ⟨cz, hcz⟩ : ∃ cz, Hid ((f z).c = cz) := ⟨_, rfl⟩
        rw [hsz.out] at cT hzb HOV HNX
        rw [hcz.out] at e1 t0 t1 HOV
        rw [HOV.out] at HNO HNX
        clear e0 hbE ha
        obtain ⟨z0, z1⟩ := hzb
        by_cases q : sk < sz + cz
        · have HE : Hid (schedB f t len u = false) := HNO.out q
          have dq : decide (sk < sz + cz) = true := decide_eq_true q
          go_wp2_with fail
          go_quiet (fail)
          go_wp2
          go_ret2
          exact sch_is HOK.out HE.out (belowN HB4.out _)
        · have q' : sz + cz ≤ sk := by omega
          have dq : decide (sk < sz + cz) = false := decide_eq_false q
          have HN := HNX.out z0 q'
          have HN2 : Hid (ReadyTo f t p.zs sk (j + 1)) := HN
          clear HN q
          go_wp2_with fail
          go_quiet (fail)
          go_wp2
          go_roundw
          case rel => exact ⟨j + 1, by omega, by go_num, HN2, belowN HB2.out _⟩
          case measure => simp [intOf]; omega
theorem starts_quiet {b : Option Addr} {n len cb : Nat} {t : List Int} {c : Bool} (W : World) (hz : Hid (t.length = len)) (hlen : len ≤ 1048576) (hn : n ≤ 12) (h : Ints W b t) (hc : startsB t n = c) :
    Calls Try.prog 38 #[.slice b len cb, .int .i64 (n : Int)] W fun e W' => e = .returned (.bool c) ∧ W' = W := by
  have := impl_starts b n len cb t W hz hlen hn h
  rw [hc] at this
  exact this
set_option maxHeartbeats 8000000 in
theorem impl_sched (a b : Option Addr) (n ca len cb : Nat) (u : Int) (f : Nat → Pv) (t : List Int) (W : World) (hn : n ≤ 1048576) (hlen : Hid (∀ k, k < n → (f k).zs.length ≤ 1048576)) (hz : Hid (t.length = len)) (hl1 : len ≤ 1048576) (h : Hid (Pats W a n f)) (hI : Hid (Ints W b t)) :
    Calls Try.prog 16 #[.slice a n ca, .int .i64 u, .slice b len cb] W fun e W' => SchAns f t n u W e W' := by
  have hlI : (len : Int) ≤ 1048576 := by omega
  cases hg : tasksB f n
  · have HE : Hid (okS f t n u = false) := okS_no1 hg
    go_enter Try.func16, Try.ntmps16
    go_wp2_with fail
    refine (impl_tasks _ _ _ f _ hn hlen h).mono ?_
    rw [hg]
    rintro e w1 ⟨rfl, hB⟩
    have HB1 : Hid (Below W.heap.size W w1) := hB
    clear hB
    go_wp2
    go_ret2
    exact sch_no HE.out HB1.out
  cases hu : inR u 1 4
  · have HE : Hid (okS f t n u = false) := okS_no2 hu
    go_enter Try.func16, Try.ntmps16
    go_wp2_with fail
    refine (impl_tasks _ _ _ f _ hn hlen h).mono ?_
    rw [hg]
    rintro e w1 ⟨rfl, hB⟩
    have HB1 : Hid (Below W.heap.size W w1) := hB
    clear hB
    go_wp2_with (go_at_call 37; refine (units_impl hu _).mono ?_; rintro e w' ⟨rfl, hw⟩; rw [hw]; clear hw w')
    go_ret2
    exact sch_no HE.out HB1.out
  obtain ⟨hn12, hgd⟩ := tasks_out hg
  have HG : Hid (∀ k, k < n → taskB (f k) k = true) := hgd
  clear hgd
  cases hst : startsB t n
  · have HE : Hid (okS f t n u = false) := okS_no3 hst
    go_enter Try.func16, Try.ntmps16
    go_wp2_with fail
    refine (impl_tasks _ _ _ f _ hn hlen h).mono ?_
    rw [hg]
    rintro e w1 ⟨rfl, hB⟩
    have HB1 : Hid (Below W.heap.size W w1) := hB
    clear hB
    have HI1 : Hid (Ints w1 b t) := hI.out.kept HB1.out
    go_wp2_with (first | (go_at_call 37; refine (units_impl hu _).mono ?_; rintro e w' ⟨rfl, hw⟩; rw [hw]; clear hw w') | (go_at_call 38; refine (starts_quiet _ hz hl1 hn12 HI1.out hst).mono ?_; rintro e w' ⟨rfl, hw⟩; rw [hw]; clear hw w'))
    go_ret2
    exact sch_no HE.out HB1.out
  have HOK : Hid (okS f t n u = true) := okS_yes hg hu hst
  obtain ⟨hzl, hbd⟩ := starts_out hst
  obtain rfl : len = n := by rw [← hz.out]; exact hzl
  have HBD : Hid (∀ i, i < len → 0 ≤ t.getD i 0 ∧ t.getD i 0 ≤ 1000) := hbd
  have HBD2 : Hid (∀ i, i < len → -1 ≤ t.getD i 0 ∧ t.getD i 0 ≤ 100000) := fun i hi => by have := HBD.out i hi; omega
  clear hzl hbd
  go_enter Try.func16, Try.ntmps16
  go_wp2_with fail
  refine (impl_tasks _ _ _ f _ hn hlen h).mono ?_
  rw [hg]
  rintro e w1 ⟨rfl, hB⟩
  have HB1 : Hid (Below W.heap.size W w1) := hB
  clear hB
  have HI1 : Hid (Ints w1 b t) := hI.out.kept HB1.out
  go_wp2_with (first | (go_at_call 37; refine (units_impl hu _).mono ?_; rintro e w' ⟨rfl, hw⟩; rw [hw]; clear hw w') | (go_at_call 38; refine (starts_quiet _ hz hl1 hn12 HI1.out hst).mono ?_; rintro e w' ⟨rfl, hw⟩; rw [hw]; clear hw w'))
  obtain ⟨X, hX, BX, hXs, x0, x1⟩ := box_times w1 a b len ca cb
  rw [hX.out]
  clear hX
  have HT : Hid (Times W a len f b t) := ⟨h.out, hI.out, hz.out⟩
  have HBX : Hid (Below W.heap.size W X) := HB1.out.trans (BX.mono HB1.out.size)
  clear BX
  go_loopw [31] (fun vi wr => ∃ k : Nat, k ≤ len ∧ vi = .int .i64 (k : Int) ∧ Hid (∀ j, j < k → fitB f t len u j = true) ∧ Hid (Below X.heap.size X wr)) (fun vi _ => len - (intOf vi).toNat)
  case atStart => exact ⟨0, Nat.zero_le _, rfl, fun j hj => by omega, Below.refl _ _⟩
  case round =>
    obtain ⟨k, hk, rfl, HF, HB⟩ := hrel
    have HBW : Hid (Below W.heap.size W wr) := HBX.out.trans (HB.out.mono HBX.out.size)
    by_cases hkl : k < len
    rotate_left
    · have HE : Hid (schedB f t len u = true) := sched_yes (fun j hj => HF.out j (by omega))
      go_wp2
      go_ret2
      exact sch_is HOK.out HE.out HBW.out
    have hkI : (k : Int) < (len : Int) := by omega
    have HRf : Hid (readyB f t k (t.getD k 0) = false → schedB f t len u = false) := fun q => sched_bad hkl (fit_ready q)
    have HRm : Hid (u < (runTo f t (t.getD k 0) len : Int) → schedB f t len u = false) := fun q => sched_bad hkl (fit_many q)
    have HRt : Hid (readyB f t k (t.getD k 0) = true → (runTo f t (t.getD k 0) len : Int) ≤ u → fitB f t len u k = true) := fun q1 q2 => fit_yes q1 q2
    obtain ⟨bb, ob, hbE, cK⟩ := HT.out.starts.at HBW.out (k := k) (by rw [HT.out.len]; exact hkl)
    subst hbE
    obtain ⟨sk, hsk⟩ : ∃ sk, Hid (t.getD k 0 = sk) := ⟨_, rfl⟩
    rw [hsk.out] at cK HRf HRm HRt
    have hw1 : w1.heap.size < X.heap.size := by omega
    have y0 : wr.cell? ⟨w1.heap.size, 0, none⟩ = some (.slice a len ca) := (HB.out.cell (p := ⟨w1.heap.size, 0, none⟩) hw1).trans x0
    have y1 : wr.cell? ⟨w1.heap.size, 1, none⟩ = some (.slice (some ⟨bb, ob, none⟩) len cb) := (HB.out.cell (p := ⟨w1.heap.size, 1, none⟩) hw1).trans x1
    have HTr : Hid (Times wr a len f (some ⟨bb, ob, none⟩) t) := HT.out.kept HBW.out
    cases hrd : readyB f t k sk
    · have HE : Hid (schedB f t len u = false) := HRf.out hrd
      go_wp2_with fail
      refine (impl_ready _ _ _ _ _ _ _ f t _ hkl hn12 HBD2 HG hlen HTr).mono ?_
      rw [hrd]
      rintro e w2 ⟨rfl, hB⟩
      have HB2 : Hid (Below W.heap.size W w2) := HBW.out.trans (hB.mono HBW.out.size)
      clear hB
      go_wp2
      go_ret2
      exact sch_is HOK.out HE.out HB2.out
    go_wp2_with fail
    refine (impl_ready _ _ _ _ _ _ _ f t _ hkl hn12 HBD2 HG hlen HTr).mono ?_
    rw [hrd]
    rintro e w2 ⟨rfl, hB⟩
    have HB2 : Hid (Below W.heap.size W w2) := HBW.out.trans (hB.mono HBW.out.size)
    have HB2X : Hid (Below X.heap.size X w2) := HB.out.trans (hB.mono HB.out.size)
    have y0 := (hB.cell (p := ⟨w1.heap.size, 0, none⟩) (by have := HB.out.size; show w1.heap.size < _; omega)).trans y0
    have y1 := (hB.cell (p := ⟨w1.heap.size, 1, none⟩) (by have := HB.out.size; show w1.heap.size < _; omega)).trans y1
    have HTr2 : Hid (Times w2 a len f (some ⟨bb, ob, none⟩) t) := HTr.out.kept hB
    clear hB HTr
    obtain ⟨rn, hrn⟩ : ∃ rn, Hid (runTo f t sk len = rn) := ⟨_, rfl⟩
    rw [hrn.out] at HRm HRt
    by_cases q : u < (rn : Int)
    · have HE : Hid (schedB f t len u = false) := HRm.out q
      go_wp2_with fail
      refine (impl_busy _ _ _ _ _ _ f t _ hn12 HBD HG HTr2).mono ?_
      rw [hrn.out]
      rintro e w3 ⟨rfl, hB⟩
      have HB3 : Hid (Below W.heap.size W w3) := HB2.out.trans (hB.mono HB2.out.size)
      clear hB
      go_wp2
      go_ret2
      exact sch_is HOK.out HE.out HB3.out
    · have q' : (rn : Int) ≤ u := by omega
      have HE := HRt.out hrd q'
      have HF2 : Hid (∀ i, i < k + 1 → fitB f t len u i = true) := by
        show ∀ i, _ → _
        intro i hi
        by_cases e : i = k
        · subst e; exact HE
        · exact HF.out i (by omega)
      clear HE q
      go_wp2_with fail
      refine (impl_busy _ _ _ _ _ _ f t _ hn12 HBD HG HTr2).mono ?_
      rw [hrn.out]
      rintro e w3 ⟨rfl, hB⟩
      have HB3 : Hid (Below X.heap.size X w3) := HB2X.out.trans (hB.mono HB2X.out.size)
      clear hB
      go_wp2
      go_roundw
      case rel => exact ⟨k + 1, by omega, by go_num, HF2, HB3⟩
      case measure => simp [intOf]; omega
end Go.Proofs.Ytbnddgdembmooaa.walks
