/-
  What the program's heapRunOf makes of a heap.
-/
import Derived.Test.YthomonidconmcaaProg
import Derived.Test.YthomonidconmcaaInts
import Derived.Test.YthomonidconmcaaOwnInts
import Derived.Test.YthomonidconmcaaDeep
import Derived.Test.YthomonidconmcaaDeepOpen
import Derived.Test.YthomonidconmcaaDeepRow
import Derived.Test.YthomonidconmcaaDeepH
import Derived.Test.YthomonidconmcaaHeapMath
import Derived.Test.YthomonidconmcaaHeapSpec
import Derived.Test.YthomonidconmcaaPtrMap
import Derived.Test.YthomonidconmcaaRiseImpl
import Derived.Test.YthomonidconmcaaHeapAdd
import Derived.Test.YthomonidconmcaaHeapRun
import Derived.Test.YthomonidconmcaaHeapLeads
import Derived.Test.YthomonidconmcaaHeapNoted
import Derived.Test.YthomonidconmcaaHasIn
import Derived.Test.YthomonidconmcaaHeapObj
import Derived.OwnWalk
import Derived.Laws.CopyOwn
import Derived.Carry
import Derived.Deep.RegionLaw
import Derived.Deep.RegionHeld3
import Derived.Deep.OwnRows
import Derived.Deep.DeepCutAuto
import Derived.WalkKit
import Derived.WalkSpells
import Derived.Below
import Derived.Handy
namespace Go.Proofs.Ythomonidconmcaa.walks
open Go.RowKit Go.Proofs.Ythomonidconmcaa.math Go.Proofs.Ythomonidconmcaa.ints Go.Proofs.Ythomonidconmcaa.deep
set_option linter.unusedVariables false
set_option linter.unusedSimpArgs false
set_option maxRecDepth 100000

/-- What heapRunOf answers. -/
def MadeTo (cs : Nat → Dv) (n : Nat) (rs ns : List Int) (nx : Int) (W : World) (e : Ending) (W' : World) : Prop := ∃ v, e = .returned (.tuple #[v, .bool (heapB cs n rs ns nx)]) ∧ Below W.heap.size W W' ∧ (heapB cs n rs ns nx = true → ∃ rp mp sp m p, v = .pointer (some ⟨rp, 0, none⟩) ∧ RunAt W' W.heap.size rp mp sp n m p ⟨objF cs n, rs, fun x => decide (x ∈ ns), nx⟩)
theorem made_no {cs : Nat → Dv} {n : Nat} {rs ns : List Int} {nx : Int} {W W' : World} {v : Value} (h : ¬ HeapOk cs n rs ns nx) (hb : Below W.heap.size W W') : MadeTo cs n rs ns nx W (.returned (.tuple #[v, .bool false])) W' := ⟨v, by rw [heap_no h], hb, fun q => by rw [heap_no h] at q; cases q⟩
set_option maxHeartbeats 16000000 in
theorem impl_made (a : Option Addr) (n cap : Nat) (ra : Option Addr) (rl rc : Nat) (na : Option Addr) (nl nc : Nat) (nx : Int) (cs : Nat → Dv) (rs ns : List Int) (c : Bool) (W : World) (hf : Hid (Fits shObjectS (.l n 3 cs))) (hs : Hid (szD (.l n 3 cs) ≤ 1048576)) (h : Hid (Holds W c (.l n 3 cs) (.slice a n cap))) (hzr : Hid (rs.length = rl)) (hrl : rl ≤ 1048576) (Ir : Hid (Ints W ra rs)) (hzn : Hid (ns.length = nl)) (hnnl : nl ≤ 1048576) (In : Hid (Ints W na ns)) (HWl : Hid (∀ k, k < n → ∀ x ∈ hls cs k, okZ x)) (HWr : Hid (∀ x ∈ rs, okZ x)) :
    Calls Try.prog 34 #[.agg #[.slice a n cap, .slice ra rl rc, .slice na nl nc, .int .i64 nx]] W fun e W' => MadeTo cs n rs ns nx W e W' := by
  have hn : n ≤ 1048576 := Nat.le_trans (Nat.le_add_right _ _) hs.out
  obtain ⟨X, hX⟩ : ∃ X, Hid (W.alloc (.cells #[.slice a n cap, .slice ra rl rc, .slice na nl nc, .int .i64 nx] 30) = X) := ⟨_, rfl⟩
  have HX : Hid (Below W.heap.size W X) := by show Below _ _ _; rw [← hX.out]; exact (Below.refl _ _).alloc (Nat.le_refl _) _
  have hRX := row_of W #[.slice a n cap, .slice ra rl rc, .slice na nl nc, .int .i64 nx] 30
  rw [hX.out] at hRX
  have HRX : Hid (X.rowIs W.heap.size 30 4 (rowF [.slice a n cap, .slice ra rl rc, .slice na nl nc, .int .i64 nx])) := hRX
  clear hRX
  have r0 : X.cell? ⟨W.heap.size, 0, none⟩ = some (.slice a n cap) := HRX.out.cell (i := 0) (by decide)
  have r1 : X.cell? ⟨W.heap.size, 1, none⟩ = some (.slice ra rl rc) := HRX.out.cell (i := 1) (by decide)
  have r2 : X.cell? ⟨W.heap.size, 2, none⟩ = some (.slice na nl nc) := HRX.out.cell (i := 2) (by decide)
  have r3 : X.cell? ⟨W.heap.size, 3, none⟩ = some (.int .i64 nx) := HRX.out.cell (i := 3) (by decide)
  have rl0 := HRX.out.lt
  by_cases s0 : (n : Int) ≤ 24
  rotate_left
  · have HA : Hid (¬ HeapOk cs n rs ns nx) := fun q => s0 (by have := q.1.1; omega)
    have d0 : (24 : Int) < n := by omega
    clear s0
    go_enter Try.func34, Try.ntmps34
    go_wp2_with fail
    rw [hX.out]
    go_wp2
    go_ret2
    exact made_no HA.out HX.out
  by_cases s1 : rl = 6
  rotate_left
  · have HA : Hid (¬ HeapOk cs n rs ns nx) := fun q => s1 (by rw [← hzr.out]; exact q.1.2.1)
    have lI : (rl : Int) ≠ 6 := by omega
    have d3 : ((rl : Int) == 6) = false := by simpa using lI
    have d4 : ((rl : Int) != 6) = true := by simpa using lI
    have d6 : (rl == 6) = false := by simpa using s1
    go_enter Try.func34, Try.ntmps34
    go_wp2_with fail
    rw [hX.out]
    go_wp2
    go_ret2
    exact made_no HA.out HX.out
  subst s1
  cases s2 : inR nx 0 1000
  · have HA : Hid (¬ HeapOk cs n rs ns nx) := fun q => by rw [inR_mk q.1.2.2.1 q.1.2.2.2] at s2; cases s2
    go_enter Try.func34, Try.ntmps34
    go_wp2_with fail
    rw [hX.out]
    go_wp2_with (go_at_call 50; refine (between_quiet s2 _).mono ?_; rintro e w' ⟨rfl, hw⟩; rw [hw]; clear hw w')
    go_ret2
    exact made_no HA.out HX.out
  have hnx := inR_out s2
  have n24 : decide ((n : Int) > 24) = false := decide_eq_false (by omega)
  have n24a : decide (24 < (n : Int)) = false := decide_eq_false (by omega)
  have n24b : decide (24 < n) = false := decide_eq_false (by omega)
  go_enter Try.func34, Try.ntmps34
  go_wp2_with fail
  rw [hX.out]
  go_wp2_with (first | (go_at_call 50; refine (between_quiet s2 _).mono ?_; rintro e w' ⟨rfl, hw⟩; rw [hw]; clear hw w') | fail)
  have BD : Hid (Below X.heap.size X X.drew) := (Below.refl _ _).drew
  have RR : Hid (∀ w, Below X.heap.size X w → w.cell? ⟨W.heap.size, 0, none⟩ = some (.slice a n cap) ∧ w.cell? ⟨W.heap.size, 2, none⟩ = some (.slice na nl nc) ∧ w.cell? ⟨W.heap.size, 3, none⟩ = some (.int .i64 nx)) := fun w q => ⟨(HRX.out.of_block (q.block _ HRX.out.lt)).cell (i := 0) (by decide), (HRX.out.of_block (q.block _ HRX.out.lt)).cell (i := 2) (by decide), (HRX.out.of_block (q.block _ HRX.out.lt)).cell (i := 3) (by decide)⟩
  have SX : X.cell? ⟨W.heap.size, 0, none⟩ = some (.slice a n cap) ∧ X.cell? ⟨W.heap.size, 2, none⟩ = some (.slice na nl nc) ∧ X.cell? ⟨W.heap.size, 3, none⟩ = some (.int .i64 nx) := ⟨r0, r2, r3⟩
  have SD : X.drew.cell? ⟨W.heap.size, 0, none⟩ = some (.slice a n cap) ∧ X.drew.cell? ⟨W.heap.size, 2, none⟩ = some (.slice na nl nc) ∧ X.drew.cell? ⟨W.heap.size, 3, none⟩ = some (.int .i64 nx) := RR.out _ BD.out
  have HNL : Hid ((namesL cs n).length = n) := namesL_len cs n
  have hnx2 : nx ≤ 1048576 := by omega
  clear r0 r1 r2 r3 rl0 hX
  cases q1 : riseB (namesL cs n) nx
  · have HA : Hid (¬ HeapOk cs n rs ns nx) := fun q => by
      have : riseB (namesL cs n) nx = true := rise_yes (fun i hi => by
        rw [namesL_len] at hi
        rw [namesL_at cs hi]
        refine ⟨(q.2.1.1 i hi).1, (q.2.1.1 i hi).2, fun i0 => ?_⟩
        rw [namesL_at cs (by omega)]
        have := q.2.1.2 (i - 1) (by omega)
        rwa [show i - 1 + 1 = i by omega] at this)
      rw [this] at q1; cases q1
    obtain ⟨kda, kdb, kdc⟩ := SD
    have kdl : W.heap.size < X.heap.size := HRX.out.lt
    first | (go_region_with (first | (go_at_call 52; refine (impl_names a n cap cs c X.drew hf hn (h.out.kept (HX.out.trans (BD.out.mono HX.out.size)))).mono ?_; rintro e w5 ⟨v5, rfl, hO, hB⟩; obtain ⟨ua, uc, ue, hM⟩ := hO.mine; rw [namesL_len] at ue; subst ue; have HI5 : Hid (Ints w5 ua (namesL cs n)) := hM.ints; have HB5 : Hid (Below X.heap.size X w5) := BD.out.trans (hB.mono BD.out.size); have S5 := RR.out w5 HB5.out; obtain ⟨k5a, k5b, k5c⟩ := RR.out w5 HB5.out; have k5l := Nat.lt_of_lt_of_le HRX.out.lt HB5.out.size; clear hO hB hM) | (go_at_call 51; refine (rising_quiet w5 HNL hn hnx.1 hnx2 HI5.out q1).mono ?_; rintro e w6 ⟨rfl, hw⟩; rw [hw]; clear hw w6))) | fail
    all_goals
      go_wp2
      go_ret2
      exact made_no HA.out (by first | exact HX.out.trans (HB5.out.mono HX.out.size) | skip)
  cases q2 : riseB ns nx
  · have HA : Hid (¬ HeapOk cs n rs ns nx) := fun q => by
      have : riseB ns nx = true := rise_yes (fun i hi => by
        obtain ⟨kk, hkk, e1, _⟩ := q.2.2.2.2.2.1 _ (mem_at.2 ⟨i, hi, rfl⟩)
        have := q.2.1.1 kk hkk
        refine ⟨by omega, by omega, fun i0 => ?_⟩
        have := q.2.2.2.2.1 (i - 1) (by omega)
        rwa [show i - 1 + 1 = i by omega] at this)
      rw [this] at q2; cases q2
    go_region_held3 (fun w' => w'.cell? ⟨W.heap.size, 0, none⟩ = some (.slice a n cap) ∧ w'.cell? ⟨W.heap.size, 2, none⟩ = some (.slice na nl nc) ∧ w'.cell? ⟨W.heap.size, 3, none⟩ = some (.int .i64 nx)) (first | with_reducible exact SX | with_reducible exact SD | with_reducible exact S5 | go_keep) (first
      | (go_at_call 52; refine (impl_names a n cap cs c X.drew hf hn (h.out.kept (HX.out.trans (BD.out.mono HX.out.size)))).mono ?_; rintro e w5 ⟨v5, rfl, hO, hB⟩; obtain ⟨ua, uc, ue, hM⟩ := hO.mine; rw [namesL_len] at ue; subst ue; have HI5 : Hid (Ints w5 ua (namesL cs n)) := hM.ints; have HB5 : Hid (Below X.heap.size X w5) := BD.out.trans (hB.mono BD.out.size); have S5 := RR.out w5 HB5.out; clear hO hB hM)
      | (go_at_call 51; go_fit (rising_quiet w5 HNL hn hnx.1 hnx2 HI5.out q1); rintro e w6 ⟨rfl, hw⟩; rw [hw]; clear hw w6)
      | (go_at_call 51; go_fit (rising_quiet w5 hzn hnnl hnx.1 hnx2 (In.out.kept (HX.out.trans (HB5.out.mono HX.out.size))) q2); rintro e w6 ⟨rfl, hw⟩; rw [hw]; clear hw w6))
    go_wp2
    go_ret2
    exact made_no HA.out (HX.out.trans (HB5.out.mono HX.out.size))
  go_region_held3 (fun w' => w'.cell? ⟨W.heap.size, 0, none⟩ = some (.slice a n cap) ∧ w'.cell? ⟨W.heap.size, 2, none⟩ = some (.slice na nl nc) ∧ w'.cell? ⟨W.heap.size, 3, none⟩ = some (.int .i64 nx)) (first | with_reducible exact SX | with_reducible exact SD | with_reducible exact S5 | go_keep) (first
    | (go_at_call 52; refine (impl_names a n cap cs c X.drew hf hn (h.out.kept (HX.out.trans (BD.out.mono HX.out.size)))).mono ?_; rintro e w5 ⟨v5, rfl, hO, hB⟩; obtain ⟨ua, uc, ue, hM⟩ := hO.mine; rw [namesL_len] at ue; subst ue; have HI5 : Hid (Ints w5 ua (namesL cs n)) := hM.ints; have HB5 : Hid (Below X.heap.size X w5) := BD.out.trans (hB.mono BD.out.size); have S5 := RR.out w5 HB5.out; clear hO hB hM)
    | (go_at_call 51; go_fit (rising_quiet w5 HNL hn hnx.1 hnx2 HI5.out q1); rintro e w6 ⟨rfl, hw⟩; rw [hw]; clear hw w6)
    | (go_at_call 51; go_fit (rising_quiet w5 hzn hnnl hnx.1 hnx2 (In.out.kept (HX.out.trans (HB5.out.mono HX.out.size))) q2); rintro e w6 ⟨rfl, hw⟩; rw [hw]; clear hw w6))
  have HR5 : Hid (w5.rowIs W.heap.size 30 4 (rowF [.slice a n cap, .slice ra 6 rc, .slice na nl nc, .int .i64 nx])) := HRX.out.of_block (HB5.out.block _ HRX.out.lt)
  have BW5 : Hid (Below W.heap.size W w5) := HX.out.trans (HB5.out.mono HX.out.size)
  have NOK : Hid (NamesOk cs n nx) := by
    have q := rise_out q1
    rw [namesL_len] at q
    refine ⟨fun k hk => ?_, fun k hk => ?_⟩
    · have := q k hk
      rw [namesL_at cs hk] at this
      exact ⟨this.1, this.2.1⟩
    · have := (q (k + 1) hk).2.2 (by omega)
      rw [namesL_at cs hk, Nat.add_sub_cancel, namesL_at cs (by omega)] at this
      exact this
  have ROK : Hid (RiseTo ns nx ns.length) := rise_out q2
  clear S5 SX SD RR BD HI5 HB5 HRX HX q1 q2 HNL
  have r0 : w5.cell? ⟨W.heap.size, 0, none⟩ = some (.slice a n cap) := HR5.out.cell (i := 0) (by decide)
  have r1 : w5.cell? ⟨W.heap.size, 1, none⟩ = some (.slice ra 6 rc) := HR5.out.cell (i := 1) (by decide)
  have r2 : w5.cell? ⟨W.heap.size, 2, none⟩ = some (.slice na nl nc) := HR5.out.cell (i := 2) (by decide)
  have r3 : w5.cell? ⟨W.heap.size, 3, none⟩ = some (.int .i64 nx) := HR5.out.cell (i := 3) (by decide)
  have rl0 := HR5.out.lt
  have hmm := @run_makeMap Try.prog
  go_upto_region 6 with fail
  clear hmm r0 r1 r2 r3 rl0
  obtain ⟨X0, hX0⟩ : ∃ X, Hid ((((w5.alloc (.map #[] 0)).alloc (.map #[] 0)).alloc (.cells #[.map (some w5.heap.size), .int .i64 0, .int .i64 0, .int .i64 0, .int .i64 0, .int .i64 0, .int .i64 0, .map (some (w5.heap.size + 1)), .int .i64 nx] 71)) = X) := ⟨_, rfl⟩
  have HB0 : Hid (Below w5.heap.size w5 X0) := by show Below _ _ _; rw [← hX0.out]; exact (((Below.refl _ _).alloc (Nat.le_refl _) _).alloc (by simp) _).alloc (by simp; omega) _
  have RUN0 : Hid (RunAt X0 W.heap.size (w5.heap.size + 1 + 1) w5.heap.size (w5.heap.size + 1) 0 0 (fun _ => Option.none) (stK cs 0 nx)) := by
    show RunAt _ _ _ _ _ _ _ _ _
    have hsz := BW5.out.size
    have e1 : (w5.alloc (.map #[] 0)).heap.size = w5.heap.size + 1 := by simp
    have e2 : ((w5.alloc (.map #[] 0)).alloc (.map #[] 0)).heap.size = w5.heap.size + 1 + 1 := by simp
    have bB : Below (w5.alloc (.map #[] 0)).heap.size (w5.alloc (.map #[] 0)) X0 := by rw [← hX0.out]; exact ((Below.refl _ _).alloc (Nat.le_refl _) _).alloc (by simp) _
    have bC : Below ((w5.alloc (.map #[] 0)).alloc (.map #[] 0)).heap.size ((w5.alloc (.map #[] 0)).alloc (.map #[] 0)) X0 := by rw [← hX0.out]; exact (Below.refl _ _).alloc (Nat.le_refl _) _
    refine ⟨?_, rfl, ?_, (fun x g e => by cases e), (fun x _ => rfl), (fun x g e => by cases e), (fun x y g e => by cases e), ?_, ⟨by omega, hsz, by omega, (fun x g e => by cases e)⟩, by omega⟩
    · have q := row_of ((w5.alloc (.map #[] 0)).alloc (.map #[] 0)) #[.map (some w5.heap.size), .int .i64 0, .int .i64 0, .int .i64 0, .int .i64 0, .int .i64 0, .int .i64 0, .map (some (w5.heap.size + 1)), .int .i64 nx] 71
      rw [e2, hX0.out] at q
      refine q.congr (fun i hi => ?_)
      match i, hi with
      | 0, _ => rfl
      | 1, _ => rfl
      | 2, _ => rfl
      | 3, _ => rfl
      | 4, _ => rfl
      | 5, _ => rfl
      | 6, _ => rfl
      | 7, _ => rfl
      | 8, _ => rfl
    · exact (ptr_made w5).of_block (bB.block _ (by simp))
    · have q := setZ_made (w5.alloc (.map #[] 0))
      rw [e1] at q
      exact q.of_block (bC.block _ (by simp))
  have HR0 : Hid (X0.rowIs W.heap.size 30 4 (rowF [.slice a n cap, .slice ra 6 rc, .slice na nl nc, .int .i64 nx])) := HR5.out.of_block (HB0.out.block _ HR5.out.lt)
  have BW0 : Hid (Below W.heap.size W X0) := BW5.out.trans (HB0.out.mono BW5.out.size)
  rw [hX0.out]
  clear hX0 HB0 BW5 HR5
  generalize w5.heap.size + 1 + 1 = rp at RUN0 ⊢
  generalize w5.heap.size + 1 = sp at RUN0 ⊢
  generalize w5.heap.size = mp at RUN0 ⊢
  have r0 : X0.cell? ⟨W.heap.size, 0, none⟩ = some (.slice a n cap) := HR0.out.cell (i := 0) (by decide)
  have rl0 := HR0.out.lt
  go_wp2
  clear r0 rl0
  go_loopw [47] (fun vi wr => ∃ (k : Nat) (p : Int → Option Nat), k ≤ n ∧ vi = .int .i64 k ∧ Hid (RunAt wr W.heap.size rp mp sp k 0 p (stK cs k nx)) ∧ Hid (∀ j, j < k → hnl cs j = 2) ∧ Hid (wr.rowIs W.heap.size 30 4 (rowF [.slice a n cap, .slice ra 6 rc, .slice na nl nc, .int .i64 nx])) ∧ Hid (Below W.heap.size W wr)) (fun vi _ => n - (intOf vi).toNat)
  case atStart => exact ⟨0, _, Nat.zero_le _, rfl, RUN0, fun j hj => by omega, HR0, BW0⟩
  case round =>
    obtain ⟨k, p, hk, rfl, HRUN, HL2, HRr, HB⟩ := hrel
    have r0 : wr.cell? ⟨W.heap.size, 0, none⟩ = some (.slice a n cap) := HRr.out.cell (i := 0) (by decide)
    have r1 : wr.cell? ⟨W.heap.size, 1, none⟩ = some (.slice ra 6 rc) := HRr.out.cell (i := 1) (by decide)
    have r2 : wr.cell? ⟨W.heap.size, 2, none⟩ = some (.slice na nl nc) := HRr.out.cell (i := 2) (by decide)
    have r3 : wr.cell? ⟨W.heap.size, 3, none⟩ = some (.int .i64 nx) := HRr.out.cell (i := 3) (by decide)
    have rl0 := HRr.out.lt
    by_cases hlt : k < n
    rotate_left
    · have kI : (n : Int) ≤ (k : Int) := by omega
      have kd : decide ((k : Int) < (n : Int)) = false := decide_eq_false (by omega)
      have kd2 : decide (k < n) = false := decide_eq_false (by omega)
      have hkn : k = n := by omega
      clear hlt
      subst hkn
      have HRW : Hid (RunAt wr W.heap.size rp mp sp k 0 p (stK cs k nx)) := HRUN
      have HBX : Hid (rp ≠ W.heap.size) := fun e => by
        obtain ⟨c1, a1, _⟩ := HRUN.out.row
        obtain ⟨c2, a2, _⟩ := HRr.out
        rw [e] at a1
        rw [a1] at a2
        simp at a2
      have HRH := row_heap HRUN.out.row
      have HG : Hid (wr.drew.heap[rp]? = some (.cells ((List.range 9).map (runF mp sp zeros6 nx)).toArray 71 (0, 0))) := HRH
      have HIR : Hid (Ints wr.drew ra rs) := Ir.out.kept (HB.out.trans ((Below.refl _ _).drew))
      obtain ⟨rb, ro, era, _⟩ := HIR.out.at (Below.refl _ _) (k := 0) (by rw [hzr.out]; decide)
      subst era
      have hn6 : (rs.map (Value.int .i64)).length = Nat.min 6 6 := by rw [List.length_map, hzr.out]; rfl
      have HSR : Hid (∀ j v, (rs.map (Value.int .i64))[j]? = some v → wr.drew.cell? ((⟨rb, ro, none⟩ : Addr).add j) = some v) := fun j v hj => (ints_news HIR.out j v hj).1
      have ul := HRUN.out.row.lt
      clear HRH
      go_wp2_with fail
      go_region_law (refine step_copy_grown rfl (.tmp 82) (.tmp 84) 23 23 rfl 3 Try.underlying23 (by kernel_rfl) ⟨rb, ro, none⟩ 6 6 6 rc rp 1 (by simp [Act.eval, Act.put]) (by simp [Act.eval, Act.put]) ((List.range 9).map (runF mp sp zeros6 nx)) 71 HG.out (rs.map (Value.int .i64)) hn6 HSR.out (by rw [List.length_map, hzr.out]; simp) (ints_one14 rs) ?_; intro w7 HG7 hg7)
      all_goals
        have HW7 : Hid (∀ b, b < wr.heap.size → b ≠ rp → w7.heap[b]? = wr.heap[b]?) := fun b h1 h2 => hg7.block b h1 (by simpa using h2)
        have B7 : Hid (Below W.heap.size W w7) := HB.out.drew.grown hg7 HB.out.size (fun j hj => by cases hj; exact HRW.out.low.1)
        have RUN7 : Hid (RunAt w7 W.heap.size rp mp sp k 0 p ⟨objF cs k, rs, fun _ => false, nx⟩) := by
          refine RunAt.roots (s := stK cs k nx) HRW.out ?_ hzr.out HW7.out
          have q := HG7.out
          rw [roots_splice _ _ _ _ hzr.out] at q
          exact ⟨_, q, by simp, fun i hi => by simp [hi]; rfl⟩
        have HR7 : Hid (w7.rowIs W.heap.size 30 4 (rowF [.slice a k cap, .slice (some ⟨rb, ro, none⟩) 6 rc, .slice na nl nc, .int .i64 nx])) := HRr.out.of_block (HW7.out _ HRr.out.lt (Ne.symm HBX.out))
        clear HG7 hg7 HSR HIR HG r0 r1 r2 r3
        have S7 : w7.cell? ⟨rp, 7, none⟩ = some (.map (some sp)) ∧ w7.cell? ⟨W.heap.size, 2, none⟩ = some (.slice na nl nc) := ⟨RUN7.out.row.cell (i := 7) (by decide), HR7.out.cell (i := 2) (by decide)⟩
        have S7D : w7.drew.cell? ⟨rp, 7, none⟩ = some (.map (some sp)) ∧ w7.drew.cell? ⟨W.heap.size, 2, none⟩ = some (.slice na nl nc) := S7
        have l7 := RUN7.out.row.lt
        have l7b := HR7.out.lt
        have HOKN : Hid (∀ j, j < nl → okZ (ns.getD j 0)) := fun j hj => by
          have := ROK.out j (by rw [hzn.out]; exact hj)
          exact okZ_of (by omega) (by omega)
        have B7D : Hid (Below W.heap.size W w7.drew) := B7.out.drew
        have SET7 : Hid (SetZ w7.drew sp 0 (fun _ => false)) := RUN7.out.set.of_block rfl
        go_wp2_with fail
        go_region_held3 (fun w' => w'.cell? ⟨rp, 7, none⟩ = some (.map (some sp)) ∧ w'.cell? ⟨W.heap.size, 2, none⟩ = some (.slice na nl nc)) (first | with_reducible exact S7 | with_reducible exact S7D | with_reducible exact S8 | go_keep) (first
          | (go_at_call 53; refine (impl_addZ sp 0 (fun _ => false) na nl nc ns w7.drew hzn hnnl (by decide) (In.out.kept B7D.out) HOKN SET7).mono ?_; rintro e w8 ⟨rfl, hS, hg⟩; have H8 : Hid (∀ b, b < w7.heap.size → b ≠ sp → w8.heap[b]? = w7.heap[b]?) := (fun b h1 h2 => hg.block b h1 (by simpa using h2)); have SET8 : Hid (SetZ w8 sp (0 + nl) (fun y => (fun _ => false) y || decide (y ∈ ns))) := hS; have RUN8a := RUN7.out.sets hS H8.out; have B8 : Hid (Below W.heap.size W w8) := B7D.out.grown hg B7D.out.size (fun j hj => by cases hj; exact RUN7.out.low.2.2.1); have HR8 : Hid (w8.rowIs W.heap.size 30 4 (rowF [.slice a k cap, .slice (some ⟨rb, ro, none⟩) 6 rc, .slice na nl nc, .int .i64 nx])) := HR7.out.of_block (H8.out _ HR7.out.lt (set_rows RUN7.out.set HR7.out)); have S8 : w8.cell? ⟨rp, 7, none⟩ = some (.map (some sp)) ∧ w8.cell? ⟨W.heap.size, 2, none⟩ = some (.slice na nl nc) := ⟨RUN8a.row.cell (i := 7) (by decide), HR8.out.cell (i := 2) (by decide)⟩; have RUN8 : Hid (RunAt w8 W.heap.size rp mp sp k (0 + nl) p ⟨objF cs k, rs, fun x => decide (x ∈ ns), nx⟩) := (run_set RUN8a); clear hS hg RUN8a))
        have HST := run_ok (ns := ns) (rs := rs) (nx := nx) (show SizeOk k rs nx from ⟨by omega, hzr.out, hnx.1, hnx.2⟩) NOK.out HL2.out ROK.out
        have HEB : Hid (heapB cs k rs ns nx = (leadsS ⟨objF cs k, rs, fun x => decide (x ∈ ns), nx⟩ && notedS ⟨objF cs k, rs, fun x => decide (x ∈ ns), nx⟩)) := HST
        have HLO : Hid (∀ y o, objF cs k y = some o → okZ o.2.1 ∧ okZ o.2.2) := fun y o e => by
          obtain ⟨j, hj, _, e3⟩ := objF_some e
          rw [e3]
          exact ⟨HWl.out j hj _ ((hls_two (HL2.out j hj)).2 (Or.inl rfl)), HWl.out j hj _ ((hls_two (HL2.out j hj)).2 (Or.inr rfl))⟩
        have hcl := impl_leads W.heap.size rp mp sp k (0 + nl) p ⟨objF cs k, rs, fun x => decide (x ∈ ns), nx⟩ w8 (by omega) RUN8 HWr HLO
        obtain ⟨b1, hb1⟩ : ∃ b1, Hid (leadsS ⟨objF cs k, rs, fun x => decide (x ∈ ns), nx⟩ = b1) := ⟨_, rfl⟩
        obtain ⟨b2, hb2⟩ : ∃ b2, Hid (notedS ⟨objF cs k, rs, fun x => decide (x ∈ ns), nx⟩ = b2) := ⟨_, rfl⟩
        rw [hb1.out] at hcl
        rw [hb1.out, hb2.out] at HEB
        clear HST S7 S7D l7 l7b S8 SET7 HW7
        go_wp2_with fail
        refine hcl.mono ?_
        rintro e w9 ⟨rfl, hB⟩
        have RUN9 : Hid (RunAt w9 W.heap.size rp mp sp k (0 + nl) p ⟨objF cs k, rs, fun x => decide (x ∈ ns), nx⟩) := RUN8.out.kept hB
        have B9 : Hid (Below W.heap.size W w9) := B8.out.trans (hB.mono B8.out.size)
        have hcn := impl_noted W.heap.size rp mp sp k (0 + nl) p ⟨objF cs k, rs, fun x => decide (x ∈ ns), nx⟩ w9 RUN9 HLO
        rw [hb2.out] at hcn
        clear hB hcl
        cases b1
        · have HA : Hid (MadeTo cs k rs ns nx W (.returned (.tuple #[.pointer (some ⟨rp, 0, none⟩), .bool false])) w9) := ⟨_, by rw [HEB.out]; rfl, B9.out, fun q => by rw [HEB.out] at q; cases q⟩
          clear hcn
          go_wp2
          go_ret2
          exact HA.out
        · go_wp2_with fail
          refine hcn.mono ?_
          rintro e w10 ⟨rfl, hB⟩
          have HA : Hid (MadeTo cs k rs ns nx W (.returned (.tuple #[.pointer (some ⟨rp, 0, none⟩), .bool b2])) w10) := ⟨_, by rw [HEB.out]; rfl, B9.out.trans (hB.mono B9.out.size), fun _ => ⟨rp, mp, sp, _, p, rfl, RUN9.out.kept hB⟩⟩
          clear hB hcn
          go_wp2
          go_ret2
          exact HA.out
    have hltI : (k : Int) < (n : Int) := by omega
    obtain ⟨b, o, la, lc, ha, hb, c0, c1, c2, hI⟩ := obj_at h.out hf.out HB.out hlt
    subst ha
    have HI : Hid (Ints wr la (hls cs k)) := hI
    have HIL : Hid ((hls cs k).length = hnl cs k) := hls_len _ _
    have hbl : b < wr.heap.size := by have := HB.out.size; omega
    have HLN : Hid (hnl cs k ≠ 2 → ¬ HeapOk cs n rs ns nx) := fun q r => q (r.2.2.1 k hlt)
    have HLm : Hid (hnl cs k ≤ 1048576) := by
      show _ ≤ _
      have q := sz_at (len := n) (sz := 3) (cs := cs) (i := k * 3 + 2) (by omega)
      have q2 := hs.out
      have q3 : hnl cs k ≤ szD (cs (k * 3 + 2)) := by
        unfold hnl
        cases cs (k * 3 + 2) with
        | n x => exact Nat.zero_le _
        | t x => exact Nat.zero_le _
        | l a b c => exact Nat.le_add_right _ _
      omega
    have HNEW : Hid (p (hnm cs k) = Option.none) := by
      show _ = _
      cases q : p (hnm cs k) with
      | none => rfl
      | some g =>
        obtain ⟨o', e', _⟩ := HRUN.out.obj _ g q
        obtain ⟨j, hj, e2, _⟩ := objF_some e'
        have := names_one NOK.out.2 (by omega) hlt e2
        omega
    have HOKX : Hid (okZ (hnm cs k)) := okZ_of (by have := (NOK.out.1 k hlt).1; omega) (by have := (NOK.out.1 k hlt).2; omega)
    have HEQ : Hid (∀ o, o = (hod cs k, (hls cs k).getD 0 0, (hls cs k).getD 1 0) → (fun y => if y = hnm cs k then some o else objF cs k y) = objF cs (k + 1)) := fun o e => by rw [e]; rfl
    clear hI
    obtain ⟨zs, HZS⟩ : ∃ zs, Hid (hls cs k = zs) := ⟨_, rfl⟩
    rw [HZS.out] at HI HIL HEQ
    obtain ⟨y, HY⟩ : ∃ y, Hid (hnm cs k = y) := ⟨_, rfl⟩
    obtain ⟨z, HZ⟩ : ∃ z, Hid (hod cs k = z) := ⟨_, rfl⟩
    obtain ⟨L, HL⟩ : ∃ L, Hid (hnl cs k = L) := ⟨_, rfl⟩
    rw [HY.out] at c0 HNEW HOKX HEQ
    rw [HZ.out] at c1 HEQ
    rw [HL.out] at c2 HIL HLN HLm
    have hLm : L ≤ 1048576 := HLm.out
    go_upto_region 9 with fail
    obtain ⟨X2, hX2⟩ : ∃ X2, Hid (wr.alloc (.cells #[.int .i64 y, .bool z, .slice la L lc] 45) = X2) := ⟨_, rfl⟩
    have HX2 : Hid (Below wr.heap.size wr X2) := by show Below _ _ _; rw [← hX2.out]; exact (Below.refl _ _).alloc (Nat.le_refl _) _
    have OX := row_of wr #[.int .i64 y, .bool z, .slice la L lc] 45
    rw [hX2.out] at OX
    have HOX : Hid (X2.rowIs wr.heap.size 45 3 (rowF [.int .i64 y, .bool z, .slice la L lc])) := OX
    rw [hX2.out]
    clear r0 r1 r2 r3 rl0 OX c0 c1 c2 hX2
    have HB2 : Hid (Below W.heap.size W X2) := HB.out.trans (HX2.out.mono HB.out.size)
    have HR2 : Hid (X2.rowIs W.heap.size 30 4 (rowF [.slice (some ⟨b, o, none⟩) n cap, .slice ra 6 rc, .slice na nl nc, .int .i64 nx])) := HRr.out.of_block (HX2.out.block _ HRr.out.lt)
    have HRUN2 : Hid (RunAt X2 W.heap.size rp mp sp k 0 p (stK cs k nx)) := HRUN.out.kept HX2.out
    have HI2 : Hid (Ints X2 la zs) := HI.out.kept HX2.out
    have e0 : X2.cell? ⟨wr.heap.size, 0, none⟩ = some (.int .i64 y) := HOX.out.cell (i := 0) (by decide)
    have e1 : X2.cell? ⟨wr.heap.size, 1, none⟩ = some (.bool z) := HOX.out.cell (i := 1) (by decide)
    have e2 : X2.cell? ⟨wr.heap.size, 2, none⟩ = some (.slice la L lc) := HOX.out.cell (i := 2) (by decide)
    have el := HOX.out.lt
    have u0 : X2.cell? ⟨rp, 0, none⟩ = some (.map (some mp)) := HRUN2.out.row.cell (i := 0) (by decide)
    have ul := HRUN2.out.row.lt
    clear HRr HI HRUN
    generalize wr.heap.size = ob at HOX e0 e1 e2 el HX2 hbl ⊢
    by_cases l2 : L = 2
    rotate_left
    · have HA : Hid (¬ HeapOk cs n rs ns nx) := HLN.out l2
      have lI : (L : Int) ≠ 2 := by omega
      have d3 : ((L : Int) == 2) = false := by simpa using lI
      have d4 : ((L : Int) != 2) = true := by simpa using lI
      have d6 : (L == 2) = false := by simpa using l2
      go_wp2
      go_ret2
      exact made_no HA.out HB2.out
    subst l2
    have BY : Hid (Below X2.heap.size X2 (X2.alloc (.cells #[.bool z, .int .i64 0, .int .i64 0] 75)).drew) := ((Below.refl _ _).alloc (Nat.le_refl _) _).drew
    have OY : Hid ((X2.alloc (.cells #[.bool z, .int .i64 0, .int .i64 0] 75)).drew.rowIs X2.heap.size 75 3 (rowF [.bool z, .int .i64 0, .int .i64 0])) := row_of X2 #[.bool z, .int .i64 0, .int .i64 0] 75
    have PY := HRUN2.out.map.of_block (w' := (X2.alloc (.cells #[.bool z, .int .i64 0, .int .i64 0] 75)).drew) (BY.out.block _ HRUN2.out.map.lt)
    obtain ⟨w4, hst, hP4, hT4⟩ := PY.store HOKX.out (by omega) X2.heap.size
    have HP4 : Hid (PtrIs w4 mp (k + 1) (fun q => if q = y then some X2.heap.size else p q)) := hP4
    have HT4 : Hid (∀ b, b < X2.heap.size → b ≠ mp → w4.heap[b]? = X2.heap[b]?) := fun b h1 h2 => (hT4.grown.block b (by have := BY.out.size; omega) (by simpa using h2)).trans (BY.out.block b h1)
    have HS4 : Hid (X2.heap.size < w4.heap.size) := Nat.lt_of_lt_of_le OY.out.lt hT4.grown.size
    have O4 : Hid (w4.rowIs X2.heap.size 75 3 (rowF [.bool z, .int .i64 0, .int .i64 0])) := OY.out.of_block (hT4.grown.block _ OY.out.lt (by have := HRUN2.out.map.lt; simp; omega))
    have B24 : Hid (Below W.heap.size W w4) := (HB2.out.trans (BY.out.mono HB2.out.size)).grown hT4.grown (Nat.le_trans HB2.out.size BY.out.size) (fun j hj => by cases hj; exact HRUN2.out.low.2.1)
    have hrm := map_rows HRUN2.out.map HRUN2.out.row
    have hom := map_rows HRUN2.out.map HOX.out
    have S0 : X2.cell? ⟨rp, 0, none⟩ = some (.map (some mp)) ∧ X2.cell? ⟨ob, 0, none⟩ = some (.int .i64 y) ∧ X2.cell? ⟨ob, 1, none⟩ = some (.bool z) := ⟨u0, e0, e1⟩
    have SD : X2.drew.cell? ⟨rp, 0, none⟩ = some (.map (some mp)) ∧ X2.drew.cell? ⟨ob, 0, none⟩ = some (.int .i64 y) ∧ X2.drew.cell? ⟨ob, 1, none⟩ = some (.bool z) := S0
    have S4 : w4.cell? ⟨rp, 0, none⟩ = some (.map (some mp)) ∧ w4.cell? ⟨ob, 0, none⟩ = some (.int .i64 y) ∧ w4.cell? ⟨ob, 1, none⟩ = some (.bool z) := ⟨(World.cell?_of_block (a := ⟨rp, 0, none⟩) (HT4.out rp ul hrm)).trans u0, (World.cell?_of_block (a := ⟨ob, 0, none⟩) (HT4.out ob el hom)).trans e0, (World.cell?_of_block (a := ⟨ob, 1, none⟩) (HT4.out ob el hom)).trans e1⟩
    clear hP4 hT4 PY
    go_wp2_with fail
    go_region_held3 (fun w' => w'.cell? ⟨rp, 0, none⟩ = some (.map (some mp)) ∧ w'.cell? ⟨ob, 0, none⟩ = some (.int .i64 y) ∧ w'.cell? ⟨ob, 1, none⟩ = some (.bool z)) (first | with_reducible exact S0 | with_reducible exact SD | with_reducible exact S4 | go_keep) (fail)
    have hlk := (HP4.out.of_block (w' := w4.drew) rfl).look HOKX.out
    rw [if_pos rfl] at hlk
    simp only [ptrV] at hlk
    have B4' : Hid (Below W.heap.size W w4) := B24
    have HI4 : Hid (Ints w4 la zs) := by
      show Ints _ _ _
      rcases HI2.out with q | ⟨b', o', e, hl, hc⟩
      · exact Or.inl q
      · refine Or.inr ⟨b', o', e, by have := HS4.out; omega, fun i hi => ?_⟩
        have hne : b' ≠ mp := fun r => by
          obtain ⟨es, clock, hm⟩ := HRUN2.out.map.isMap
          have := hc i hi
          rw [r] at this
          simp [World.cell?, hm] at this
        exact (World.cell?_of_block (a := ⟨b', o' + i, none⟩) (HT4.out b' hl hne)).trans (hc i hi)
    have HLA : Hid (∃ ad, la = some ad ∧ ∀ j v, (zs.map (Value.int .i64))[j]? = some v → w4.drew.cell? (ad.add j) = some v) := by
      obtain ⟨b', o', e, _⟩ := HI4.out.at (Below.refl _ _) (k := 0) (by rw [HIL.out]; decide)
      refine ⟨_, e, fun j v hj => ?_⟩
      have q := HI4.out
      rw [e] at q
      exact (ints_news q j v hj).1
    have hn2 : (zs.map (Value.int .i64)).length = Nat.min 2 2 := by rw [List.length_map, HIL.out]; rfl
    have HG4 : Hid (w4.drew.heap[X2.heap.size]? = some (.cells [.bool z, .int .i64 0, .int .i64 0].toArray 75 (0, 0))) := row3_heap O4.out
    have T0 : w4.cell? ⟨rp, 0, none⟩ = some (.map (some mp)) := S4.1
    have T1 : w4.cell? ⟨ob, 0, none⟩ = some (.int .i64 y) := S4.2.1
    have T2 : w4.cell? ⟨ob, 2, none⟩ = some (.slice la 2 lc) := (World.cell?_of_block (a := ⟨ob, 2, none⟩) (HT4.out ob el hom)).trans e2
    have tl0 : rp < w4.heap.size := by have := HS4.out; omega
    have tl1 : ob < w4.heap.size := by have := HS4.out; omega
    have tl2 : X2.heap.size < w4.heap.size := HS4.out
    have ZIP : Hid (zs = [zs.getD 0 0, zs.getD 1 0]) := by
      have q := HIL.out
      match zs, q with
      | [x0, x1], _ => rfl
    clear hst BY OY hrm S0 SD S4 e0 e1 e2 u0
    go_wp2_with fail
    go_region_law (refine step_copy_splice rfl (.tmp 74) (.tmp 76) 23 23 rfl 3 Try.underlying23 (by kernel_rfl) (some ⟨X2.heap.size, 1, none⟩) la 2 2 2 lc (by simp [Act.eval, Act.put]) (by simp [Act.eval, Act.put]) X2.heap.size 1 [.bool z, .int .i64 0, .int .i64 0] 75 HG4.out (zs.map (Value.int .i64)) hn2 (fun _ => ⟨rfl, HLA.out⟩) (by rw [List.length_map, HIL.out]; simp) (ints_one14 zs) X2.heap.size w4 ((Below.refl X2.heap.size w4).drew) (Nat.le_refl _) ?_; intro w6 HG6 hB6)
    all_goals
      have HB6 : Hid (Below X2.heap.size w4 w6) := hB6
      have H6 : Hid (∀ b, b < X2.heap.size → b ≠ mp → w6.heap[b]? = X2.heap[b]?) := fun b h1 h2 => (HB6.out.block b h1).trans (HT4.out b h1 h2)
      obtain ⟨m0, hm0⟩ : ∃ m0, Hid (zs.getD 0 0 = m0) := ⟨_, rfl⟩
      obtain ⟨m1, hm1⟩ : ∃ m1, Hid (zs.getD 1 0 = m1) := ⟨_, rfl⟩
      have HROW6 : Hid (w6.rowIs X2.heap.size 75 3 (rowF [.bool z, .int .i64 m0, .int .i64 m1])) := by
        show World.rowIs _ _ _ _ _
        have q := HG6.out
        rw [ZIP.out, hm0.out, hm1.out] at q
        exact ⟨_, q, rfl, fun i hi => by
          match i, hi with
          | 0, _ => rfl
          | 1, _ => rfl
          | 2, _ => rfl⟩
      have HP6 : Hid (PtrIs w6 mp (k + 1) (fun q => if q = y then some X2.heap.size else p q)) := HP4.out.of_block (HB6.out.block _ HRUN2.out.map.lt)
      have HADD := RunAt.add (o := (z, m0, m1)) HRUN2.out HOKX.out HNEW.out HP6.out HROW6.out (Nat.le_refl _) HB2.out.size H6.out
      have HRUN6 : Hid (RunAt w6 W.heap.size rp mp sp (k + 1) 0 (fun q => if q = y then some X2.heap.size else p q) (stK cs (k + 1) nx)) := by
        have e : (⟨fun q => if q = y then some (z, m0, m1) else (stK cs k nx).at_ q, (stK cs k nx).rs, (stK cs k nx).nt, (stK cs k nx).nx⟩ : Hst) = stK cs (k + 1) nx := congrArg (fun f => (⟨f, zeros6, fun _ => false, nx⟩ : Hst)) (HEQ.out (z, m0, m1) (by rw [← hm0.out, ← hm1.out]))
        rw [e] at HADD
        exact HADD
      have BW6 : Hid (Below W.heap.size W w6) := B24.out.trans (HB6.out.mono HB2.out.size)
      have HR6 : Hid (w6.rowIs W.heap.size 30 4 (rowF [.slice (some ⟨b, o, none⟩) n cap, .slice ra 6 rc, .slice na nl nc, .int .i64 nx])) := HR2.out.of_block (H6.out _ HR2.out.lt (map_rows HRUN2.out.map HR2.out))
      have HLK : Hid (∀ j, j < k + 1 → hnl cs j = 2) := fun j hj => by
        by_cases e : j = k
        · rw [e]; exact HL.out
        · exact HL2.out j (by omega)
      clear HADD HG6 hB6 hlk HG4 HLA HI4 T0 T1 T2
      go_wp2
      go_roundw
      case rel => exact ⟨k + 1, _, by omega, by go_num, HRUN6, HLK, HR6, BW6⟩
      case measure => simp [intOf]; omega
end Go.Proofs.Ythomonidconmcaa.walks
