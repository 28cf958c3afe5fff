/-
  What the specification's GoodHeap answers.
-/
import Derived.Test.YthomonidconmcaaProg
import Derived.Test.YthomonidconmcaaHeapMath
import Derived.Test.YthomonidconmcaaHasIn
import Derived.Test.YthomonidconmcaaHeapSpec
import Derived.Deep.DeepCutAuto
import Derived.Test.YthomonidconmcaaInts
import Derived.Test.YthomonidconmcaaDeep
import Derived.Test.YthomonidconmcaaDeepRow
import Derived.Test.YthomonidconmcaaDeepH
import Derived.WalkKit
import Derived.WalkSpells
import Derived.Below
import Derived.Handy
import Derived.Deep.QuietTactic
import Derived.BigQuiet
import Derived.Deep.DeepFit
namespace Go.Proofs.Ythomonidconmcaa.walks
open Go.RowKit Go.Proofs.Ythomonidconmcaa.math Go.Proofs.Ythomonidconmcaa.ints Go.Proofs.Ythomonidconmcaa.deep
set_option linter.unusedVariables false
set_option maxRecDepth 100000

set_option maxHeartbeats 16000000 in
theorem spec_heap14 (a : Option Addr) (n cap : Nat) (ra : Option Addr) (rl rc : Nat) (na : Option Addr) (nl nc : Nat) (nx : Int) (cs : Nat → Dv) (rs ns : List Int) (c : Bool) (W : World) (hf : Hid (Fits shObjectS (.l n 3 cs))) (hs : Hid (szD (.l n 3 cs) ≤ 1048576)) (h : Hid (Holds W c (.l n 3 cs) (.slice a n cap))) (hzr : Hid (rs.length = rl)) (hrl : rl ≤ 1048576) (Ir : Hid (Ints W ra rs)) (hzn : Hid (ns.length = nl)) (hnnl : nl ≤ 1048576) (In : Hid (Ints W na ns)) :
    Calls Try.prog 9 #[.agg #[.slice a n cap, .slice ra rl rc, .slice na nl nc, .int .i64 nx]] W fun e W' => e = .returned (.bool (heapB cs n rs ns nx)) ∧ Below W.heap.size W W' := by
  have hn : n ≤ 1048576 := Nat.le_trans (Nat.le_add_right _ _) hs.out
  have HML : Hid (∀ k, k < n → hnl cs k ≤ 1048576) := fun k hk => by
    have q := sz_at (len := n) (sz := 3) (cs := cs) (i := k * 3 + 2) (by omega)
    have q2 := hs.out
    have q3 : hnl cs k ≤ szD (cs (k * 3 + 2)) := by
      unfold hnl
      cases cs (k * 3 + 2) with
      | n x => exact Nat.zero_le _
      | t x => exact Nat.zero_le _
      | l a b c => exact Nat.le_add_right _ _
    omega
  obtain ⟨R, HR⟩ : ∃ R, Hid (heapB cs n rs ns nx = R) := ⟨_, rfl⟩
  have HS0 : Hid (¬ SizeOk n rs nx → R = false) := fun q => by rw [← HR.out]; exact heap_no (fun r => q r.1)
  have HOb : Hid (∀ k, k < n → ¬ ObjOk cs n ns nx k → R = false) := fun k hk q => by rw [← HR.out]; exact heap_no (fun r => q (heap_obj r hk))
  have HRt : Hid (∀ i, i < rl → linkB cs n (rs.getD i 0) = false → R = false) := fun i hi q => by rw [← HR.out]; exact heap_no (fun r => by have := heap_root r (i := i) (by rw [hzr.out]; exact hi); rw [this] at q; cases q)
  have HNt : Hid (∀ i, i < nl → ¬ NoteOk cs n ns i → R = false) := fun i hi q => by rw [← HR.out]; exact heap_no (fun r => q (heap_note r (by rw [hzn.out]; exact hi)))
  have HYs : Hid (SizeOk n rs nx → (∀ k, k < n → ObjOk cs n ns nx k) → (∀ i, i < rl → linkB cs n (rs.getD i 0) = true) → (∀ i, i < nl → NoteOk cs n ns i) → R = true) := fun q0 q1 q2 q3 => by rw [← HR.out]; exact heap_yes (heap_of q0 q1 (fun i hi => q2 i (by rw [← hzr.out]; exact hi)) (fun i hi => q3 i (by rw [← hzn.out]; exact hi)))
  rw [HR.out]
  clear HR
  obtain ⟨X, hX⟩ : ∃ X, Hid (W.alloc (.cells #[.slice a n cap, .slice ra rl rc, .slice na nl nc, .int .i64 nx] 30) = X) := ⟨_, rfl⟩
  have HX : Hid (Below W.heap.size W X) := by show Below _ _ _; rw [← hX.out]; repeat (first | exact Below.refl _ _ | refine Below.drew ?_ | refine Below.setCell ?_ (by simp; try omega) _ | refine Below.alloc ?_ (by simp; try omega) _)
  have hRX := row_of W #[.slice a n cap, .slice ra rl rc, .slice na nl nc, .int .i64 nx] 30
  rw [hX.out] at hRX
  have HRX : Hid (X.rowIs W.heap.size 30 4 (rowF [.slice a n cap, .slice ra rl rc, .slice na nl nc, .int .i64 nx])) := hRX
  clear hRX
  have r0 : X.cell? ⟨W.heap.size, 0, none⟩ = some (.slice a n cap) := HRX.out.cell (i := 0) (by decide)
  have r1 : X.cell? ⟨W.heap.size, 1, none⟩ = some (.slice ra rl rc) := HRX.out.cell (i := 1) (by decide)
  have r2 : X.cell? ⟨W.heap.size, 2, none⟩ = some (.slice na nl nc) := HRX.out.cell (i := 2) (by decide)
  have r3 : X.cell? ⟨W.heap.size, 3, none⟩ = some (.int .i64 nx) := HRX.out.cell (i := 3) (by decide)
  by_cases s0 : (n : Int) ≤ 24
  rotate_left
  · have HE : Hid (R = false) := HS0.out (fun q => s0 (by have := q.1; omega))
    have d0 : (24 : Int) < n := by omega
    clear s0
    go_enter Try.func9, Try.ntmps9
    go_wp2_with fail
    rw [hX.out]
    go_wp2
    go_ret
    exact ⟨by rw [HE.out]; rfl, HX.out⟩
  by_cases s1 : rl = 6
  rotate_left
  · have HE : Hid (R = false) := HS0.out (fun q => s1 (by rw [← hzr.out]; exact q.2.1))
    have lI : (rl : Int) ≠ 6 := by omega
    have d3 : ((rl : Int) == 6) = false := by simpa using lI
    have d4 : ((rl : Int) != 6) = true := by simpa using lI
    have d6 : (rl == 6) = false := by simpa using s1
    go_enter Try.func9, Try.ntmps9
    go_wp2_with fail
    rw [hX.out]
    go_wp2
    go_ret
    exact ⟨by rw [HE.out]; rfl, HX.out⟩
  subst s1
  cases s2 : decide (0 ≤ nx ∧ nx ≤ 1000)
  · have HE : Hid (R = false) := HS0.out (fun q => by have := of_decide_eq_false s2; exact this q.2.2)
    go_enter Try.func9, Try.ntmps9
    go_wp2_with fail
    rw [hX.out]
    go_wp2_with (go_at_call 27; refine (range_quiet s2 _).mono ?_; rintro e w' ⟨rfl, hw⟩; rw [hw]; clear hw w')
    go_ret
    exact ⟨by rw [HE.out]; rfl, HX.out⟩
  have n24 : decide ((n : Int) > 24) = false := decide_eq_false (by omega)
  have n24a : decide (24 < (n : Int)) = false := decide_eq_false (by omega)
  have n24b : decide (24 < n) = false := decide_eq_false (by omega)
  have HSZ : Hid (SizeOk n rs nx) := ⟨by omega, hzr.out, (of_decide_eq_true s2).1, (of_decide_eq_true s2).2⟩
  go_enter Try.func9, Try.ntmps9
  go_wp2_with fail
  rw [hX.out]
  go_wp2_with (go_at_call 27; refine (range_quiet s2 _).mono ?_; rintro e w' ⟨rfl, hw⟩; rw [hw]; clear hw w')
  clear r0 r1 r2 r3 s2 hX
  go_loopw [31] (fun vi wr => ∃ k : Nat, k ≤ n ∧ vi = .int .i64 k ∧ Hid (∀ j, j < k → ObjOk cs n ns nx j) ∧ Hid (wr.rowIs W.heap.size 30 4 (rowF [.slice a n cap, .slice ra 6 rc, .slice na nl nc, .int .i64 nx])) ∧ Hid (Below W.heap.size W wr)) (fun vi _ => n - (intOf vi).toNat)
  case atStart => exact ⟨0, Nat.zero_le _, rfl, fun j hj => by omega, HRX, HX⟩
  case round =>
    obtain ⟨k, hk, rfl, HG, HRr, HB⟩ := hrel
    by_cases hlt : k < n
    rotate_left
    · have HG1 : Hid (∀ j, j < n → ObjOk cs n ns nx j) := fun j hj => HG.out j (by omega)
      have kI : (n : Int) ≤ (k : Int) := by omega
      have kN : n ≤ k := by omega
      have kd : decide ((k : Int) < (n : Int)) = false := decide_eq_false (by omega)
      have kd2 : decide (k < n) = false := decide_eq_false (by omega)
      have r1 : wr.cell? ⟨W.heap.size, 1, none⟩ = some (.slice ra 6 rc) := HRr.out.cell (i := 1) (by decide)
      have rl0 := HRr.out.lt
      clear hlt
      go_wp2
      clear HG r1 rl0
      obtain ⟨wo, hwo⟩ : ∃ wo, wo = wr := ⟨_, rfl⟩
      subst hwo
      go_loopw [101] (fun vi wr => ∃ i : Nat, i ≤ 6 ∧ vi = .int .i64 i ∧ Hid (∀ j, j < i → linkB cs n (rs.getD j 0) = true) ∧ Hid (wr.rowIs W.heap.size 30 4 (rowF [.slice a n cap, .slice ra 6 rc, .slice na nl nc, .int .i64 nx])) ∧ Hid (Below W.heap.size W wr)) (fun vi _ => 6 - (intOf vi).toNat)
      case atStart => exact ⟨0, by omega, rfl, fun j hj => by omega, HRr, HB⟩
      case round =>
        obtain ⟨i, hi, rfl, HK, HRi, HBi⟩ := hrel
        have RW := HRi.out
        have r0 : wr.cell? ⟨W.heap.size, 0, none⟩ = some (.slice a n cap) := RW.cell (i := 0) (by decide)
        have r1 : wr.cell? ⟨W.heap.size, 1, none⟩ = some (.slice ra 6 rc) := RW.cell (i := 1) (by decide)
        have r2 : wr.cell? ⟨W.heap.size, 2, none⟩ = some (.slice na nl nc) := RW.cell (i := 2) (by decide)
        have r3 : wr.cell? ⟨W.heap.size, 3, none⟩ = some (.int .i64 nx) := RW.cell (i := 3) (by decide)
        have rl0 := RW.lt
        by_cases hil : i < 6
        rotate_left
        · have HK1 : Hid (∀ j, j < 6 → linkB cs n (rs.getD j 0) = true) := fun j hj => HK.out j (by omega)
          have iI : (6 : Int) ≤ (i : Int) := by omega
          have iN : 6 ≤ i := by omega
          have id : decide ((i : Int) < 6) = false := decide_eq_false (by omega)
          have id2 : decide (i < 6) = false := decide_eq_false (by omega)
          clear hil
          go_wp2
          clear HK r0 r1 r2 r3 rl0 RW
          obtain ⟨wp, hwp⟩ : ∃ wp, wp = wr := ⟨_, rfl⟩
          subst hwp
          go_loopw [113] (fun vi wr => ∃ q : Nat, q ≤ nl ∧ vi = .int .i64 q ∧ Hid (∀ j, j < q → NoteOk cs n ns j) ∧ Hid (wr.rowIs W.heap.size 30 4 (rowF [.slice a n cap, .slice ra 6 rc, .slice na nl nc, .int .i64 nx])) ∧ Hid (Below W.heap.size W wr)) (fun vi _ => nl - (intOf vi).toNat)
          case atStart => exact ⟨0, Nat.zero_le _, rfl, fun j hj => by omega, HRi, HBi⟩
          case round =>
            obtain ⟨q, hq, rfl, HN, HRq, HBq⟩ := hrel
            have RW := HRq.out
            have r0 : wr.cell? ⟨W.heap.size, 0, none⟩ = some (.slice a n cap) := RW.cell (i := 0) (by decide)
            have r1 : wr.cell? ⟨W.heap.size, 1, none⟩ = some (.slice ra 6 rc) := RW.cell (i := 1) (by decide)
            have r2 : wr.cell? ⟨W.heap.size, 2, none⟩ = some (.slice na nl nc) := RW.cell (i := 2) (by decide)
            have r3 : wr.cell? ⟨W.heap.size, 3, none⟩ = some (.int .i64 nx) := RW.cell (i := 3) (by decide)
            have rl0 := RW.lt
            by_cases hql : q < nl
            rotate_left
            · have HE : Hid (R = true) := HYs.out HSZ.out HG1.out HK1.out (fun j hj => HN.out j (by omega))
              have qI : (nl : Int) ≤ (q : Int) := by omega
              clear hql
              go_wp2
              go_ret
              exact ⟨by rw [HE.out]; rfl, HBq.out⟩
            have hqlI : (q : Int) < (nl : Int) := by omega
            obtain ⟨b', o', ha', hc⟩ := In.out.at HBq.out (k := q) (by rw [hzn.out]; exact hql)
            have HPV : Hid (∀ p, q = p + 1 → wr.cell? ⟨b', o' + p, none⟩ = some (.int .i64 (ns.getD p 0))) := fun p hp => by
              obtain ⟨b2, o2, ha2, hc2⟩ := In.out.at HBq.out (k := p) (by rw [hzn.out]; omega)
              rw [ha'] at ha2
              simp only [Option.some.injEq, Addr.mk.injEq, and_true] at ha2
              rw [ha2.1, ha2.2]; exact hc2
            subst ha'
            have hbl : b' < wr.heap.size := by
              rcases In.out with q0 | ⟨b2, o2, e, hl, _⟩
              · have := hzn.out; rw [q0] at this; simp at this; omega
              · cases e; have := HBq.out.size; omega
            have hcA := spec_at14 a n cap ra 6 rc (some ⟨b', o', none⟩) nl nc nx cs (ns.getD q 0) c wr hf hn (h.out.kept HBq.out)
            have HNq : Hid (¬ NoteOk cs n ns q → R = false) := HNt.out q hql
            have HNy : Hid (NoteOk cs n ns q → ∀ j, j < q + 1 → NoteOk cs n ns j) := fun y j hj => by
              by_cases e : j = q
              · subst e; exact y
              · exact HN.out j (by omega)
            have HDEF : Hid (NoteOk cs n ns q ↔ ((∃ k : Nat, posH cs (ns.getD q 0) n = (k : Int) ∧ hod cs k = true) ∧ (0 < q → ns.getD (q - 1) 0 < ns.getD q 0))) := Iff.rfl
            obtain ⟨x, HX0⟩ : ∃ x, Hid (ns.getD q 0 = x) := ⟨_, rfl⟩
            rw [HX0.out] at hc hcA HDEF
            rcases pos_in cs x n with ⟨ep, _⟩ | ⟨kk, ep, hkk, _⟩
            · have HE : Hid (R = false) := HNq.out (fun y => by
                obtain ⟨⟨k2, e2, _⟩, _⟩ := HDEF.out.1 y
                omega)
              rw [ep] at hcA
              go_wp2_with fail
              refine hcA.mono ?_
              rintro e w1 ⟨rfl, hB⟩
              have B1 : Hid (Below W.heap.size W w1) := HBq.out.trans (hB.mono HBq.out.size)
              clear hB hcA r0 r1 r2 r3
              go_wp2
              go_ret
              exact ⟨by rw [HE.out]; rfl, B1.out⟩
            have hkkI : (kk : Int) < (n : Int) := by omega
            have hkk0 : (0 : Int) ≤ (kk : Int) := by omega
            have hkd : decide ((kk : Int) < 0) = false := decide_eq_false (by omega)
            rw [ep] at hcA HDEF
            have HPW : Hid (∀ w1, Below wr.heap.size wr w1 → ∃ b o, a = some ⟨b, o, none⟩ ∧ b < w1.heap.size ∧ w1.cell? ⟨b, o + kk * 3 + 1, none⟩ = some (.bool (hod cs kk))) := fun w1 hB => by
              obtain ⟨b, o, la, lc, ha, hb, c0, c1, c2, _⟩ := obj_at h.out hf.out (HBq.out.trans (hB.mono HBq.out.size)) hkk
              exact ⟨b, o, ha, by have := HBq.out.size; have := hB.size; omega, c1⟩
            obtain ⟨z, HZ⟩ : ∃ z, Hid (hod cs kk = z) := ⟨_, rfl⟩
            rw [HZ.out] at HPW
            go_wp2_with fail
            refine hcA.mono ?_
            rintro e w1 ⟨rfl, hB⟩
            have B1 : Hid (Below W.heap.size W w1) := HBq.out.trans (hB.mono HBq.out.size)
            have R1 : Hid (w1.rowIs W.heap.size 30 4 (rowF [.slice a n cap, .slice ra 6 rc, .slice (some ⟨b', o', none⟩) nl nc, .int .i64 nx])) := HRq.out.of_block (hB.block _ HRq.out.lt)
            have HP1 : Hid (∀ p, q = p + 1 → w1.cell? ⟨b', o' + p, none⟩ = some (.int .i64 (ns.getD p 0))) := fun p hp => (hB.cell (p := ⟨b', o' + p, none⟩) hbl).trans (HPV.out p hp)
            obtain ⟨b, o, ha, hb, c1⟩ := HPW.out w1 hB
            subst ha
            have hbl1 : b' < w1.heap.size := by have := hB.size; omega
            clear hB hcA r0 r1 r2 r3 RW rl0
            have RW := R1.out
            have r0 : w1.cell? ⟨W.heap.size, 0, none⟩ = some (.slice (some ⟨b, o, none⟩) n cap) := RW.cell (i := 0) (by decide)
            have r1 : w1.cell? ⟨W.heap.size, 1, none⟩ = some (.slice ra 6 rc) := RW.cell (i := 1) (by decide)
            have r2 : w1.cell? ⟨W.heap.size, 2, none⟩ = some (.slice (some ⟨b', o', none⟩) nl nc) := RW.cell (i := 2) (by decide)
            have r3 : w1.cell? ⟨W.heap.size, 3, none⟩ = some (.int .i64 nx) := RW.cell (i := 3) (by decide)
            have rl0 := RW.lt
            cases z
            · have HE : Hid (R = false) := HNq.out (fun y => by
                obtain ⟨⟨k2, e2, e3⟩, _⟩ := HDEF.out.1 y
                have : kk = k2 := by omega
                subst this
                rw [HZ.out] at e3; cases e3)
              go_wp2
              go_ret
              exact ⟨by rw [HE.out]; rfl, B1.out⟩
            by_cases q0 : q = 0
            · have HNN : Hid (∀ j, j < q + 1 → NoteOk cs n ns j) := HNy.out (HDEF.out.2 ⟨⟨kk, rfl, HZ.out⟩, fun r => by omega⟩)
              subst q0
              go_wp2
              go_roundw
              case rel => exact ⟨1, by omega, by go_num, HNN, R1, B1⟩
              case measure => simp [intOf]; omega
            obtain ⟨p, rfl⟩ : ∃ p, q = p + 1 := ⟨q - 1, by omega⟩
            have hc2 := HP1.out p rfl
            have HDF2 : Hid (NoteOk cs n ns (p + 1) ↔ ns.getD p 0 < x) := ⟨fun y => by have := (HDEF.out.1 y).2 (by omega); simpa using this, fun y => HDEF.out.2 ⟨⟨kk, rfl, HZ.out⟩, fun r => by simpa using y⟩⟩
            obtain ⟨pv, HPVV⟩ : ∃ y, Hid (ns.getD p 0 = y) := ⟨_, rfl⟩
            rw [HPVV.out] at hc2 HDF2
            have pI : ((p + 1 : Nat) : Int) - 1 = (p : Int) := by omega
            have p0 : (0 : Int) < ((p + 1 : Nat) : Int) := by omega
            have pl : (p : Int) < (nl : Int) := by omega
            by_cases hpx : x ≤ pv
            · have HE : Hid (R = false) := HNq.out (fun y => by have := HDF2.out.1 y; omega)
              go_wp2
              go_ret
              exact ⟨by rw [HE.out]; rfl, B1.out⟩
            · have HNN : Hid (∀ j, j < p + 1 + 1 → NoteOk cs n ns j) := HNy.out (HDF2.out.2 (by omega))
              have hpx' : pv < x := by omega
              clear hpx
              go_wp2
              go_roundw
              case rel => exact ⟨p + 1 + 1, by omega, by go_num, HNN, R1, B1⟩
              case measure => simp [intOf]; omega
        have hilI : (i : Int) < 6 := by omega
        obtain ⟨b', o', ha', hc⟩ := Ir.out.at HBi.out (k := i) (by rw [hzr.out]; exact hil)
        subst ha'
        have hbl : b' < wr.heap.size := by
          rcases Ir.out with q | ⟨b2, o2, e, hl, _⟩
          · have := hzr.out; rw [q] at this; cases this
          · cases e; have := HBi.out.size; omega
        have hcL := spec_link14 a n cap (some ⟨b', o', none⟩) 6 rc na nl nc nx cs (rs.getD i 0) c wr hf hn (h.out.kept HBi.out)
        obtain ⟨x, HX0⟩ : ∃ x, Hid (rs.getD i 0 = x) := ⟨_, rfl⟩
        rw [HX0.out] at hc hcL
        cases hl : linkB cs n x
        · have HE : Hid (R = false) := HRt.out i hil (by rw [HX0.out]; exact hl)
          rw [hl] at hcL
          go_wp2_with fail
          refine hcL.mono ?_
          rintro e w1 ⟨rfl, hB⟩
          have B1 : Hid (Below W.heap.size W w1) := HBi.out.trans (hB.mono HBi.out.size)
          clear hB hcL r0 r1 r2 r3
          go_wp2
          go_ret
          exact ⟨by rw [HE.out]; rfl, B1.out⟩
        · have HK2 : Hid (∀ j, j < i + 1 → linkB cs n (rs.getD j 0) = true) := fun j hj => by
            by_cases e : j = i
            · subst e; rw [HX0.out]; exact hl
            · exact HK.out j (by omega)
          rw [hl] at hcL
          go_wp2_with fail
          refine hcL.mono ?_
          rintro e w1 ⟨rfl, hB⟩
          have B1 : Hid (Below W.heap.size W w1) := HBi.out.trans (hB.mono HBi.out.size)
          have R1 : Hid (w1.rowIs W.heap.size 30 4 (rowF [.slice a n cap, .slice (some ⟨b', o', none⟩) 6 rc, .slice na nl nc, .int .i64 nx])) := HRi.out.of_block (hB.block _ HRi.out.lt)
          clear hB hcL r0 r1 r2 r3
          go_wp2
          go_roundw
          case rel => exact ⟨i + 1, by omega, by go_num, HK2, R1, B1⟩
          case measure => simp [intOf]; omega
    have hltI : (k : Int) < (n : Int) := by omega
    have RW := HRr.out
    have r0 : wr.cell? ⟨W.heap.size, 0, none⟩ = some (.slice a n cap) := RW.cell (i := 0) (by decide)
    have r1 : wr.cell? ⟨W.heap.size, 1, none⟩ = some (.slice ra 6 rc) := RW.cell (i := 1) (by decide)
    have r2 : wr.cell? ⟨W.heap.size, 2, none⟩ = some (.slice na nl nc) := RW.cell (i := 2) (by decide)
    have r3 : wr.cell? ⟨W.heap.size, 3, none⟩ = some (.int .i64 nx) := RW.cell (i := 3) (by decide)
    have rl0 := RW.lt
    obtain ⟨b, o, la, lc, ha, hb, c0, c1, c2, hI⟩ := obj_at h.out hf.out HB.out hlt
    have HPV : Hid (∀ p, k = p + 1 → wr.cell? ⟨b, o + p * 3, none⟩ = some (.int .i64 (hnm cs p))) := fun p hp => by
      obtain ⟨b2, o2, _, _, ha2, _, hc2, _⟩ := obj_at h.out hf.out HB.out (k := p) (by omega)
      rw [ha] at ha2
      simp only [Option.some.injEq, Addr.mk.injEq, and_true] at ha2
      rw [ha2.1, ha2.2]; exact hc2
    subst ha
    have HI : Hid (Ints wr la (hls cs k)) := hI
    have HIL : Hid ((hls cs k).length = hnl cs k) := hls_len _ _
    have hbl : b < wr.heap.size := by have := HB.out.size; omega
    have HLm : Hid (hnl cs k ≤ 1048576) := HML.out k hlt
    have HDEF : Hid (ObjOk cs n ns nx k ↔ ((0 ≤ hnm cs k ∧ hnm cs k < nx) ∧ (0 < k → hnm cs (k - 1) < hnm cs k) ∧ hnl cs k = 2 ∧ ∀ i, i < 2 → LinkOk cs n ns k ((hls cs k).getD i 0))) := Iff.rfl
    have HLK : Hid (∀ x, LinkOk cs n ns k x ↔ (linkB cs n x = true ∧ (hod cs k = true → youngB cs n x = true → hnm cs k ∈ ns))) := fun x => Iff.rfl
    have HFk : Hid (¬ ObjOk cs n ns nx k → R = false) := HOb.out k hlt
    have HYk : Hid (ObjOk cs n ns nx k → ∀ j, j < k + 1 → ObjOk cs n ns nx j) := fun y j hj => by
      by_cases e : j = k
      · subst e; exact y
      · exact HG.out j (by omega)
    clear hI
    obtain ⟨y, HY⟩ : ∃ y, Hid (hnm cs k = y) := ⟨_, rfl⟩
    obtain ⟨z, HZ⟩ : ∃ z, Hid (hod cs k = z) := ⟨_, rfl⟩
    obtain ⟨L, HL⟩ : ∃ L, Hid (hnl cs k = L) := ⟨_, rfl⟩
    rw [HY.out] at c0 HDEF HLK
    rw [HZ.out] at c1 HLK
    rw [HL.out] at c2 HDEF HIL HLm
    have hLm : L ≤ 1048576 := HLm.out
    go_upto_region 6 with fail
    obtain ⟨X2, hX2⟩ : ∃ X2, Hid (wr.alloc (.cells #[.int .i64 y, .bool z, .slice la L lc] 45) = X2) := ⟨_, rfl⟩
    have HX2 : Hid (Below wr.heap.size wr X2) := by show Below _ _ _; rw [← hX2.out]; repeat (first | exact Below.refl _ _ | refine Below.drew ?_ | refine Below.setCell ?_ (by simp; try omega) _ | refine Below.alloc ?_ (by simp; try omega) _)
    have OX := row_of wr #[.int .i64 y, .bool z, .slice la L lc] 45
    rw [hX2.out] at OX
    have HOX : Hid (X2.rowIs wr.heap.size 45 3 (rowF [.int .i64 y, .bool z, .slice la L lc])) := OX
    rw [hX2.out]
    clear r0 r1 r2 r3 rl0 RW OX c0 c1 c2 hX2
    have HB2 : Hid (Below W.heap.size W X2) := HB.out.trans (HX2.out.mono HB.out.size)
    have HR2 : Hid (X2.rowIs W.heap.size 30 4 (rowF [.slice (some ⟨b, o, none⟩) n cap, .slice ra 6 rc, .slice na nl nc, .int .i64 nx])) := HRr.out.of_block (HX2.out.block _ HRr.out.lt)
    have HP2 : Hid (∀ p, k = p + 1 → X2.cell? ⟨b, o + p * 3, none⟩ = some (.int .i64 (hnm cs p))) := fun p hp => (HX2.out.cell (p := ⟨b, o + p * 3, none⟩) hbl).trans (HPV.out p hp)
    have hbl2 : b < X2.heap.size := by have := HX2.out.size; omega
    have HI2 : Hid (Ints X2 la (hls cs k)) := HI.out.kept HX2.out
    have e0 : X2.cell? ⟨wr.heap.size, 0, none⟩ = some (.int .i64 y) := HOX.out.cell (i := 0) (by decide)
    have e1 : X2.cell? ⟨wr.heap.size, 1, none⟩ = some (.bool z) := HOX.out.cell (i := 1) (by decide)
    have e2 : X2.cell? ⟨wr.heap.size, 2, none⟩ = some (.slice la L lc) := HOX.out.cell (i := 2) (by decide)
    have el := HOX.out.lt
    have RW := HR2.out
    have r0 : X2.cell? ⟨W.heap.size, 0, none⟩ = some (.slice (some ⟨b, o, none⟩) n cap) := RW.cell (i := 0) (by decide)
    have r1 : X2.cell? ⟨W.heap.size, 1, none⟩ = some (.slice ra 6 rc) := RW.cell (i := 1) (by decide)
    have r2 : X2.cell? ⟨W.heap.size, 2, none⟩ = some (.slice na nl nc) := RW.cell (i := 2) (by decide)
    have r3 : X2.cell? ⟨W.heap.size, 3, none⟩ = some (.int .i64 nx) := RW.cell (i := 3) (by decide)
    have rl0 := RW.lt
    clear RW HRr HI HPV
    generalize wr.heap.size = ob at HOX e0 e1 e2 el HX2 hbl ⊢
    have kI0 : (0 : Int) ≤ (k : Int) := by omega
    by_cases u0 : y < 0
    · have HE : Hid (R = false) := HFk.out (fun q => by have := (HDEF.out.1 q).1.1; omega)
      have d0 : decide (y < 0) = true := decide_eq_true u0
      go_quiet (fail)
      go_wp2
      go_ret
      exact ⟨by rw [HE.out]; rfl, drewN_below HB2.out _⟩
    have u0' : 0 ≤ y := by omega
    have d0 : decide (y < 0) = false := decide_eq_false u0
    clear u0
    by_cases u1 : nx ≤ y
    · have HE : Hid (R = false) := HFk.out (fun q => by have := (HDEF.out.1 q).1.2; omega)
      have d1 : decide (y ≥ nx) = true := decide_eq_true u1
      go_quiet (fail)
      go_wp2
      go_ret
      exact ⟨by rw [HE.out]; rfl, drewN_below HB2.out _⟩
    have u1' : y < nx := by omega
    have d1 : decide (y ≥ nx) = false := decide_eq_false u1
    clear u1
    by_cases u2 : ∃ p, k = p + 1 ∧ y ≤ hnm cs p
    · obtain ⟨p, rfl, u3⟩ := u2
      have HE : Hid (R = false) := HFk.out (fun q => by have := (HDEF.out.1 q).2.1 (by omega); simp at this; omega)
      have cp := HP2.out p rfl
      obtain ⟨pv, HPVV⟩ : ∃ v, Hid (hnm cs p = v) := ⟨_, rfl⟩
      rw [HPVV.out] at cp u3
      have kp : (0 : Int) < ((p + 1 : Nat) : Int) := by omega
      have kp2 : ((p + 1 : Nat) : Int) - 1 = (p : Int) := by omega
      have kpl : (p : Int) < (n : Int) := by omega
      have d2 : decide (((p + 1 : Nat) : Int) > 0) = true := decide_eq_true kp
      have d3 : decide (pv ≥ y) = true := decide_eq_true u3
      go_quiet (fail)
      go_wp2
      go_ret
      exact ⟨by rw [HE.out]; rfl, drewN_below HB2.out _⟩
    have HRISE : Hid (0 < k → hnm cs (k - 1) < y) := fun q => by
      by_cases r : hnm cs (k - 1) < y
      · exact r
      · exact absurd ⟨k - 1, by omega, by omega⟩ u2
    by_cases l2 : L = 2
    rotate_left
    · have HE : Hid (R = false) := HFk.out (fun q => l2 (HDEF.out.1 q).2.2.1)
      have lI : (L : Int) ≠ 2 := by omega
      have d3 : ((L : Int) == 2) = false := by simpa using lI
      have d4 : ((L : Int) != 2) = true := by simpa using lI
      have d6 : (L == 2) = false := by simpa using l2
      by_cases k0 : k = 0
      · subst k0
        go_quiet (fail)
        go_wp2
        go_ret
        exact ⟨by rw [HE.out]; rfl, drewN_below HB2.out _⟩
      · obtain ⟨p, rfl⟩ : ∃ p, k = p + 1 := ⟨k - 1, by omega⟩
        have cp := HP2.out p rfl
        have u3 := HRISE.out (by omega)
        simp only [Nat.add_sub_cancel] at u3
        obtain ⟨pv, HPVV⟩ : ∃ v, Hid (hnm cs p = v) := ⟨_, rfl⟩
        rw [HPVV.out] at cp u3
        have kp : (0 : Int) < ((p + 1 : Nat) : Int) := by omega
        have kp2 : ((p + 1 : Nat) : Int) - 1 = (p : Int) := by omega
        have kpl : (p : Int) < (n : Int) := by omega
        have dp2 : decide (((p + 1 : Nat) : Int) > 0) = true := decide_eq_true kp
        have dp3 : decide (pv ≥ y) = false := decide_eq_false (by omega)
        clear u2
        go_quiet (fail)
        go_wp2
        go_ret
        exact ⟨by rw [HE.out]; rfl, drewN_below HB2.out _⟩
    subst l2
    obtain ⟨zs, HZS⟩ : ∃ zs, Hid (hls cs k = zs) := ⟨_, rfl⟩
    rw [HZS.out] at HIL HI2 HDEF
    obtain ⟨LB, HLB, HDONE, HJF0⟩ : ∃ LB : Int → Prop, Hid (∀ x, LB x ↔ (linkB cs n x = true ∧ (z = true → youngB cs n x = true → y ∈ ns))) ∧ Hid ((∀ i, i < 2 → LB (zs.getD i 0)) → ∀ j, j < k + 1 → ObjOk cs n ns nx j) ∧ Hid (∀ i, i < 2 → ¬ LB (zs.getD i 0) → R = false) := ⟨LinkOk cs n ns k, HLK.out, fun q => HYk.out (HDEF.out.2 ⟨⟨u0', u1'⟩, HRISE.out, rfl, q⟩), fun i hi q => HFk.out (fun r => q ((HDEF.out.1 r).2.2.2 i hi))⟩
    have HQ : Hid (∀ q, Below W.heap.size W (X2.drewN q) ∧ (X2.drewN q).rowIs W.heap.size 30 4 (rowF [.slice (some ⟨b, o, none⟩) n cap, .slice ra 6 rc, .slice na nl nc, .int .i64 nx]) ∧ (X2.drewN q).rowIs ob 45 3 (rowF [.int .i64 y, .bool z, .slice la 2 lc]) ∧ Ints (X2.drewN q) la zs) := fun q => ⟨drewN_below HB2.out q, drewN_row HR2.out q, drewN_row HOX.out q, HI2.out.kept (drewN_below (Below.refl _ _) q)⟩
    by_cases k0 : k = 0
    · subst k0
      go_quiet (fail)
      obtain ⟨BV, RV, OV, IV⟩ := HQ.out nq
      have HBV : Hid (Below W.heap.size W (X2.drewN nq)) := BV
      have HRV : Hid ((X2.drewN nq).rowIs W.heap.size 30 4 (rowF [.slice (some ⟨b, o, none⟩) n cap, .slice ra 6 rc, .slice na nl nc, .int .i64 nx])) := RV
      have HOV : Hid ((X2.drewN nq).rowIs ob 45 3 (rowF [.int .i64 y, .bool z, .slice la 2 lc])) := OV
      have HIV : Hid (Ints (X2.drewN nq) la zs) := IV
      clear BV RV OV IV HQ HB2 HR2 HOX HI2 e0 e1 e2 el r0 r1 r2 r3 rl0 hbl2 HP2
      generalize X2.drewN nq = V at HBV HRV HOV HIV ⊢
      have e2 : V.cell? ⟨ob, 2, none⟩ = some (.slice la 2 lc) := HOV.out.cell (i := 2) (by decide)
      have el := HOV.out.lt
      go_wp2
      clear e2 el
      go_loopw [71] (fun vj wr => ∃ j : Nat, j ≤ 2 ∧ vj = .int .i64 j ∧ Hid (∀ i, i < j → LB (zs.getD i 0)) ∧ Hid (wr.rowIs W.heap.size 30 4 (rowF [.slice (some ⟨b, o, none⟩) n cap, .slice ra 6 rc, .slice na nl nc, .int .i64 nx])) ∧ Hid (wr.rowIs ob 45 3 (rowF [.int .i64 y, .bool z, .slice la 2 lc])) ∧ Hid (Below W.heap.size W wr) ∧ Hid (Ints wr la zs)) (fun vj _ => 2 - (intOf vj).toNat)
      case atStart => exact ⟨0, by omega, rfl, fun j hj => by omega, HRV, HOV, HBV, HIV⟩
      case round =>
        obtain ⟨j, hj, rfl, HJ, HIN, OIN, BIN, IIN⟩ := hrel
        by_cases hjl : j < 2
        rotate_left
        · have HN1 := HDONE.out (fun i hi => HJ.out i (by omega))
          have HNH : Hid (∀ j, j < 0 + 1 → ObjOk cs n ns nx j) := HN1
          have RW := HIN.out
          clear HN1 RW
          go_wp2
          go_roundw
          case rel => exact ⟨0 + 1, by omega, by go_num, HNH, HIN, BIN⟩
          case measure => simp [intOf]; omega
        have hjI : (j : Int) < 2 := by omega
        obtain ⟨b', o', ha', hc⟩ := IIN.out.at (Below.refl _ _) (k := j) (by rw [HIL.out]; exact hjl)
        subst ha'
        have HJF : Hid (¬ LB (zs.getD j 0) → R = false) := HJF0.out j hjl
        have HJY : Hid (LB (zs.getD j 0) → ∀ i, i < j + 1 → LB (zs.getD i 0)) := fun q i hi => by
          by_cases e : i = j
          · subst e; exact q
          · exact HJ.out i (by omega)
        have HLx : Hid (LB (zs.getD j 0) ↔ (linkB cs n (zs.getD j 0) = true ∧ (z = true → youngB cs n (zs.getD j 0) = true → y ∈ ns))) := HLB.out _
        have hcL := spec_link14 (some ⟨b, o, none⟩) n cap ra 6 rc na nl nc nx cs (zs.getD j 0) c wr hf hn (h.out.kept BIN.out)
        have hcY : Hid (∀ w1, Below W.heap.size W w1 → Calls Try.prog 29 #[.agg #[.slice (some ⟨b, o, none⟩) n cap, .slice ra 6 rc, .slice na nl nc, .int .i64 nx], .int .i64 (zs.getD j 0)] w1 fun e W' => e = .returned (.bool (youngB cs n (zs.getD j 0))) ∧ Below w1.heap.size w1 W') := fun w1 q => spec_young14 (some ⟨b, o, none⟩) n cap ra 6 rc na nl nc nx cs (zs.getD j 0) c w1 hf hn (h.out.kept q)
        obtain ⟨x, HX0⟩ : ∃ x, Hid (zs.getD j 0 = x) := ⟨_, rfl⟩
        rw [HX0.out] at hc hcL hcY HJF HJY HLx
        have hbw : b' < wr.heap.size := by
          rcases IIN.out with q | ⟨b2, o2, e, hl, _⟩
          · have := HIL.out; rw [q] at this; cases this
          · cases e; exact hl
        have RW := HIN.out
        have r0 : wr.cell? ⟨W.heap.size, 0, none⟩ = some (.slice (some ⟨b, o, none⟩) n cap) := RW.cell (i := 0) (by decide)
        have r1 : wr.cell? ⟨W.heap.size, 1, none⟩ = some (.slice ra 6 rc) := RW.cell (i := 1) (by decide)
        have r2 : wr.cell? ⟨W.heap.size, 2, none⟩ = some (.slice na nl nc) := RW.cell (i := 2) (by decide)
        have r3 : wr.cell? ⟨W.heap.size, 3, none⟩ = some (.int .i64 nx) := RW.cell (i := 3) (by decide)
        have rl0 := RW.lt
        have RO := OIN.out
        have e0 : wr.cell? ⟨ob, 0, none⟩ = some (.int .i64 y) := RO.cell (i := 0) (by decide)
        have e1 : wr.cell? ⟨ob, 1, none⟩ = some (.bool z) := RO.cell (i := 1) (by decide)
        have e2 : wr.cell? ⟨ob, 2, none⟩ = some (.slice (some ⟨b', o', none⟩) 2 lc) := RO.cell (i := 2) (by decide)
        have el := RO.lt
        cases hl : linkB cs n x
        · have HE : Hid (R = false) := HJF.out (fun q => by have := (HLx.out.1 q).1; rw [hl] at this; cases this)
          rw [hl] at hcL
          go_wp2_with fail
          refine hcL.mono ?_
          rintro e w1 ⟨rfl, hB⟩
          have B1 : Hid (Below W.heap.size W w1) := BIN.out.trans (hB.mono BIN.out.size)
          clear hB hcL r0 r1 r2 r3 e0 e1 e2
          go_wp2
          go_ret
          exact ⟨by rw [HE.out]; rfl, B1.out⟩
        rw [hl] at hcL HLx
        clear hl
        cases z
        · have HLBx : Hid (∀ i, i < j + 1 → LB (zs.getD i 0)) := HJY.out (HLx.out.2 ⟨by simp, fun q => by cases q⟩)
          go_wp2_with fail
          refine hcL.mono ?_
          rintro e w1 ⟨rfl, hB⟩
          have BW1 : Hid (Below W.heap.size W w1) := BIN.out.trans (hB.mono BIN.out.size)
          have RH1 : Hid (w1.rowIs W.heap.size 30 4 (rowF [.slice (some ⟨b, o, none⟩) n cap, .slice ra 6 rc, .slice na nl nc, .int .i64 nx])) := HIN.out.of_block (hB.block _ HIN.out.lt)
          have RO1 : Hid (w1.rowIs ob 45 3 (rowF [.int .i64 y, .bool false, .slice (some ⟨b', o', none⟩) 2 lc])) := OIN.out.of_block (hB.block _ OIN.out.lt)
          have HI1 : Hid (Ints w1 (some ⟨b', o', none⟩) zs) := IIN.out.kept hB
          clear hB hcL r0 r1 r2 r3 e0 e1 e2 RW RO el rl0
          have RW := RH1.out
          have r0 : w1.cell? ⟨W.heap.size, 0, none⟩ = some (.slice (some ⟨b, o, none⟩) n cap) := RW.cell (i := 0) (by decide)
          have r1 : w1.cell? ⟨W.heap.size, 1, none⟩ = some (.slice ra 6 rc) := RW.cell (i := 1) (by decide)
          have r2 : w1.cell? ⟨W.heap.size, 2, none⟩ = some (.slice na nl nc) := RW.cell (i := 2) (by decide)
          have r3 : w1.cell? ⟨W.heap.size, 3, none⟩ = some (.int .i64 nx) := RW.cell (i := 3) (by decide)
          have rl0 := RW.lt
          have RO := RO1.out
          have e0 : w1.cell? ⟨ob, 0, none⟩ = some (.int .i64 y) := RO.cell (i := 0) (by decide)
          have e1 : w1.cell? ⟨ob, 1, none⟩ = some (.bool false) := RO.cell (i := 1) (by decide)
          have e2 : w1.cell? ⟨ob, 2, none⟩ = some (.slice (some ⟨b', o', none⟩) 2 lc) := RO.cell (i := 2) (by decide)
          have el := RO.lt
          go_wp2
          go_roundw
          case rel => exact ⟨j + 1, by omega, by go_num, HLBx, RH1, RO1, BW1, HI1⟩
          case measure => simp [intOf]; omega
        go_wp2_with fail
        refine hcL.mono ?_
        rintro e w1 ⟨rfl, hB⟩
        have BW1 : Hid (Below W.heap.size W w1) := BIN.out.trans (hB.mono BIN.out.size)
        have RH1 : Hid (w1.rowIs W.heap.size 30 4 (rowF [.slice (some ⟨b, o, none⟩) n cap, .slice ra 6 rc, .slice na nl nc, .int .i64 nx])) := HIN.out.of_block (hB.block _ HIN.out.lt)
        have RO1 : Hid (w1.rowIs ob 45 3 (rowF [.int .i64 y, .bool true, .slice (some ⟨b', o', none⟩) 2 lc])) := OIN.out.of_block (hB.block _ OIN.out.lt)
        have HI1 : Hid (Ints w1 (some ⟨b', o', none⟩) zs) := IIN.out.kept hB
        clear hB hcL r0 r1 r2 r3 e0 e1 e2 RW RO el rl0
        have RW := RH1.out
        have r0 : w1.cell? ⟨W.heap.size, 0, none⟩ = some (.slice (some ⟨b, o, none⟩) n cap) := RW.cell (i := 0) (by decide)
        have r1 : w1.cell? ⟨W.heap.size, 1, none⟩ = some (.slice ra 6 rc) := RW.cell (i := 1) (by decide)
        have r2 : w1.cell? ⟨W.heap.size, 2, none⟩ = some (.slice na nl nc) := RW.cell (i := 2) (by decide)
        have r3 : w1.cell? ⟨W.heap.size, 3, none⟩ = some (.int .i64 nx) := RW.cell (i := 3) (by decide)
        have rl0 := RW.lt
        have RO := RO1.out
        have e0 : w1.cell? ⟨ob, 0, none⟩ = some (.int .i64 y) := RO.cell (i := 0) (by decide)
        have e1 : w1.cell? ⟨ob, 1, none⟩ = some (.bool true) := RO.cell (i := 1) (by decide)
        have e2 : w1.cell? ⟨ob, 2, none⟩ = some (.slice (some ⟨b', o', none⟩) 2 lc) := RO.cell (i := 2) (by decide)
        have el := RO.lt
        have hcY1 := hcY.out w1 BW1.out
        clear hcY
        cases hy : youngB cs n x
        · have HLBx : Hid (∀ i, i < j + 1 → LB (zs.getD i 0)) := HJY.out (HLx.out.2 ⟨by simp, fun q q2 => by rw [hy] at q2; cases q2⟩)
          rw [hy] at hcY1
          go_wp2_with fail
          refine hcY1.mono ?_
          rintro e w2 ⟨rfl, hB⟩
          have BW2 : Hid (Below W.heap.size W w2) := BW1.out.trans (hB.mono BW1.out.size)
          have RH2 : Hid (w2.rowIs W.heap.size 30 4 (rowF [.slice (some ⟨b, o, none⟩) n cap, .slice ra 6 rc, .slice na nl nc, .int .i64 nx])) := RH1.out.of_block (hB.block _ RH1.out.lt)
          have RO2 : Hid (w2.rowIs ob 45 3 (rowF [.int .i64 y, .bool true, .slice (some ⟨b', o', none⟩) 2 lc])) := RO1.out.of_block (hB.block _ RO1.out.lt)
          have HI2 : Hid (Ints w2 (some ⟨b', o', none⟩) zs) := HI1.out.kept hB
          clear hB hcY1 r0 r1 r2 r3 e0 e1 e2 RW RO el rl0
          go_wp2
          go_roundw
          case rel => exact ⟨j + 1, by omega, by go_num, HLBx, RH2, RO2, BW2, HI2⟩
          case measure => simp [intOf]; omega
        rw [hy] at hcY1 HLx
        clear hy
        go_wp2_with fail
        refine hcY1.mono ?_
        rintro e w2 ⟨rfl, hB⟩
        have BW2 : Hid (Below W.heap.size W w2) := BW1.out.trans (hB.mono BW1.out.size)
        have RH2 : Hid (w2.rowIs W.heap.size 30 4 (rowF [.slice (some ⟨b, o, none⟩) n cap, .slice ra 6 rc, .slice na nl nc, .int .i64 nx])) := RH1.out.of_block (hB.block _ RH1.out.lt)
        have RO2 : Hid (w2.rowIs ob 45 3 (rowF [.int .i64 y, .bool true, .slice (some ⟨b', o', none⟩) 2 lc])) := RO1.out.of_block (hB.block _ RO1.out.lt)
        have HI2 : Hid (Ints w2 (some ⟨b', o', none⟩) zs) := HI1.out.kept hB
        clear hB hcY1 r0 r1 r2 r3 e0 e1 e2 RW RO el rl0
        have RW := RH2.out
        have r0 : w2.cell? ⟨W.heap.size, 0, none⟩ = some (.slice (some ⟨b, o, none⟩) n cap) := RW.cell (i := 0) (by decide)
        have r1 : w2.cell? ⟨W.heap.size, 1, none⟩ = some (.slice ra 6 rc) := RW.cell (i := 1) (by decide)
        have r2 : w2.cell? ⟨W.heap.size, 2, none⟩ = some (.slice na nl nc) := RW.cell (i := 2) (by decide)
        have r3 : w2.cell? ⟨W.heap.size, 3, none⟩ = some (.int .i64 nx) := RW.cell (i := 3) (by decide)
        have rl0 := RW.lt
        have RO := RO2.out
        have e0 : w2.cell? ⟨ob, 0, none⟩ = some (.int .i64 y) := RO.cell (i := 0) (by decide)
        have e1 : w2.cell? ⟨ob, 1, none⟩ = some (.bool true) := RO.cell (i := 1) (by decide)
        have e2 : w2.cell? ⟨ob, 2, none⟩ = some (.slice (some ⟨b', o', none⟩) 2 lc) := RO.cell (i := 2) (by decide)
        have el := RO.lt
        have hcI := spec_in na nl nc y ns w2 hzn hnnl (In.out.kept BW2.out)
        cases hi : inB ns y
        · have HE : Hid (R = false) := HJF.out (fun q => by have := (HLx.out.1 q).2; exact in_not hi (by simpa using this))
          rw [hi] at hcI
          go_wp2_with fail
          refine hcI.mono ?_
          rintro e w3 ⟨rfl, hw⟩
          rw [hw]
          clear hw w3
          go_wp2
          go_ret
          exact ⟨by rw [HE.out]; rfl, BW2.out⟩
        · have HLBx : Hid (∀ i, i < j + 1 → LB (zs.getD i 0)) := HJY.out (HLx.out.2 ⟨by simp, fun _ _ => in_out hi⟩)
          rw [hi] at hcI
          go_wp2_with fail
          refine hcI.mono ?_
          rintro e w3 ⟨rfl, hw⟩
          rw [hw]
          clear hw w3
          go_wp2
          go_roundw
          case rel => exact ⟨j + 1, by omega, by go_num, HLBx, RH2, RO2, BW2, HI2⟩
          case measure => simp [intOf]; omega
    · obtain ⟨p, rfl⟩ : ∃ p, k = p + 1 := ⟨k - 1, by omega⟩
      have cp := HP2.out p rfl
      have u3 := HRISE.out (by omega)
      simp only [Nat.add_sub_cancel] at u3
      obtain ⟨pv, HPVV⟩ : ∃ v, Hid (hnm cs p = v) := ⟨_, rfl⟩
      rw [HPVV.out] at cp u3
      have kp : (0 : Int) < ((p + 1 : Nat) : Int) := by omega
      have kp2 : ((p + 1 : Nat) : Int) - 1 = (p : Int) := by omega
      have kpl : (p : Int) < (n : Int) := by omega
      have dp2 : decide (((p + 1 : Nat) : Int) > 0) = true := decide_eq_true kp
      have dp3 : decide (pv ≥ y) = false := decide_eq_false (by omega)
      clear u2
      go_quiet (fail)
      obtain ⟨BV, RV, OV, IV⟩ := HQ.out nq
      have HBV : Hid (Below W.heap.size W (X2.drewN nq)) := BV
      have HRV : Hid ((X2.drewN nq).rowIs W.heap.size 30 4 (rowF [.slice (some ⟨b, o, none⟩) n cap, .slice ra 6 rc, .slice na nl nc, .int .i64 nx])) := RV
      have HOV : Hid ((X2.drewN nq).rowIs ob 45 3 (rowF [.int .i64 y, .bool z, .slice la 2 lc])) := OV
      have HIV : Hid (Ints (X2.drewN nq) la zs) := IV
      clear BV RV OV IV HQ HB2 HR2 HOX HI2 e0 e1 e2 el r0 r1 r2 r3 rl0 hbl2 HP2
      generalize X2.drewN nq = V at HBV HRV HOV HIV ⊢
      have e2 : V.cell? ⟨ob, 2, none⟩ = some (.slice la 2 lc) := HOV.out.cell (i := 2) (by decide)
      have el := HOV.out.lt
      go_wp2
      clear e2 el
      go_loopw [71] (fun vj wr => ∃ j : Nat, j ≤ 2 ∧ vj = .int .i64 j ∧ Hid (∀ i, i < j → LB (zs.getD i 0)) ∧ Hid (wr.rowIs W.heap.size 30 4 (rowF [.slice (some ⟨b, o, none⟩) n cap, .slice ra 6 rc, .slice na nl nc, .int .i64 nx])) ∧ Hid (wr.rowIs ob 45 3 (rowF [.int .i64 y, .bool z, .slice la 2 lc])) ∧ Hid (Below W.heap.size W wr) ∧ Hid (Ints wr la zs)) (fun vj _ => 2 - (intOf vj).toNat)
      case atStart => exact ⟨0, by omega, rfl, fun j hj => by omega, HRV, HOV, HBV, HIV⟩
      case round =>
        obtain ⟨j, hj, rfl, HJ, HIN, OIN, BIN, IIN⟩ := hrel
        by_cases hjl : j < 2
        rotate_left
        · have HN1 := HDONE.out (fun i hi => HJ.out i (by omega))
          have HNH : Hid (∀ j, j < (p + 1) + 1 → ObjOk cs n ns nx j) := HN1
          have RW := HIN.out
          clear HN1 RW
          go_wp2
          go_roundw
          case rel => exact ⟨(p + 1) + 1, by omega, by go_num, HNH, HIN, BIN⟩
          case measure => simp [intOf]; omega
        have hjI : (j : Int) < 2 := by omega
        obtain ⟨b', o', ha', hc⟩ := IIN.out.at (Below.refl _ _) (k := j) (by rw [HIL.out]; exact hjl)
        subst ha'
        have HJF : Hid (¬ LB (zs.getD j 0) → R = false) := HJF0.out j hjl
        have HJY : Hid (LB (zs.getD j 0) → ∀ i, i < j + 1 → LB (zs.getD i 0)) := fun q i hi => by
          by_cases e : i = j
          · subst e; exact q
          · exact HJ.out i (by omega)
        have HLx : Hid (LB (zs.getD j 0) ↔ (linkB cs n (zs.getD j 0) = true ∧ (z = true → youngB cs n (zs.getD j 0) = true → y ∈ ns))) := HLB.out _
        have hcL := spec_link14 (some ⟨b, o, none⟩) n cap ra 6 rc na nl nc nx cs (zs.getD j 0) c wr hf hn (h.out.kept BIN.out)
        have hcY : Hid (∀ w1, Below W.heap.size W w1 → Calls Try.prog 29 #[.agg #[.slice (some ⟨b, o, none⟩) n cap, .slice ra 6 rc, .slice na nl nc, .int .i64 nx], .int .i64 (zs.getD j 0)] w1 fun e W' => e = .returned (.bool (youngB cs n (zs.getD j 0))) ∧ Below w1.heap.size w1 W') := fun w1 q => spec_young14 (some ⟨b, o, none⟩) n cap ra 6 rc na nl nc nx cs (zs.getD j 0) c w1 hf hn (h.out.kept q)
        obtain ⟨x, HX0⟩ : ∃ x, Hid (zs.getD j 0 = x) := ⟨_, rfl⟩
        rw [HX0.out] at hc hcL hcY HJF HJY HLx
        have hbw : b' < wr.heap.size := by
          rcases IIN.out with q | ⟨b2, o2, e, hl, _⟩
          · have := HIL.out; rw [q] at this; cases this
          · cases e; exact hl
        have RW := HIN.out
        have r0 : wr.cell? ⟨W.heap.size, 0, none⟩ = some (.slice (some ⟨b, o, none⟩) n cap) := RW.cell (i := 0) (by decide)
        have r1 : wr.cell? ⟨W.heap.size, 1, none⟩ = some (.slice ra 6 rc) := RW.cell (i := 1) (by decide)
        have r2 : wr.cell? ⟨W.heap.size, 2, none⟩ = some (.slice na nl nc) := RW.cell (i := 2) (by decide)
        have r3 : wr.cell? ⟨W.heap.size, 3, none⟩ = some (.int .i64 nx) := RW.cell (i := 3) (by decide)
        have rl0 := RW.lt
        have RO := OIN.out
        have e0 : wr.cell? ⟨ob, 0, none⟩ = some (.int .i64 y) := RO.cell (i := 0) (by decide)
        have e1 : wr.cell? ⟨ob, 1, none⟩ = some (.bool z) := RO.cell (i := 1) (by decide)
        have e2 : wr.cell? ⟨ob, 2, none⟩ = some (.slice (some ⟨b', o', none⟩) 2 lc) := RO.cell (i := 2) (by decide)
        have el := RO.lt
        cases hl : linkB cs n x
        · have HE : Hid (R = false) := HJF.out (fun q => by have := (HLx.out.1 q).1; rw [hl] at this; cases this)
          rw [hl] at hcL
          go_wp2_with fail
          refine hcL.mono ?_
          rintro e w1 ⟨rfl, hB⟩
          have B1 : Hid (Below W.heap.size W w1) := BIN.out.trans (hB.mono BIN.out.size)
          clear hB hcL r0 r1 r2 r3 e0 e1 e2
          go_wp2
          go_ret
          exact ⟨by rw [HE.out]; rfl, B1.out⟩
        rw [hl] at hcL HLx
        clear hl
        cases z
        · have HLBx : Hid (∀ i, i < j + 1 → LB (zs.getD i 0)) := HJY.out (HLx.out.2 ⟨by simp, fun q => by cases q⟩)
          go_wp2_with fail
          refine hcL.mono ?_
          rintro e w1 ⟨rfl, hB⟩
          have BW1 : Hid (Below W.heap.size W w1) := BIN.out.trans (hB.mono BIN.out.size)
          have RH1 : Hid (w1.rowIs W.heap.size 30 4 (rowF [.slice (some ⟨b, o, none⟩) n cap, .slice ra 6 rc, .slice na nl nc, .int .i64 nx])) := HIN.out.of_block (hB.block _ HIN.out.lt)
          have RO1 : Hid (w1.rowIs ob 45 3 (rowF [.int .i64 y, .bool false, .slice (some ⟨b', o', none⟩) 2 lc])) := OIN.out.of_block (hB.block _ OIN.out.lt)
          have HI1 : Hid (Ints w1 (some ⟨b', o', none⟩) zs) := IIN.out.kept hB
          clear hB hcL r0 r1 r2 r3 e0 e1 e2 RW RO el rl0
          have RW := RH1.out
          have r0 : w1.cell? ⟨W.heap.size, 0, none⟩ = some (.slice (some ⟨b, o, none⟩) n cap) := RW.cell (i := 0) (by decide)
          have r1 : w1.cell? ⟨W.heap.size, 1, none⟩ = some (.slice ra 6 rc) := RW.cell (i := 1) (by decide)
          have r2 : w1.cell? ⟨W.heap.size, 2, none⟩ = some (.slice na nl nc) := RW.cell (i := 2) (by decide)
          have r3 : w1.cell? ⟨W.heap.size, 3, none⟩ = some (.int .i64 nx) := RW.cell (i := 3) (by decide)
          have rl0 := RW.lt
          have RO := RO1.out
          have e0 : w1.cell? ⟨ob, 0, none⟩ = some (.int .i64 y) := RO.cell (i := 0) (by decide)
          have e1 : w1.cell? ⟨ob, 1, none⟩ = some (.bool false) := RO.cell (i := 1) (by decide)
          have e2 : w1.cell? ⟨ob, 2, none⟩ = some (.slice (some ⟨b', o', none⟩) 2 lc) := RO.cell (i := 2) (by decide)
          have el := RO.lt
          go_wp2
          go_roundw
          case rel => exact ⟨j + 1, by omega, by go_num, HLBx, RH1, RO1, BW1, HI1⟩
          case measure => simp [intOf]; omega
        go_wp2_with fail
        refine hcL.mono ?_
        rintro e w1 ⟨rfl, hB⟩
        have BW1 : Hid (Below W.heap.size W w1) := BIN.out.trans (hB.mono BIN.out.size)
        have RH1 : Hid (w1.rowIs W.heap.size 30 4 (rowF [.slice (some ⟨b, o, none⟩) n cap, .slice ra 6 rc, .slice na nl nc, .int .i64 nx])) := HIN.out.of_block (hB.block _ HIN.out.lt)
        have RO1 : Hid (w1.rowIs ob 45 3 (rowF [.int .i64 y, .bool true, .slice (some ⟨b', o', none⟩) 2 lc])) := OIN.out.of_block (hB.block _ OIN.out.lt)
        have HI1 : Hid (Ints w1 (some ⟨b', o', none⟩) zs) := IIN.out.kept hB
        clear hB hcL r0 r1 r2 r3 e0 e1 e2 RW RO el rl0
        have RW := RH1.out
        have r0 : w1.cell? ⟨W.heap.size, 0, none⟩ = some (.slice (some ⟨b, o, none⟩) n cap) := RW.cell (i := 0) (by decide)
        have r1 : w1.cell? ⟨W.heap.size, 1, none⟩ = some (.slice ra 6 rc) := RW.cell (i := 1) (by decide)
        have r2 : w1.cell? ⟨W.heap.size, 2, none⟩ = some (.slice na nl nc) := RW.cell (i := 2) (by decide)
        have r3 : w1.cell? ⟨W.heap.size, 3, none⟩ = some (.int .i64 nx) := RW.cell (i := 3) (by decide)
        have rl0 := RW.lt
        have RO := RO1.out
        have e0 : w1.cell? ⟨ob, 0, none⟩ = some (.int .i64 y) := RO.cell (i := 0) (by decide)
        have e1 : w1.cell? ⟨ob, 1, none⟩ = some (.bool true) := RO.cell (i := 1) (by decide)
        have e2 : w1.cell? ⟨ob, 2, none⟩ = some (.slice (some ⟨b', o', none⟩) 2 lc) := RO.cell (i := 2) (by decide)
        have el := RO.lt
        have hcY1 := hcY.out w1 BW1.out
        clear hcY
        cases hy : youngB cs n x
        · have HLBx : Hid (∀ i, i < j + 1 → LB (zs.getD i 0)) := HJY.out (HLx.out.2 ⟨by simp, fun q q2 => by rw [hy] at q2; cases q2⟩)
          rw [hy] at hcY1
          go_wp2_with fail
          refine hcY1.mono ?_
          rintro e w2 ⟨rfl, hB⟩
          have BW2 : Hid (Below W.heap.size W w2) := BW1.out.trans (hB.mono BW1.out.size)
          have RH2 : Hid (w2.rowIs W.heap.size 30 4 (rowF [.slice (some ⟨b, o, none⟩) n cap, .slice ra 6 rc, .slice na nl nc, .int .i64 nx])) := RH1.out.of_block (hB.block _ RH1.out.lt)
          have RO2 : Hid (w2.rowIs ob 45 3 (rowF [.int .i64 y, .bool true, .slice (some ⟨b', o', none⟩) 2 lc])) := RO1.out.of_block (hB.block _ RO1.out.lt)
          have HI2 : Hid (Ints w2 (some ⟨b', o', none⟩) zs) := HI1.out.kept hB
          clear hB hcY1 r0 r1 r2 r3 e0 e1 e2 RW RO el rl0
          go_wp2
          go_roundw
          case rel => exact ⟨j + 1, by omega, by go_num, HLBx, RH2, RO2, BW2, HI2⟩
          case measure => simp [intOf]; omega
        rw [hy] at hcY1 HLx
        clear hy
        go_wp2_with fail
        refine hcY1.mono ?_
        rintro e w2 ⟨rfl, hB⟩
        have BW2 : Hid (Below W.heap.size W w2) := BW1.out.trans (hB.mono BW1.out.size)
        have RH2 : Hid (w2.rowIs W.heap.size 30 4 (rowF [.slice (some ⟨b, o, none⟩) n cap, .slice ra 6 rc, .slice na nl nc, .int .i64 nx])) := RH1.out.of_block (hB.block _ RH1.out.lt)
        have RO2 : Hid (w2.rowIs ob 45 3 (rowF [.int .i64 y, .bool true, .slice (some ⟨b', o', none⟩) 2 lc])) := RO1.out.of_block (hB.block _ RO1.out.lt)
        have HI2 : Hid (Ints w2 (some ⟨b', o', none⟩) zs) := HI1.out.kept hB
        clear hB hcY1 r0 r1 r2 r3 e0 e1 e2 RW RO el rl0
        have RW := RH2.out
        have r0 : w2.cell? ⟨W.heap.size, 0, none⟩ = some (.slice (some ⟨b, o, none⟩) n cap) := RW.cell (i := 0) (by decide)
        have r1 : w2.cell? ⟨W.heap.size, 1, none⟩ = some (.slice ra 6 rc) := RW.cell (i := 1) (by decide)
        have r2 : w2.cell? ⟨W.heap.size, 2, none⟩ = some (.slice na nl nc) := RW.cell (i := 2) (by decide)
        have r3 : w2.cell? ⟨W.heap.size, 3, none⟩ = some (.int .i64 nx) := RW.cell (i := 3) (by decide)
        have rl0 := RW.lt
        have RO := RO2.out
        have e0 : w2.cell? ⟨ob, 0, none⟩ = some (.int .i64 y) := RO.cell (i := 0) (by decide)
        have e1 : w2.cell? ⟨ob, 1, none⟩ = some (.bool true) := RO.cell (i := 1) (by decide)
        have e2 : w2.cell? ⟨ob, 2, none⟩ = some (.slice (some ⟨b', o', none⟩) 2 lc) := RO.cell (i := 2) (by decide)
        have el := RO.lt
        have hcI := spec_in na nl nc y ns w2 hzn hnnl (In.out.kept BW2.out)
        cases hi : inB ns y
        · have HE : Hid (R = false) := HJF.out (fun q => by have := (HLx.out.1 q).2; exact in_not hi (by simpa using this))
          rw [hi] at hcI
          go_wp2_with fail
          refine hcI.mono ?_
          rintro e w3 ⟨rfl, hw⟩
          rw [hw]
          clear hw w3
          go_wp2
          go_ret
          exact ⟨by rw [HE.out]; rfl, BW2.out⟩
        · have HLBx : Hid (∀ i, i < j + 1 → LB (zs.getD i 0)) := HJY.out (HLx.out.2 ⟨by simp, fun _ _ => in_out hi⟩)
          rw [hi] at hcI
          go_wp2_with fail
          refine hcI.mono ?_
          rintro e w3 ⟨rfl, hw⟩
          rw [hw]
          clear hw w3
          go_wp2
          go_roundw
          case rel => exact ⟨j + 1, by omega, by go_num, HLBx, RH2, RO2, BW2, HI2⟩
          case measure => simp [intOf]; omega
end Go.Proofs.Ythomonidconmcaa.walks
