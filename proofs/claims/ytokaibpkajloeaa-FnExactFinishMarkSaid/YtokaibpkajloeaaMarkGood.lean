/-
  What the specification's GoodMarker answers.
-/
import Derived.Test.YtokaibpkajloeaaProg
import Derived.Test.YtokaibpkajloeaaInts
import Derived.Test.YtokaibpkajloeaaDeep
import Derived.Test.YtokaibpkajloeaaDeepRow
import Derived.Test.YtokaibpkajloeaaDeepM
import Derived.Test.YtokaibpkajloeaaMarkMath
import Derived.Test.YtokaibpkajloeaaMarkWell
import Derived.Test.YtokaibpkajloeaaMarkSpec
import Derived.Test.YtokaibpkajloeaaHasIn
import Derived.WalkKit
import Derived.WalkSpells
import Derived.Below
import Derived.Handy
import Derived.Deep.DeepFit
import Derived.Deep.DeepCutAuto
namespace Go.Proofs.Ytokaibpkajloeaa.walks
open Go.RowKit Go.Proofs.Ytokaibpkajloeaa.math Go.Proofs.Ytokaibpkajloeaa.ints Go.Proofs.Ytokaibpkajloeaa.deep
set_option linter.unusedVariables false
set_option linter.unusedSimpArgs false
set_option maxRecDepth 100000

set_option maxHeartbeats 16000000 in
theorem spec_good15 (a : Option Addr) (n cap : Nat) (ra : Option Addr) (rl rc : Nat) (on : Bool) (cs : Nat → Dv) (rs : List Int) (c : Bool) (W : World) (hf : Hid (Fits shCellS (.l n 3 cs))) (hs : Hid (szD (.l n 3 cs) ≤ 1048576)) (h : Hid (Holds W c (.l n 3 cs) (.slice a n cap))) (hzr : Hid (rs.length = rl)) (hrl : rl ≤ 1048576) (Ir : Hid (Ints W ra rs)) :
    Calls Try.prog 15 #[.agg #[.slice a n cap, .slice ra rl rc, .bool on]] W fun e W' => e = .returned (.bool (markB cs n rs on)) ∧ Below W.heap.size W W' := by
  have hn : n ≤ 1048576 := Nat.le_trans (Nat.le_add_right _ _) hs.out
  obtain ⟨X, hX⟩ : ∃ X, Hid (W.alloc (.cells #[.slice a n cap, .slice ra rl rc, .bool on] 25) = X) := ⟨_, rfl⟩
  have HX : Hid (Below W.heap.size W X) := by show Below _ _ _; rw [← hX.out]; exact (Below.refl _ _).alloc (Nat.le_refl _) _
  have hRX := row_of W #[.slice a n cap, .slice ra rl rc, .bool on] 25
  rw [hX.out] at hRX
  have HRX : Hid (X.rowIs W.heap.size 25 3 (rowF [.slice a n cap, .slice ra rl rc, .bool on])) := hRX
  clear hRX
  have r0 : X.cell? ⟨W.heap.size, 0, none⟩ = some (.slice a n cap) := HRX.out.cell (i := 0) (by decide)
  have r1 : X.cell? ⟨W.heap.size, 1, none⟩ = some (.slice ra rl rc) := HRX.out.cell (i := 1) (by decide)
  have r2 : X.cell? ⟨W.heap.size, 2, none⟩ = some (.bool on) := HRX.out.cell (i := 2) (by decide)
  have rl0 := HRX.out.lt
  have hin := range_quiet (n := (n : Int)) (lo := 2) (hi := 10) rfl X
  by_cases hn0 : 2 ≤ (n : Int) ∧ (n : Int) ≤ 10
  rotate_left
  · have HE : Hid (markB cs n rs on = false) := mark_no (fun q => hn0 (by have := q.2.2.1; omega))
    rw [decide_eq_false hn0] at hin
    rw [HE.out]
    clear hn0
    go_enter Try.func15, Try.ntmps15
    go_wp2_with (go_at_call 30; rw [hX.out]; refine hin.mono ?_; rintro e w' ⟨rfl, hw⟩; rw [hw]; clear hw w')
    go_ret
    exact ⟨rfl, HX.out⟩
  rw [decide_eq_true hn0] at hin
  have hn2 : 2 ≤ n := by omega
  have hn10 : n ≤ 10 := by omega
  clear hn0
  by_cases l2 : rl = 2
  rotate_left
  · have HE : Hid (markB cs n rs on = false) := mark_no (fun q => l2 (by rw [← hzr.out]; exact q.1))
    rw [HE.out]
    have lI : (rl : Int) ≠ 2 := by omega
    have d3 : ((rl : Int) == 2) = false := by simpa using lI
    have d4 : ((rl : Int) != 2) = true := by simpa using lI
    have d6 : (rl == 2) = false := by simpa using l2
    go_enter Try.func15, Try.ntmps15
    go_wp2_with (go_at_call 30; rw [hX.out]; refine hin.mono ?_; rintro e w' ⟨rfl, hw⟩; rw [hw]; clear hw w')
    go_ret
    exact ⟨rfl, HX.out⟩
  subst l2
  obtain ⟨R, HR⟩ : ∃ R, Hid (markB cs n rs on = R) := ⟨_, rfl⟩
  rw [HR.out]
  have HYES : Hid ((∀ k, k < n → CellOk cs n rs on k) → (∀ j, j < 2 → RootW (stM cs rs on) n (rs.getD j 0)) → R = true) := fun q1 q2 => by rw [← HR.out]; exact mark_yes (mark_of ⟨hn2, hn10⟩ hzr.out q1 q2)
  have HNOC : Hid (∀ k, k < n → ¬ CellOk cs n rs on k → R = false) := fun k hk q => by rw [← HR.out]; exact mark_no (fun r => q (mark_cell r hk))
  have HNOR : Hid (∀ j, j < 2 → ¬ RootW (stM cs rs on) n (rs.getD j 0) → R = false) := fun j hj q => by rw [← HR.out]; exact mark_no (fun r => q (r.2.2.2.2 j hj))
  clear HR
  obtain ⟨b, o, _, _, ha, hb, _⟩ := mcell_at h.out hf.out HX.out (k := 0) (by omega)
  subst ha
  go_enter Try.func15, Try.ntmps15
  go_upto_region 3 with (go_at_call 30; rw [hX.out]; refine hin.mono ?_; rintro e w' ⟨rfl, hw⟩; rw [hw]; clear hw w')
  clear hin hX
  go_wp2
  clear r0 r1 r2 rl0
  go_loopw [23] (fun vi wr => ∃ k : Nat, k ≤ n ∧ vi = .int .i64 k ∧ Hid (∀ j, j < k → CellOk cs n rs on j) ∧ Hid (wr.rowIs W.heap.size 25 3 (rowF [.slice (some ⟨b, o, none⟩) n cap, .slice ra 2 rc, .bool on])) ∧ Hid (Below W.heap.size W wr)) (fun vi _ => n - (intOf vi).toNat)
  case atStart => exact ⟨0, Nat.zero_le _, rfl, fun j hj => by omega, HRX, HX⟩
  case round =>
    obtain ⟨k, hk, rfl, HG, HRr, HB⟩ := hrel
    have RW := HRr.out
    have r0 : wr.cell? ⟨W.heap.size, 0, none⟩ = some (.slice (some ⟨b, o, none⟩) n cap) := RW.cell (i := 0) (by decide)
    have r1 : wr.cell? ⟨W.heap.size, 1, none⟩ = some (.slice ra 2 rc) := RW.cell (i := 1) (by decide)
    have r2 : wr.cell? ⟨W.heap.size, 2, none⟩ = some (.bool on) := RW.cell (i := 2) (by decide)
    have rl0 := RW.lt
    by_cases hlt : k < n
    rotate_left
    · have HALL : Hid (∀ j, j < n → CellOk cs n rs on j) := fun j hj => HG.out j (by omega)
      have hkn : k = n := by omega
      subst hkn
      have hkd : decide ((k : Int) < (k : Int)) = false := by simp
      have hkd2 : decide (k < k) = false := by simp
      go_wp2
      clear r0 r1 r2 rl0 RW
      go_loopw [86] (fun vi wr => ∃ i : Nat, i ≤ 2 ∧ vi = .int .i64 i ∧ Hid (∀ j, j < i → RootW (stM cs rs on) k (rs.getD j 0)) ∧ Hid (wr.rowIs W.heap.size 25 3 (rowF [.slice (some ⟨b, o, none⟩) k cap, .slice ra 2 rc, .bool on])) ∧ Hid (Below W.heap.size W wr)) (fun vi _ => 2 - (intOf vi).toNat)
      case atStart => exact ⟨0, Nat.zero_le _, rfl, fun j hj => by omega, HRr, HB⟩
      case round =>
        obtain ⟨i, hi, rfl, HG2, HR2, HB2⟩ := hrel
        have RW := HR2.out
        have r0 : wr.cell? ⟨W.heap.size, 0, none⟩ = some (.slice (some ⟨b, o, none⟩) k cap) := RW.cell (i := 0) (by decide)
        have r1 : wr.cell? ⟨W.heap.size, 1, none⟩ = some (.slice ra 2 rc) := RW.cell (i := 1) (by decide)
        have r2 : wr.cell? ⟨W.heap.size, 2, none⟩ = some (.bool on) := RW.cell (i := 2) (by decide)
        have rl0 := RW.lt
        by_cases hil : i < 2
        rotate_left
        · have HE : Hid (R = true) := HYES.out HALL.out (fun j hj => HG2.out j (by omega))
          go_wp2
          go_ret
          exact ⟨by rw [HE.out]; rfl, HB2.out⟩
        have hiI : (i : Int) < 2 := by omega
        obtain ⟨b', o', hra, hx0⟩ := Ir.out.at HB2.out (k := i) (by rw [hzr.out]; exact hil)
        have hra : ra = some ⟨b', o', none⟩ := hra
        subst hra
        have hbw : b' < wr.heap.size := by
          rcases Ir.out with q | ⟨b2, o2, e, hl, _⟩
          · rw [q] at hzr; have := hzr.out; cases this
          · cases e; have := HB2.out.size; omega
        have HNO := HNOR.out i hil
        have HNX : Hid (RootW (stM cs rs on) k (rs.getD i 0) → ∀ j, j < i + 1 → RootW (stM cs rs on) k (rs.getD j 0)) := fun q j hj => by
          by_cases e : j = i
          · subst e; exact q
          · exact HG2.out j (by omega)
        have HDF : Hid (RootW (stM cs rs on) k (rs.getD i 0) ↔ (cellB (mfr cs) k (rs.getD i 0) = true ∧ (on = true → colC (mco cs) (rs.getD i 0) ≠ 0))) := Iff.rfl
        have hcc := spec_cell15 (some ⟨b, o, none⟩) k cap (some ⟨b', o', none⟩) 2 rc on cs (rs.getD i 0) c wr hf hn (h.out.kept HB2.out)
        have HCO : Hid (∀ w1, Below W.heap.size W w1 → cellB (mfr cs) k (rs.getD i 0) = true → Calls Try.prog 39 #[.agg #[.slice (some ⟨b, o, none⟩) k cap, .slice (some ⟨b', o', none⟩) 2 rc, .bool on], .int .i64 (rs.getD i 0)] w1 fun e W' => e = .returned (.int .i64 (colC (mco cs) (rs.getD i 0))) ∧ Below w1.heap.size w1 W') := fun w1 q q2 => spec_color15 (some ⟨b, o, none⟩) k cap (some ⟨b', o', none⟩) 2 rc on cs (rs.getD i 0) c w1 hf hn (h.out.kept q) (by
          rcases cellB_out q2 with r | ⟨j, r, hj, _⟩
          · exact Or.inl (by omega)
          · exact Or.inr ⟨j, r, hj⟩)
        have HNOH : Hid (¬ RootW (stM cs rs on) k (rs.getD i 0) → R = false) := HNO
        obtain ⟨x, HXX⟩ : ∃ x, Hid (rs.getD i 0 = x) := ⟨_, rfl⟩
        rw [HXX.out] at hx0 hcc HCO HDF HNX HNOH
        clear HNO
        cases hcb : cellB (mfr cs) k x
        · have HE : Hid (R = false) := HNOH.out (fun q => by have := (HDF.out.1 q).1; rw [hcb] at this; cases this)
          rw [hcb] at hcc
          go_wp2_with (go_at_call 38; refine hcc.mono ?_; rintro e w1 ⟨rfl, hB1⟩; have B1 : Hid (Below W.heap.size W w1) := (HB2.out.trans (hB1.mono HB2.out.size)); clear hB1 hcc r0 r1 r2)
          go_ret
          exact ⟨by rw [HE.out]; rfl, B1.out⟩
        rw [hcb] at hcc
        cases on
        · have HN2 : Hid (∀ j, j < i + 1 → RootW (stM cs rs false) k (rs.getD j 0)) := HNX.out (HDF.out.2 ⟨hcb, fun q => by cases q⟩)
          clear hcb
          go_wp2_with (go_at_call 38; refine hcc.mono ?_; rintro e w1 ⟨rfl, hB1⟩; have B1 : Hid (Below W.heap.size W w1) := (HB2.out.trans (hB1.mono HB2.out.size)); have R1 : Hid (w1.rowIs W.heap.size 25 3 (rowF [.slice (some ⟨b, o, none⟩) k cap, .slice (some ⟨b', o', none⟩) 2 rc, .bool false])) := (HR2.out.of_block (hB1.block _ HR2.out.lt)); have k2 : w1.cell? ⟨W.heap.size, 2, none⟩ = some (.bool false) := (R1.out.cell (i := 2) (by decide)); have kl := R1.out.lt; clear hB1 hcc r0 r1 r2 rl0 RW)
          go_roundw
          case rel => exact ⟨i + 1, by omega, by go_num, HN2, R1, B1⟩
          case measure => simp [intOf]; omega
        have HCO2 : Hid (∀ w1, Below W.heap.size W w1 → _) := fun w1 q => HCO.out w1 q hcb
        obtain ⟨y, HYY⟩ : ∃ y, Hid (colC (mco cs) x = y) := ⟨_, rfl⟩
        rw [HYY.out] at HCO2 HDF
        by_cases hy : y = 0
        · have HE : Hid (R = false) := HNOH.out (fun q => (HDF.out.1 q).2 rfl hy)
          subst hy
          clear hcb
          go_wp2_with fail
          refine hcc.mono ?_
          rintro e w1 ⟨rfl, hB1⟩
          have B1 : Hid (Below W.heap.size W w1) := (HB2.out.trans (hB1.mono HB2.out.size))
          have R1 : Hid (w1.rowIs W.heap.size 25 3 (rowF [.slice (some ⟨b, o, none⟩) k cap, .slice (some ⟨b', o', none⟩) 2 rc, .bool true])) := (HR2.out.of_block (hB1.block _ HR2.out.lt))
          have k0 : w1.cell? ⟨W.heap.size, 0, none⟩ = some (.slice (some ⟨b, o, none⟩) k cap) := (R1.out.cell (i := 0) (by decide))
          have k1 : w1.cell? ⟨W.heap.size, 1, none⟩ = some (.slice (some ⟨b', o', none⟩) 2 rc) := (R1.out.cell (i := 1) (by decide))
          have k2 : w1.cell? ⟨W.heap.size, 2, none⟩ = some (.bool true) := (R1.out.cell (i := 2) (by decide))
          have kl := R1.out.lt
          have hco1 := HCO2.out w1 B1.out
          clear hB1 hcc r0 r1 r2 rl0 RW
          go_wp2_with fail
          refine hco1.mono ?_
          rintro e w2 ⟨rfl, hB2⟩
          have B2 : Hid (Below W.heap.size W w2) := (B1.out.trans (hB2.mono B1.out.size))
          clear hB2 hco1 k0 k1 k2 kl
          go_wp2
          go_ret
          exact ⟨by rw [HE.out]; rfl, B2.out⟩
        · have HN2 : Hid (∀ j, j < i + 1 → RootW (stM cs rs true) k (rs.getD j 0)) := HNX.out (HDF.out.2 ⟨hcb, fun _ => hy⟩)
          have d0 : (y == 0) = false := by simpa using hy
          have d1 : decide (y = 0) = false := decide_eq_false hy
          clear hcb
          go_wp2_with fail
          refine hcc.mono ?_
          rintro e w1 ⟨rfl, hB1⟩
          have B1 : Hid (Below W.heap.size W w1) := (HB2.out.trans (hB1.mono HB2.out.size))
          have R1 : Hid (w1.rowIs W.heap.size 25 3 (rowF [.slice (some ⟨b, o, none⟩) k cap, .slice (some ⟨b', o', none⟩) 2 rc, .bool true])) := (HR2.out.of_block (hB1.block _ HR2.out.lt))
          have k0 : w1.cell? ⟨W.heap.size, 0, none⟩ = some (.slice (some ⟨b, o, none⟩) k cap) := (R1.out.cell (i := 0) (by decide))
          have k1 : w1.cell? ⟨W.heap.size, 1, none⟩ = some (.slice (some ⟨b', o', none⟩) 2 rc) := (R1.out.cell (i := 1) (by decide))
          have k2 : w1.cell? ⟨W.heap.size, 2, none⟩ = some (.bool true) := (R1.out.cell (i := 2) (by decide))
          have kl := R1.out.lt
          have hco1 := HCO2.out w1 B1.out
          clear hB1 hcc r0 r1 r2 rl0 RW
          go_wp2_with fail
          refine hco1.mono ?_
          rintro e w2 ⟨rfl, hB2⟩
          have B2 : Hid (Below W.heap.size W w2) := (B1.out.trans (hB2.mono B1.out.size))
          have R2 : Hid (w2.rowIs W.heap.size 25 3 (rowF [.slice (some ⟨b, o, none⟩) k cap, .slice (some ⟨b', o', none⟩) 2 rc, .bool true])) := (R1.out.of_block (hB2.block _ R1.out.lt))
          clear hB2 hco1 k0 k1 k2 kl
          go_wp2
          go_roundw
          case rel => exact ⟨i + 1, by omega, by go_num, HN2, R2, B2⟩
          case measure => simp [intOf]; omega
    have hltI : (k : Int) < (n : Int) := by omega
    have kI0 : (0 : Int) ≤ (k : Int) := by omega
    obtain ⟨b2, o2, la, lc, ha2, hb2, c0, c1, c2, hI⟩ := mcell_at h.out hf.out HB.out hlt
    have e2 : b = b2 ∧ o = o2 := by
      simp only [Option.some.injEq, Addr.mk.injEq, and_true] at ha2
      exact ha2
    obtain ⟨rfl, rfl⟩ := e2
    clear ha2 hb2
    have HIL : Hid ((mls cs k).length = mln cs k) := mls_len cs k
    have HI : Hid (Ints wr la (mls cs k)) := hI
    have hbl : b < wr.heap.size := by have := HB.out.size; omega
    have HDEF : Hid (CellOk cs n rs on k ↔ (mln cs k = 2 ∧ (0 ≤ mco cs k ∧ mco cs k ≤ 2) ∧ ((mfr cs k = true ∨ on = false) → mco cs k = 0) ∧ ∀ j, j < 2 → (cellB (mfr cs) n ((mls cs k).getD j 0) = true ∧ (mfr cs k = true → (mls cs k).getD j 0 = -1) ∧ (mco cs k = 2 → colC (mco cs) ((mls cs k).getD j 0) ≠ 0)))) := ⟨fun q => ⟨q.1, q.2.1, q.2.2.1, q.2.2.2⟩, fun q => ⟨q.1, q.2.1, q.2.2.1, q.2.2.2⟩⟩
    have HFk : Hid (¬ CellOk cs n rs on k → R = false) := HNOC.out k hlt
    have HYk : Hid (CellOk cs n rs on k → ∀ j, j < k + 1 → CellOk cs n rs on j) := fun y j hj => by
      by_cases e : j = k
      · subst e; exact y
      · exact HG.out j (by omega)
    clear hI
    have HLm : Hid (mln cs k ≤ 1048576) := by
      obtain ⟨m, es, he, _⟩ := (hf.out.cell hlt (c := 0) (by decide)).list
      have he : cs (k * 3) = .l m 1 es := he
      have q := sz_at (len := n) (sz := 3) (cs := cs) (i := k * 3) (by omega)
      have q2 := hs.out
      rw [he] at q
      show mln cs k ≤ _
      unfold mln
      rw [he]
      have : szD (.l m 1 es) = m + sumTo (fun i => szD (es i)) (m * 1) := rfl
      show m ≤ _
      omega
    obtain ⟨z, HZ⟩ : ∃ z, Hid (mfr cs k = z) := ⟨_, rfl⟩
    obtain ⟨y, HY⟩ : ∃ y, Hid (mco cs k = y) := ⟨_, rfl⟩
    obtain ⟨L, HL⟩ : ∃ L, Hid (mln cs k = L) := ⟨_, rfl⟩
    rw [HY.out] at c1 HDEF
    rw [HZ.out] at c2 HDEF
    rw [HL.out] at c0 HDEF HIL HLm
    have hLm : L ≤ 1048576 := HLm.out
    go_upto_region 6 with fail
    obtain ⟨X2, hX2⟩ : ∃ X2, Hid (wr.alloc (.cells #[.slice la L lc, .int .i64 y, .bool z] 52) = X2) := ⟨_, rfl⟩
    have HX2 : Hid (Below wr.heap.size wr X2) := by show Below _ _ _; rw [← hX2.out]; exact (Below.refl _ _).alloc (Nat.le_refl _) _
    have OX := row_of wr #[.slice la L lc, .int .i64 y, .bool z] 52
    rw [hX2.out] at OX
    have HOX : Hid (X2.rowIs wr.heap.size 52 3 (rowF [.slice la L lc, .int .i64 y, .bool z])) := OX
    rw [hX2.out]
    clear r0 r1 r2 rl0 RW OX c0 c1 c2 hX2
    have HB2 : Hid (Below W.heap.size W X2) := HB.out.trans (HX2.out.mono HB.out.size)
    have HR2 : Hid (X2.rowIs W.heap.size 25 3 (rowF [.slice (some ⟨b, o, none⟩) n cap, .slice ra 2 rc, .bool on])) := HRr.out.of_block (HX2.out.block _ HRr.out.lt)
    have HI2 : Hid (Ints X2 la (mls cs k)) := HI.out.kept HX2.out
    clear HRr HI HX2 HB
    generalize wr.heap.size = ob at HOX ⊢
    have RW := HR2.out
    have r0 : X2.cell? ⟨W.heap.size, 0, none⟩ = some (.slice (some ⟨b, o, none⟩) n cap) := RW.cell (i := 0) (by decide)
    have r1 : X2.cell? ⟨W.heap.size, 1, none⟩ = some (.slice ra 2 rc) := RW.cell (i := 1) (by decide)
    have r2 : X2.cell? ⟨W.heap.size, 2, none⟩ = some (.bool on) := RW.cell (i := 2) (by decide)
    have rl0 := RW.lt
    have RO := HOX.out
    have e0 : X2.cell? ⟨ob, 0, none⟩ = some (.slice la L lc) := RO.cell (i := 0) (by decide)
    have e1 : X2.cell? ⟨ob, 1, none⟩ = some (.int .i64 y) := RO.cell (i := 1) (by decide)
    have e2 : X2.cell? ⟨ob, 2, none⟩ = some (.bool z) := RO.cell (i := 2) (by decide)
    have el := RO.lt
    have hin2 := range_quiet (n := y) (lo := 0) (hi := 2) rfl X2
    by_cases l2 : L = 2
    rotate_left
    · have HE : Hid (R = false) := HFk.out (fun q => l2 (HDEF.out.1 q).1)
      have lI : (L : Int) ≠ 2 := by omega
      have d3 : ((L : Int) == 2) = false := by simpa using lI
      have d4 : ((L : Int) != 2) = true := by simpa using lI
      have d6 : (L == 2) = false := by simpa using l2
      go_wp2
      go_ret
      exact ⟨by rw [HE.out]; rfl, HB2.out⟩
    subst l2
    by_cases hyr : 0 ≤ y ∧ y ≤ 2
    rotate_left
    · have HE : Hid (R = false) := HFk.out (fun q => hyr (HDEF.out.1 q).2.1)
      rw [decide_eq_false hyr] at hin2
      clear hyr
      go_wp2_with (go_at_call 30; refine hin2.mono ?_; rintro e w' ⟨rfl, hw⟩; rw [hw]; clear hw w')
      go_ret
      exact ⟨by rw [HE.out]; rfl, HB2.out⟩
    rw [decide_eq_true hyr] at hin2
    by_cases hzy : (z = true ∨ on = false) ∧ y ≠ 0
    · have HE : Hid (R = false) := HFk.out (fun q => hzy.2 ((HDEF.out.1 q).2.2.1 hzy.1))
      have hy0 := hzy.2
      have d0 : (y == 0) = false := by simpa using hy0
      have d1 : (y != 0) = true := by simpa using hy0
      have d2 : decide (y = 0) = false := decide_eq_false hy0
      have hzo := hzy.1
      clear hzy hyr
      cases z
      · have ho : on = false := hzo.resolve_left (by simp)
        subst ho
        clear hzo
        go_wp2_with (go_at_call 30; refine hin2.mono ?_; rintro e w' ⟨rfl, hw⟩; rw [hw]; clear hw w')
        go_ret
        exact ⟨by rw [HE.out]; rfl, HB2.out⟩
      · clear hzo
        go_wp2_with (go_at_call 30; refine hin2.mono ?_; rintro e w' ⟨rfl, hw⟩; rw [hw]; clear hw w')
        go_ret
        exact ⟨by rw [HE.out]; rfl, HB2.out⟩
    have HZY : Hid ((z = true ∨ on = false) → y = 0) := fun q => by
      by_cases r : y = 0
      · exact r
      · exact absurd ⟨q, r⟩ hzy
    obtain ⟨zs, HZS⟩ : ∃ zs, Hid (mls cs k = zs) := ⟨_, rfl⟩
    rw [HZS.out] at HIL HI2 HDEF
    obtain ⟨LZ, LC, HLZ, HLC⟩ : ∃ LZ LC : Int → Prop, (∀ x, LZ x ↔ (z = true → x = -1)) ∧ (∀ x, LC x ↔ (y = 2 → colC (mco cs) x ≠ 0)) := ⟨_, _, fun x => Iff.rfl, fun x => Iff.rfl⟩
    obtain ⟨LB, HLB, HDONE, HFJ⟩ : ∃ LB : Int → Prop, Hid (∀ x, LB x ↔ (cellB (mfr cs) n x = true ∧ LZ x ∧ LC x)) ∧ Hid ((∀ j, j < 2 → LB (zs.getD j 0)) → ∀ j, j < k + 1 → CellOk cs n rs on j) ∧ Hid (∀ j, j < 2 → ¬ LB (zs.getD j 0) → R = false) := ⟨fun x => (cellB (mfr cs) n x = true ∧ LZ x ∧ LC x), fun x => Iff.rfl, fun q => HYk.out (HDEF.out.2 ⟨rfl, hyr, HZY.out, fun j hj => ⟨(q j hj).1, (HLZ _).1 (q j hj).2.1, (HLC _).1 (q j hj).2.2⟩⟩), fun j hj q => HFk.out (fun r => q (by
      have w := (HDEF.out.1 r).2.2.2 j hj
      exact ⟨w.1, (HLZ _).2 w.2.1, (HLC _).2 w.2.2⟩))⟩
    clear hzy HDEF HFk HYk HYES HNOC HNOR
    cases z
    · by_cases hon : on = false
      · subst hon
        have hy0 : y = 0 := HZY.out (Or.inr rfl)
        subst hy0
        have HZ1 : Hid (∀ x, LZ x) := fun x => (HLZ x).2 (fun q => by cases q)
        have HC1 : Hid (∀ x, LC x) := fun x => (HLC x).2 (fun q => by cases q)
        clear HLZ HLC
        go_wp2_with (go_at_call 30; refine hin2.mono ?_; rintro e w' ⟨rfl, hw⟩; rw [hw]; clear hw w')
        clear r0 r1 r2 rl0 e0 e1 RW RO
        clear e2 el
        go_loopw [54] (fun vj wr => ∃ j : Nat, j ≤ 2 ∧ vj = .int .i64 j ∧ Hid (∀ i, i < j → LB (zs.getD i 0)) ∧ Hid (wr.rowIs W.heap.size 25 3 (rowF [.slice (some ⟨b, o, none⟩) n cap, .slice ra 2 rc, .bool false])) ∧ Hid (wr.rowIs ob 52 3 (rowF [.slice la 2 lc, .int .i64 0, .bool false])) ∧ Hid (Below W.heap.size W wr) ∧ Hid (Ints wr la zs)) (fun vj _ => 2 - (intOf vj).toNat)
        case atStart => exact ⟨0, by omega, rfl, fun j hj => by omega, HR2, HOX, HB2, HI2⟩
        case round =>
          obtain ⟨j, hj, rfl, HJ, HIN, OIN, BIN, IIN⟩ := hrel
          by_cases hjl : j < 2
          rotate_left
          · have HN1 := HDONE.out (fun i hi => HJ.out i (by omega))
            have HNH : Hid (∀ j, j < k + 1 → CellOk cs n rs false j) := HN1
            clear HN1
            go_wp2
            go_roundw
            case rel => exact ⟨k + 1, by omega, by go_num, HNH, HIN, BIN⟩
            case measure => simp [intOf]; omega
          have hjI : (j : Int) < 2 := by omega
          obtain ⟨b', o', ha', hx0⟩ := IIN.out.at (Below.refl _ _) (k := j) (by rw [HIL.out]; exact hjl)
          subst ha'
          have HNOH0 : Hid (¬ LB (zs.getD j 0) → R = false) := HFJ.out j hjl
          have HNX : Hid (LB (zs.getD j 0) → ∀ i, i < j + 1 → LB (zs.getD i 0)) := fun q i hi => by
            by_cases e : i = j
            · subst e; exact q
            · exact HJ.out i (by omega)
          have HDF := HLB.out (zs.getD j 0)
          have HDF2 : Hid (LB (zs.getD j 0) ↔ _) := HDF
          have hbw : b' < wr.heap.size := by
            rcases IIN.out with q | ⟨b2, o2, e, hl, _⟩
            · rw [q] at HIL; have := HIL.out; cases this
            · cases e; exact hl
          have hcc := spec_cell15 (some ⟨b, o, none⟩) n cap ra 2 rc false cs (zs.getD j 0) c wr hf hn (h.out.kept BIN.out)
          have HCO : Hid (∀ w1, Below W.heap.size W w1 → cellB (mfr cs) n (zs.getD j 0) = true → Calls Try.prog 39 #[.agg #[.slice (some ⟨b, o, none⟩) n cap, .slice ra 2 rc, .bool false], .int .i64 (zs.getD j 0)] w1 fun e W' => e = .returned (.int .i64 (colC (mco cs) (zs.getD j 0))) ∧ Below w1.heap.size w1 W') := fun w1 q q2 => spec_color15 (some ⟨b, o, none⟩) n cap ra 2 rc false cs (zs.getD j 0) c w1 hf hn (h.out.kept q) (by
            rcases cellB_out q2 with r | ⟨j, r, hj, _⟩
            · exact Or.inl (by omega)
            · exact Or.inr ⟨j, r, hj⟩)
          clear HDF
          obtain ⟨x, HXX⟩ : ∃ x, Hid (zs.getD j 0 = x) := ⟨_, rfl⟩
          rw [HXX.out] at hx0 hcc HCO HDF2 HNX HNOH0
          have RW := HIN.out
          have r0 : wr.cell? ⟨W.heap.size, 0, none⟩ = some (.slice (some ⟨b, o, none⟩) n cap) := RW.cell (i := 0) (by decide)
          have r1 : wr.cell? ⟨W.heap.size, 1, none⟩ = some (.slice ra 2 rc) := RW.cell (i := 1) (by decide)
          have r2 : wr.cell? ⟨W.heap.size, 2, none⟩ = some (.bool false) := RW.cell (i := 2) (by decide)
          have rl0 := RW.lt
          have RO := OIN.out
          have e1 : wr.cell? ⟨ob, 1, none⟩ = some (.int .i64 0) := RO.cell (i := 1) (by decide)
          have e2 : wr.cell? ⟨ob, 2, none⟩ = some (.bool false) := RO.cell (i := 2) (by decide)
          have el := RO.lt
          cases hcb : cellB (mfr cs) n x
          · have HE : Hid (R = false) := HNOH0.out (fun q => by have := (HDF2.out.1 q).1; rw [hcb] at this; cases this)
            rw [hcb] at hcc
            go_wp2_with fail
            refine hcc.mono ?_
            rintro e w1 ⟨rfl, hB1⟩
            have B1 : Hid (Below W.heap.size W w1) := BIN.out.trans (hB1.mono BIN.out.size)
            clear hB1 hcc r0 r1 r2 e1 e2
            go_wp2
            go_ret
            exact ⟨by rw [HE.out]; rfl, B1.out⟩
          rw [hcb] at hcc
          have HLBx : Hid (∀ i, i < j + 1 → LB (zs.getD i 0)) := HNX.out (HDF2.out.2 ⟨hcb, HZ1.out _, HC1.out _⟩)
          clear hcb
          go_wp2_with fail
          refine hcc.mono ?_
          rintro e w1 ⟨rfl, hB1⟩
          have B1 : Hid (Below W.heap.size W w1) := BIN.out.trans (hB1.mono BIN.out.size)
          have R1 : Hid (w1.rowIs W.heap.size 25 3 (rowF [.slice (some ⟨b, o, none⟩) n cap, .slice ra 2 rc, .bool false])) := HIN.out.of_block (hB1.block _ HIN.out.lt)
          have O1 : Hid (w1.rowIs ob 52 3 (rowF [.slice (some ⟨b', o', none⟩) 2 lc, .int .i64 0, .bool false])) := OIN.out.of_block (hB1.block _ OIN.out.lt)
          have I1 : Hid (Ints w1 (some ⟨b', o', none⟩) zs) := IIN.out.kept hB1
          clear hB1 hcc r0 r1 r2 e1 e2 RW RO rl0 el
          have s0 : w1.cell? ⟨W.heap.size, 0, none⟩ = some (.slice (some ⟨b, o, none⟩) n cap) := R1.out.cell (i := 0) (by decide)
          have s1 : w1.cell? ⟨W.heap.size, 1, none⟩ = some (.slice ra 2 rc) := R1.out.cell (i := 1) (by decide)
          have s2 : w1.cell? ⟨W.heap.size, 2, none⟩ = some (.bool false) := R1.out.cell (i := 2) (by decide)
          have sl := R1.out.lt
          have e1 : w1.cell? ⟨ob, 1, none⟩ = some (.int .i64 0) := O1.out.cell (i := 1) (by decide)
          have e2 : w1.cell? ⟨ob, 2, none⟩ = some (.bool false) := O1.out.cell (i := 2) (by decide)
          have el := O1.out.lt
          go_wp2
          go_roundw
          case rel => exact ⟨j + 1, by omega, by go_num, HLBx, R1, O1, B1, I1⟩
          case measure => simp [intOf]; omega
      have hon : on = true := by simpa using hon
      subst hon
      by_cases hy2 : y = 2
      · subst hy2
        have HZ1 : Hid (∀ x, LZ x) := fun x => (HLZ x).2 (fun q => by cases q)
        have HC1 : Hid (∀ x, LC x ↔ colC (mco cs) x ≠ 0) := fun x => ⟨fun q => (HLC x).1 q rfl, fun q => (HLC x).2 (fun _ => q)⟩
        clear HLZ HLC
        go_wp2_with (go_at_call 30; refine hin2.mono ?_; rintro e w' ⟨rfl, hw⟩; rw [hw]; clear hw w')
        clear r0 r1 r2 rl0 e0 e1 RW RO
        clear e2 el
        go_loopw [54] (fun vj wr => ∃ j : Nat, j ≤ 2 ∧ vj = .int .i64 j ∧ Hid (∀ i, i < j → LB (zs.getD i 0)) ∧ Hid (wr.rowIs W.heap.size 25 3 (rowF [.slice (some ⟨b, o, none⟩) n cap, .slice ra 2 rc, .bool true])) ∧ Hid (wr.rowIs ob 52 3 (rowF [.slice la 2 lc, .int .i64 2, .bool false])) ∧ Hid (Below W.heap.size W wr) ∧ Hid (Ints wr la zs)) (fun vj _ => 2 - (intOf vj).toNat)
        case atStart => exact ⟨0, by omega, rfl, fun j hj => by omega, HR2, HOX, HB2, HI2⟩
        case round =>
          obtain ⟨j, hj, rfl, HJ, HIN, OIN, BIN, IIN⟩ := hrel
          by_cases hjl : j < 2
          rotate_left
          · have HN1 := HDONE.out (fun i hi => HJ.out i (by omega))
            have HNH : Hid (∀ j, j < k + 1 → CellOk cs n rs true j) := HN1
            clear HN1
            go_wp2
            go_roundw
            case rel => exact ⟨k + 1, by omega, by go_num, HNH, HIN, BIN⟩
            case measure => simp [intOf]; omega
          have hjI : (j : Int) < 2 := by omega
          obtain ⟨b', o', ha', hx0⟩ := IIN.out.at (Below.refl _ _) (k := j) (by rw [HIL.out]; exact hjl)
          subst ha'
          have HNOH0 : Hid (¬ LB (zs.getD j 0) → R = false) := HFJ.out j hjl
          have HNX : Hid (LB (zs.getD j 0) → ∀ i, i < j + 1 → LB (zs.getD i 0)) := fun q i hi => by
            by_cases e : i = j
            · subst e; exact q
            · exact HJ.out i (by omega)
          have HDF := HLB.out (zs.getD j 0)
          have HDF2 : Hid (LB (zs.getD j 0) ↔ _) := HDF
          have hbw : b' < wr.heap.size := by
            rcases IIN.out with q | ⟨b2, o2, e, hl, _⟩
            · rw [q] at HIL; have := HIL.out; cases this
            · cases e; exact hl
          have hcc := spec_cell15 (some ⟨b, o, none⟩) n cap ra 2 rc true cs (zs.getD j 0) c wr hf hn (h.out.kept BIN.out)
          have HCO : Hid (∀ w1, Below W.heap.size W w1 → cellB (mfr cs) n (zs.getD j 0) = true → Calls Try.prog 39 #[.agg #[.slice (some ⟨b, o, none⟩) n cap, .slice ra 2 rc, .bool true], .int .i64 (zs.getD j 0)] w1 fun e W' => e = .returned (.int .i64 (colC (mco cs) (zs.getD j 0))) ∧ Below w1.heap.size w1 W') := fun w1 q q2 => spec_color15 (some ⟨b, o, none⟩) n cap ra 2 rc true cs (zs.getD j 0) c w1 hf hn (h.out.kept q) (by
            rcases cellB_out q2 with r | ⟨j, r, hj, _⟩
            · exact Or.inl (by omega)
            · exact Or.inr ⟨j, r, hj⟩)
          clear HDF
          obtain ⟨x, HXX⟩ : ∃ x, Hid (zs.getD j 0 = x) := ⟨_, rfl⟩
          rw [HXX.out] at hx0 hcc HCO HDF2 HNX HNOH0
          have RW := HIN.out
          have r0 : wr.cell? ⟨W.heap.size, 0, none⟩ = some (.slice (some ⟨b, o, none⟩) n cap) := RW.cell (i := 0) (by decide)
          have r1 : wr.cell? ⟨W.heap.size, 1, none⟩ = some (.slice ra 2 rc) := RW.cell (i := 1) (by decide)
          have r2 : wr.cell? ⟨W.heap.size, 2, none⟩ = some (.bool true) := RW.cell (i := 2) (by decide)
          have rl0 := RW.lt
          have RO := OIN.out
          have e1 : wr.cell? ⟨ob, 1, none⟩ = some (.int .i64 2) := RO.cell (i := 1) (by decide)
          have e2 : wr.cell? ⟨ob, 2, none⟩ = some (.bool false) := RO.cell (i := 2) (by decide)
          have el := RO.lt
          cases hcb : cellB (mfr cs) n x
          · have HE : Hid (R = false) := HNOH0.out (fun q => by have := (HDF2.out.1 q).1; rw [hcb] at this; cases this)
            rw [hcb] at hcc
            go_wp2_with fail
            refine hcc.mono ?_
            rintro e w1 ⟨rfl, hB1⟩
            have B1 : Hid (Below W.heap.size W w1) := BIN.out.trans (hB1.mono BIN.out.size)
            clear hB1 hcc r0 r1 r2 e1 e2
            go_wp2
            go_ret
            exact ⟨by rw [HE.out]; rfl, B1.out⟩
          rw [hcb] at hcc
          have HCO2 : Hid (∀ w1, Below W.heap.size W w1 → _) := fun w1 q => HCO.out w1 q hcb
          obtain ⟨cc, HCC⟩ : ∃ cc, Hid (colC (mco cs) x = cc) := ⟨_, rfl⟩
          have HC2 : Hid (LC x ↔ colC (mco cs) x ≠ 0) := HC1.out x
          rw [HCC.out] at HCO2 HC2
          go_wp2_with fail
          refine hcc.mono ?_
          rintro e w1 ⟨rfl, hB1⟩
          have B1 : Hid (Below W.heap.size W w1) := BIN.out.trans (hB1.mono BIN.out.size)
          have R1 : Hid (w1.rowIs W.heap.size 25 3 (rowF [.slice (some ⟨b, o, none⟩) n cap, .slice ra 2 rc, .bool true])) := HIN.out.of_block (hB1.block _ HIN.out.lt)
          have O1 : Hid (w1.rowIs ob 52 3 (rowF [.slice (some ⟨b', o', none⟩) 2 lc, .int .i64 2, .bool false])) := OIN.out.of_block (hB1.block _ OIN.out.lt)
          have I1 : Hid (Ints w1 (some ⟨b', o', none⟩) zs) := IIN.out.kept hB1
          clear hB1 hcc r0 r1 r2 e1 e2 RW RO rl0 el
          have s0 : w1.cell? ⟨W.heap.size, 0, none⟩ = some (.slice (some ⟨b, o, none⟩) n cap) := R1.out.cell (i := 0) (by decide)
          have s1 : w1.cell? ⟨W.heap.size, 1, none⟩ = some (.slice ra 2 rc) := R1.out.cell (i := 1) (by decide)
          have s2 : w1.cell? ⟨W.heap.size, 2, none⟩ = some (.bool true) := R1.out.cell (i := 2) (by decide)
          have sl := R1.out.lt
          have e1 : w1.cell? ⟨ob, 1, none⟩ = some (.int .i64 2) := O1.out.cell (i := 1) (by decide)
          have e2 : w1.cell? ⟨ob, 2, none⟩ = some (.bool false) := O1.out.cell (i := 2) (by decide)
          have el := O1.out.lt
          have hco1 := HCO2.out w1 B1.out
          go_wp2_with fail
          refine hco1.mono ?_
          rintro e w2 ⟨rfl, hB2⟩
          have B2 : Hid (Below W.heap.size W w2) := B1.out.trans (hB2.mono B1.out.size)
          have R2 : Hid (w2.rowIs W.heap.size 25 3 (rowF [.slice (some ⟨b, o, none⟩) n cap, .slice ra 2 rc, .bool true])) := R1.out.of_block (hB2.block _ R1.out.lt)
          have O2 : Hid (w2.rowIs ob 52 3 (rowF [.slice (some ⟨b', o', none⟩) 2 lc, .int .i64 2, .bool false])) := O1.out.of_block (hB2.block _ O1.out.lt)
          have I2 : Hid (Ints w2 (some ⟨b', o', none⟩) zs) := I1.out.kept hB2
          clear hB2 hco1 s0 s1 s2 e1 e2 sl el
          by_cases hc0 : cc = 0
          · have HE : Hid (R = false) := HNOH0.out (fun q => (HC2.out.1 (HDF2.out.1 q).2.2) hc0)
            subst hc0
            clear hcb
            go_wp2
            go_ret
            exact ⟨by rw [HE.out]; rfl, B2.out⟩
          have HLBx : Hid (∀ i, i < j + 1 → LB (zs.getD i 0)) := HNX.out (HDF2.out.2 ⟨hcb, HZ1.out _, HC2.out.2 hc0⟩)
          have dc0 : (cc == 0) = false := by simpa using hc0
          have dc1 : decide (cc = 0) = false := decide_eq_false hc0
          clear hcb
          go_wp2
          go_roundw
          case rel => exact ⟨j + 1, by omega, by go_num, HLBx, R2, O2, B2, I2⟩
          case measure => simp [intOf]; omega
      have dy0 : (y == 2) = false := by simpa using hy2
      have dy1 : decide (y = 2) = false := decide_eq_false hy2
      have HZ1 : Hid (∀ x, LZ x) := fun x => (HLZ x).2 (fun q => by cases q)
      have HC1 : Hid (∀ x, LC x) := fun x => (HLC x).2 (fun q => absurd q hy2)
      clear HLZ HLC
      go_wp2_with (go_at_call 30; refine hin2.mono ?_; rintro e w' ⟨rfl, hw⟩; rw [hw]; clear hw w')
      clear r0 r1 r2 rl0 e0 e1 RW RO
      clear e2 el
      go_loopw [54] (fun vj wr => ∃ j : Nat, j ≤ 2 ∧ vj = .int .i64 j ∧ Hid (∀ i, i < j → LB (zs.getD i 0)) ∧ Hid (wr.rowIs W.heap.size 25 3 (rowF [.slice (some ⟨b, o, none⟩) n cap, .slice ra 2 rc, .bool true])) ∧ Hid (wr.rowIs ob 52 3 (rowF [.slice la 2 lc, .int .i64 y, .bool false])) ∧ Hid (Below W.heap.size W wr) ∧ Hid (Ints wr la zs)) (fun vj _ => 2 - (intOf vj).toNat)
      case atStart => exact ⟨0, by omega, rfl, fun j hj => by omega, HR2, HOX, HB2, HI2⟩
      case round =>
        obtain ⟨j, hj, rfl, HJ, HIN, OIN, BIN, IIN⟩ := hrel
        by_cases hjl : j < 2
        rotate_left
        · have HN1 := HDONE.out (fun i hi => HJ.out i (by omega))
          have HNH : Hid (∀ j, j < k + 1 → CellOk cs n rs true j) := HN1
          clear HN1
          go_wp2
          go_roundw
          case rel => exact ⟨k + 1, by omega, by go_num, HNH, HIN, BIN⟩
          case measure => simp [intOf]; omega
        have hjI : (j : Int) < 2 := by omega
        obtain ⟨b', o', ha', hx0⟩ := IIN.out.at (Below.refl _ _) (k := j) (by rw [HIL.out]; exact hjl)
        subst ha'
        have HNOH0 : Hid (¬ LB (zs.getD j 0) → R = false) := HFJ.out j hjl
        have HNX : Hid (LB (zs.getD j 0) → ∀ i, i < j + 1 → LB (zs.getD i 0)) := fun q i hi => by
          by_cases e : i = j
          · subst e; exact q
          · exact HJ.out i (by omega)
        have HDF := HLB.out (zs.getD j 0)
        have HDF2 : Hid (LB (zs.getD j 0) ↔ _) := HDF
        have hbw : b' < wr.heap.size := by
          rcases IIN.out with q | ⟨b2, o2, e, hl, _⟩
          · rw [q] at HIL; have := HIL.out; cases this
          · cases e; exact hl
        have hcc := spec_cell15 (some ⟨b, o, none⟩) n cap ra 2 rc true cs (zs.getD j 0) c wr hf hn (h.out.kept BIN.out)
        have HCO : Hid (∀ w1, Below W.heap.size W w1 → cellB (mfr cs) n (zs.getD j 0) = true → Calls Try.prog 39 #[.agg #[.slice (some ⟨b, o, none⟩) n cap, .slice ra 2 rc, .bool true], .int .i64 (zs.getD j 0)] w1 fun e W' => e = .returned (.int .i64 (colC (mco cs) (zs.getD j 0))) ∧ Below w1.heap.size w1 W') := fun w1 q q2 => spec_color15 (some ⟨b, o, none⟩) n cap ra 2 rc true cs (zs.getD j 0) c w1 hf hn (h.out.kept q) (by
          rcases cellB_out q2 with r | ⟨j, r, hj, _⟩
          · exact Or.inl (by omega)
          · exact Or.inr ⟨j, r, hj⟩)
        clear HDF
        obtain ⟨x, HXX⟩ : ∃ x, Hid (zs.getD j 0 = x) := ⟨_, rfl⟩
        rw [HXX.out] at hx0 hcc HCO HDF2 HNX HNOH0
        have RW := HIN.out
        have r0 : wr.cell? ⟨W.heap.size, 0, none⟩ = some (.slice (some ⟨b, o, none⟩) n cap) := RW.cell (i := 0) (by decide)
        have r1 : wr.cell? ⟨W.heap.size, 1, none⟩ = some (.slice ra 2 rc) := RW.cell (i := 1) (by decide)
        have r2 : wr.cell? ⟨W.heap.size, 2, none⟩ = some (.bool true) := RW.cell (i := 2) (by decide)
        have rl0 := RW.lt
        have RO := OIN.out
        have e1 : wr.cell? ⟨ob, 1, none⟩ = some (.int .i64 y) := RO.cell (i := 1) (by decide)
        have e2 : wr.cell? ⟨ob, 2, none⟩ = some (.bool false) := RO.cell (i := 2) (by decide)
        have el := RO.lt
        cases hcb : cellB (mfr cs) n x
        · have HE : Hid (R = false) := HNOH0.out (fun q => by have := (HDF2.out.1 q).1; rw [hcb] at this; cases this)
          rw [hcb] at hcc
          go_wp2_with fail
          refine hcc.mono ?_
          rintro e w1 ⟨rfl, hB1⟩
          have B1 : Hid (Below W.heap.size W w1) := BIN.out.trans (hB1.mono BIN.out.size)
          clear hB1 hcc r0 r1 r2 e1 e2
          go_wp2
          go_ret
          exact ⟨by rw [HE.out]; rfl, B1.out⟩
        rw [hcb] at hcc
        have HLBx : Hid (∀ i, i < j + 1 → LB (zs.getD i 0)) := HNX.out (HDF2.out.2 ⟨hcb, HZ1.out _, HC1.out _⟩)
        clear hcb
        go_wp2_with fail
        refine hcc.mono ?_
        rintro e w1 ⟨rfl, hB1⟩
        have B1 : Hid (Below W.heap.size W w1) := BIN.out.trans (hB1.mono BIN.out.size)
        have R1 : Hid (w1.rowIs W.heap.size 25 3 (rowF [.slice (some ⟨b, o, none⟩) n cap, .slice ra 2 rc, .bool true])) := HIN.out.of_block (hB1.block _ HIN.out.lt)
        have O1 : Hid (w1.rowIs ob 52 3 (rowF [.slice (some ⟨b', o', none⟩) 2 lc, .int .i64 y, .bool false])) := OIN.out.of_block (hB1.block _ OIN.out.lt)
        have I1 : Hid (Ints w1 (some ⟨b', o', none⟩) zs) := IIN.out.kept hB1
        clear hB1 hcc r0 r1 r2 e1 e2 RW RO rl0 el
        have s0 : w1.cell? ⟨W.heap.size, 0, none⟩ = some (.slice (some ⟨b, o, none⟩) n cap) := R1.out.cell (i := 0) (by decide)
        have s1 : w1.cell? ⟨W.heap.size, 1, none⟩ = some (.slice ra 2 rc) := R1.out.cell (i := 1) (by decide)
        have s2 : w1.cell? ⟨W.heap.size, 2, none⟩ = some (.bool true) := R1.out.cell (i := 2) (by decide)
        have sl := R1.out.lt
        have e1 : w1.cell? ⟨ob, 1, none⟩ = some (.int .i64 y) := O1.out.cell (i := 1) (by decide)
        have e2 : w1.cell? ⟨ob, 2, none⟩ = some (.bool false) := O1.out.cell (i := 2) (by decide)
        have el := O1.out.lt
        go_wp2
        go_roundw
        case rel => exact ⟨j + 1, by omega, by go_num, HLBx, R1, O1, B1, I1⟩
        case measure => simp [intOf]; omega
    · have hy0 : y = 0 := HZY.out (Or.inl rfl)
      subst hy0
      have HZ1 : Hid (∀ x, LZ x ↔ x = -1) := fun x => ⟨fun q => (HLZ x).1 q rfl, fun q => (HLZ x).2 (fun _ => q)⟩
      have HC1 : Hid (∀ x, LC x) := fun x => (HLC x).2 (fun q => by cases q)
      clear HLZ HLC
      go_wp2_with (go_at_call 30; refine hin2.mono ?_; rintro e w' ⟨rfl, hw⟩; rw [hw]; clear hw w')
      clear r0 r1 r2 rl0 e0 e1 RW RO
      clear e2 el
      go_loopw [54] (fun vj wr => ∃ j : Nat, j ≤ 2 ∧ vj = .int .i64 j ∧ Hid (∀ i, i < j → LB (zs.getD i 0)) ∧ Hid (wr.rowIs W.heap.size 25 3 (rowF [.slice (some ⟨b, o, none⟩) n cap, .slice ra 2 rc, .bool on])) ∧ Hid (wr.rowIs ob 52 3 (rowF [.slice la 2 lc, .int .i64 0, .bool true])) ∧ Hid (Below W.heap.size W wr) ∧ Hid (Ints wr la zs)) (fun vj _ => 2 - (intOf vj).toNat)
      case atStart => exact ⟨0, by omega, rfl, fun j hj => by omega, HR2, HOX, HB2, HI2⟩
      case round =>
        obtain ⟨j, hj, rfl, HJ, HIN, OIN, BIN, IIN⟩ := hrel
        by_cases hjl : j < 2
        rotate_left
        · have HN1 := HDONE.out (fun i hi => HJ.out i (by omega))
          have HNH : Hid (∀ j, j < k + 1 → CellOk cs n rs on j) := HN1
          clear HN1
          go_wp2
          go_roundw
          case rel => exact ⟨k + 1, by omega, by go_num, HNH, HIN, BIN⟩
          case measure => simp [intOf]; omega
        have hjI : (j : Int) < 2 := by omega
        obtain ⟨b', o', ha', hx0⟩ := IIN.out.at (Below.refl _ _) (k := j) (by rw [HIL.out]; exact hjl)
        subst ha'
        have HNOH0 : Hid (¬ LB (zs.getD j 0) → R = false) := HFJ.out j hjl
        have HNX : Hid (LB (zs.getD j 0) → ∀ i, i < j + 1 → LB (zs.getD i 0)) := fun q i hi => by
          by_cases e : i = j
          · subst e; exact q
          · exact HJ.out i (by omega)
        have HDF := HLB.out (zs.getD j 0)
        have HDF2 : Hid (LB (zs.getD j 0) ↔ _) := HDF
        have hbw : b' < wr.heap.size := by
          rcases IIN.out with q | ⟨b2, o2, e, hl, _⟩
          · rw [q] at HIL; have := HIL.out; cases this
          · cases e; exact hl
        have hcc := spec_cell15 (some ⟨b, o, none⟩) n cap ra 2 rc on cs (zs.getD j 0) c wr hf hn (h.out.kept BIN.out)
        have HCO : Hid (∀ w1, Below W.heap.size W w1 → cellB (mfr cs) n (zs.getD j 0) = true → Calls Try.prog 39 #[.agg #[.slice (some ⟨b, o, none⟩) n cap, .slice ra 2 rc, .bool on], .int .i64 (zs.getD j 0)] w1 fun e W' => e = .returned (.int .i64 (colC (mco cs) (zs.getD j 0))) ∧ Below w1.heap.size w1 W') := fun w1 q q2 => spec_color15 (some ⟨b, o, none⟩) n cap ra 2 rc on cs (zs.getD j 0) c w1 hf hn (h.out.kept q) (by
          rcases cellB_out q2 with r | ⟨j, r, hj, _⟩
          · exact Or.inl (by omega)
          · exact Or.inr ⟨j, r, hj⟩)
        clear HDF
        obtain ⟨x, HXX⟩ : ∃ x, Hid (zs.getD j 0 = x) := ⟨_, rfl⟩
        rw [HXX.out] at hx0 hcc HCO HDF2 HNX HNOH0
        have RW := HIN.out
        have r0 : wr.cell? ⟨W.heap.size, 0, none⟩ = some (.slice (some ⟨b, o, none⟩) n cap) := RW.cell (i := 0) (by decide)
        have r1 : wr.cell? ⟨W.heap.size, 1, none⟩ = some (.slice ra 2 rc) := RW.cell (i := 1) (by decide)
        have r2 : wr.cell? ⟨W.heap.size, 2, none⟩ = some (.bool on) := RW.cell (i := 2) (by decide)
        have rl0 := RW.lt
        have RO := OIN.out
        have e1 : wr.cell? ⟨ob, 1, none⟩ = some (.int .i64 0) := RO.cell (i := 1) (by decide)
        have e2 : wr.cell? ⟨ob, 2, none⟩ = some (.bool true) := RO.cell (i := 2) (by decide)
        have el := RO.lt
        cases hcb : cellB (mfr cs) n x
        · have HE : Hid (R = false) := HNOH0.out (fun q => by have := (HDF2.out.1 q).1; rw [hcb] at this; cases this)
          rw [hcb] at hcc
          go_wp2_with fail
          refine hcc.mono ?_
          rintro e w1 ⟨rfl, hB1⟩
          have B1 : Hid (Below W.heap.size W w1) := BIN.out.trans (hB1.mono BIN.out.size)
          clear hB1 hcc r0 r1 r2 e1 e2
          go_wp2
          go_ret
          exact ⟨by rw [HE.out]; rfl, B1.out⟩
        rw [hcb] at hcc
        go_wp2_with fail
        refine hcc.mono ?_
        rintro e w1 ⟨rfl, hB1⟩
        have B1 : Hid (Below W.heap.size W w1) := BIN.out.trans (hB1.mono BIN.out.size)
        have R1 : Hid (w1.rowIs W.heap.size 25 3 (rowF [.slice (some ⟨b, o, none⟩) n cap, .slice ra 2 rc, .bool on])) := HIN.out.of_block (hB1.block _ HIN.out.lt)
        have O1 : Hid (w1.rowIs ob 52 3 (rowF [.slice (some ⟨b', o', none⟩) 2 lc, .int .i64 0, .bool true])) := OIN.out.of_block (hB1.block _ OIN.out.lt)
        have I1 : Hid (Ints w1 (some ⟨b', o', none⟩) zs) := IIN.out.kept hB1
        clear hB1 hcc r0 r1 r2 e1 e2 RW RO rl0 el
        have s0 : w1.cell? ⟨W.heap.size, 0, none⟩ = some (.slice (some ⟨b, o, none⟩) n cap) := R1.out.cell (i := 0) (by decide)
        have s1 : w1.cell? ⟨W.heap.size, 1, none⟩ = some (.slice ra 2 rc) := R1.out.cell (i := 1) (by decide)
        have s2 : w1.cell? ⟨W.heap.size, 2, none⟩ = some (.bool on) := R1.out.cell (i := 2) (by decide)
        have sl := R1.out.lt
        have e1 : w1.cell? ⟨ob, 1, none⟩ = some (.int .i64 0) := O1.out.cell (i := 1) (by decide)
        have e2 : w1.cell? ⟨ob, 2, none⟩ = some (.bool true) := O1.out.cell (i := 2) (by decide)
        have el := O1.out.lt
        by_cases hx1 : x = -1
        rotate_left
        · have HE : Hid (R = false) := HNOH0.out (fun q => hx1 ((HZ1.out _).1 (HDF2.out.1 q).2.1))
          have dx0 : (x == -1) = false := by simpa using hx1
          have dx1 : (x != -1) = true := by simpa using hx1
          have dx2 : decide (x = -1) = false := decide_eq_false hx1
          go_wp2
          go_ret
          exact ⟨by rw [HE.out]; rfl, B1.out⟩
        subst hx1
        have HLBx : Hid (∀ i, i < j + 1 → LB (zs.getD i 0)) := HNX.out (HDF2.out.2 ⟨hcb, (HZ1.out _).2 rfl, HC1.out _⟩)
        clear hcb
        go_wp2
        go_roundw
        case rel => exact ⟨j + 1, by omega, by go_num, HLBx, R1, O1, B1, I1⟩
        case measure => simp [intOf]; omega
end Go.Proofs.Ytokaibpkajloeaa.walks
