/-
  The specification's names ahead of the blocks of a flow: lists of names in a list in memory, what is needed behind a block, and the rounds until nothing is added.
-/
import Derived.Test.YtfmgbalfabpogaaProg
import Derived.Test.YtfmgbalfabpogaaLiveMath
import Derived.Test.YtfmgbalfabpogaaBackSpecX
import Derived.Test.YtfmgbalfabpogaaFlow
import Derived.Test.YtfmgbalfabpogaaFlowSpec
import Derived.WalkKit
import Derived.WalkSpells
import Derived.Below
import Derived.Handy
import Derived.Deep.OwnRows
import Derived.Deep.RegionHeld3
namespace Go.Proofs.Ytfmgbalfabpogaa.walks
open Go.RowKit Go.Proofs.Ytfmgbalfabpogaa.math Go.Proofs.Ytfmgbalfabpogaa.ints
set_option linter.unusedVariables false
set_option maxRecDepth 100000

/-- n lists of names, told by the list of lists in block ib. -/
structure InL (w : World) (ib n : Nat) (V : Nat → Value) (s : Ls) : Prop where
  lt : ib < w.heap.size
  cell : ∀ k, k < n → w.cell? ⟨ib, k, none⟩ = some (V k) ∧ w.frozen? ⟨ib, k, none⟩ = false
  row : ∀ k, k < n → LRow w (V k) (risingTo (s k) 8)
theorem InL.kept {w w' : World} {ib n : Nat} {V : Nat → Value} {s : Ls} (h : InL w ib n V s) (hb : Below w.heap.size w w') : InL w' ib n V s :=
  ⟨Nat.lt_of_lt_of_le h.lt hb.size, fun k hk => ⟨(hb.cell (p := ⟨ib, k, none⟩) h.lt).trans (h.cell k hk).1, (hb.frozen (p := ⟨ib, k, none⟩) h.lt).trans (h.cell k hk).2⟩, fun k hk => (h.row k hk).kept hb⟩
theorem lrow_slice {w : World} {v : Value} {zs : List Int} (h : LRow w v zs) : ∃ a l c, v = .slice a l c := by
  rcases h with ⟨_, rfl⟩ | ⟨b, off, cap, rfl, _⟩
  · exact ⟨_, _, _, rfl⟩
  · exact ⟨_, _, _, rfl⟩
theorem LRow.set {w : World} {v x y : Value} {zs : List Int} {ib k : Nat} (h : LRow w v zs) (hc : w.cell? ⟨ib, k, none⟩ = some y) (hy : ∃ a l c, y = .slice a l c) : LRow (w.setCell ⟨ib, k, none⟩ x) v zs := by
  rcases h with h | ⟨b, off, cap, rfl, h1, h2, h3⟩
  · exact Or.inl h
  · refine Or.inr ⟨b, off, cap, rfl, h1, by simpa [World.setCell] using h2, fun i hi => ?_⟩
    have hne : (⟨ib, k, none⟩ : Addr) ≠ ⟨b, off + i, none⟩ := by
      intro e
      rw [e] at hc
      rw [h3 i hi] at hc
      obtain ⟨a, l, c, rfl⟩ := hy
      cases hc
    rw [World.cell?_setCell_other _ _ _ _ hne]
    exact h3 i hi
theorem rise_next {g : Nat → Bool} {s : Ls} {x : Int} (hx : 0 ≤ x) : risingTo (addS g (risingTo (s x.toNat) 8)) 8 = risingTo (fun i => g i || nextL s x i) 8 := rising_congr 8 (fun i hi => by
  unfold addS nextL
  rw [has_rising _ hi, if_neg (by omega)])
theorem rise_end {g : Nat → Bool} {s : Ls} {x : Int} (hx : x < 0) : risingTo g 8 = risingTo (fun i => g i || nextL s x i) 8 := rising_congr 8 (fun i hi => by
  unfold nextL
  rw [if_pos hx]
  simp)
/-- What has come from the first j of the two ways. -/
def wayL (s : Ls) (th el : Int) : Nat → Nat → Bool
  | 0, _ => false
  | 1, i => nextL s th i
  | _, i => nextL s th i || nextL s el i
theorem rise_test {g : Nat → Bool} {dn : Nat} (h : dn < 8) : putL (risingTo g 8) (dn : Int) = risingTo (fun i => g i || i == dn) 8 := put_rising g h
theorem rise_one (f : Nat → Bool) : ∀ j, j < (risingTo f 8).length → 0 ≤ (risingTo f 8).getD j 0 ∧ (risingTo f 8).getD j 0 ≤ 7 := fun j hj => by
  have hm : (risingTo f 8).getD j 0 ∈ risingTo f 8 := by
    simp only [List.getD, List.getElem?_eq_getElem hj, Option.getD_some]
    exact List.getElem_mem hj
  obtain ⟨i, hi, _, e⟩ := (mem_rising f _ 8).1 hm
  rw [e]
  omega

set_option maxHeartbeats 8000000 in
theorem spec_behind7 (ca : Option Addr) (len cc : Nat) (t th el : Int) (ib n icap : Nat) (V : Nat → Value) (s : Ls) (W : World) (hn : n ≤ 8) (ht : 0 ≤ t ∧ t ≤ 7) (hth : th < (n : Int)) (hel : el < (n : Int)) (h : Hid (InL W ib n V s)) :
    Calls Try.prog 39 #[.agg #[.slice ca len cc, .int .i64 t, .int .i64 th, .int .i64 el], .slice (some ⟨ib, 0, none⟩) n icap] W fun e W' => PutAns W (risingTo (fun i => (nextL s th i || nextL s el i) || (!(th == el) && i == t.toNat)) 8) e W' := by
  have hnI : (n : Int) ≤ 8 := by omega
  obtain ⟨tn, rfl⟩ := Int.eq_ofNat_of_zero_le ht.1
  have ht8 : tn < 8 := by omega
  go_enter Try.func39, Try.ntmps39
  go_wp2
  obtain ⟨X, hX⟩ : ∃ X, Hid ((W.alloc (.cells #[.slice ca len cc, .int .i64 (tn : Int), .int .i64 th, .int .i64 el] 44)).alloc (.cells #[.int .i64 th, .int .i64 el] 3) = X) := ⟨_, rfl⟩
  have HBX : Hid (Below W.heap.size W X) := by rw [← hX.out]; exact ((Below.refl _ W).alloc (Nat.le_refl _) _).alloc (by simp) _
  have x1 : X.cell? ⟨W.heap.size, 1, none⟩ = some (.int .i64 (tn : Int)) := by rw [← hX.out]; simp
  have x2 : X.cell? ⟨W.heap.size, 2, none⟩ = some (.int .i64 th) := by rw [← hX.out]; simp
  have x3 : X.cell? ⟨W.heap.size, 3, none⟩ = some (.int .i64 el) := by rw [← hX.out]; simp
  have y0 : X.cell? ⟨W.heap.size + 1, 0, none⟩ = some (.int .i64 th) := by rw [← hX.out]; simp
  have y1 : X.cell? ⟨W.heap.size + 1, 1, none⟩ = some (.int .i64 el) := by rw [← hX.out]; simp
  have hXs : W.heap.size + 1 < X.heap.size := by rw [← hX.out]; simp
  have HXX : Hid (X.cell? ⟨W.heap.size, 1, none⟩ = some (.int .i64 (tn : Int)) ∧ X.cell? ⟨W.heap.size, 2, none⟩ = some (.int .i64 th) ∧ X.cell? ⟨W.heap.size, 3, none⟩ = some (.int .i64 el) ∧ X.cell? ⟨W.heap.size + 1, 0, none⟩ = some (.int .i64 th) ∧ X.cell? ⟨W.heap.size + 1, 1, none⟩ = some (.int .i64 el)) := ⟨x1, x2, x3, y0, y1⟩
  have h0 := h
  have h : Hid (InL X ib n V s) := h0.out.kept HBX.out
  obtain ⟨gw, hgw⟩ : ∃ gw, Hid (W.heap.size = gw) := ⟨_, rfl⟩
  rw [hX.out]
  rw [hgw.out] at HXX hXs ⊢
  clear x1 x2 x3 y0 y1 h0
  go_loopw [5, 16] (fun vt vi wr => ∃ j : Nat, j ≤ 2 ∧ vi = .int .i64 j ∧ Hid (LRow wr vt (risingTo (wayL s th el j) 8)) ∧ Hid (Below X.heap.size X wr)) (fun _ vi _ => 2 - (intOf vi).toNat)
  case atStart => exact ⟨0, by omega, rfl, Or.inl ⟨by rfl, rfl⟩, Below.refl _ _⟩
  case round =>
    obtain ⟨j, hj, rfl, HO, HB⟩ := hrel
    have hwx := HB.out.size
    by_cases hlt : j < 2
    · obtain rfl | rfl : j = 0 ∨ j = 1 := by omega
      · rw [show ((0 : Nat) : Int) = (0 : Int) from rfl]
        have y0 : wr.cell? ⟨gw + 1, 0, none⟩ = some (.int .i64 th) := (HB.out.cell (p := ⟨gw + 1, 0, none⟩) hXs).trans HXX.out.2.2.2.1
        by_cases hneg : th < 0
        · have HE : Hid (risingTo (wayL s th el 0) 8 = risingTo (wayL s th el 1) 8) := (rise_end (s := s) hneg).trans (rising_congr 8 (fun i _ => by simp [wayL]))
          go_wp2
          go_roundw
          case rel => exact ⟨0 + 1, by omega, by go_num, by show LRow _ _ _; rw [← HE.out]; exact HO.out, HB⟩
          case measure => simp [intOf]
        · have hpos : 0 ≤ th := by omega
          obtain ⟨xn, hxn⟩ := Int.eq_ofNat_of_zero_le hpos
          rw [hxn] at y0
          have hxl : xn < n := by omega
          have hxI : (xn : Int) < (n : Int) := by omega
          have HI := h.out.kept HB.out
          have cx := (HI.cell xn hxl).1
          have HRx : Hid (LRow wr (V xn) (risingTo (s xn) 8)) := HI.row xn hxl
          obtain ⟨xa, xc, hxv, hxI2⟩ := HRx.out.ints
          have HXI : Hid (Ints wr xa (risingTo (s xn) 8)) := hxI2
          rw [hxv] at cx
          have HE : Hid (risingTo (addS (wayL s th el 0) (risingTo (s xn) 8)) 8 = risingTo (wayL s th el 1) 8) := by have := rise_next (g := wayL s th el 0) (s := s) hpos; rw [show th.toNat = xn by omega] at this; exact this.trans (rising_congr 8 (fun i _ => by simp [wayL]))
          obtain ⟨us, hus⟩ : ∃ us, Hid (risingTo (s xn) 8 = us) := ⟨_, rfl⟩
          have HU : Hid (∀ j, j < us.length → 0 ≤ us.getD j 0 ∧ us.getD j 0 ≤ 7) := by show ∀ j, _ → _; rw [← hus.out]; exact rise_one _
          rw [hus.out] at cx HXI HE
          have hul : us.length ≤ 8 := by rw [← hus.out]; exact rising_len _ 8
          have HXN : Hid (th = (xn : Int)) := hxn
          clear hxI2 HI hneg hxn
          go_wp2
          go_loopw [5, 27] (fun vt vi wr2 => ∃ j : Nat, j ≤ us.length ∧ vi = .int .i64 j ∧ Hid (LRow wr2 vt (risingTo (addS (wayL s th el 0) (us.take j)) 8)) ∧ Hid (Below wr.heap.size wr wr2)) (fun _ vi _ => us.length - (intOf vi).toNat)
          case atStart => exact ⟨0, Nat.zero_le _, rfl, by show LRow _ _ _; rw [adds_start]; exact HO.out, Below.refl _ _⟩
          case round =>
            obtain ⟨j, hj, rfl, HO2, HJ⟩ := hrel
            by_cases hjl : j < us.length
            · obtain ⟨ub, uo, hua, hcell⟩ := HXI.out.at HJ.out hjl
              subst hua
              obtain ⟨m0, m7⟩ := HU.out j hjl
              have HTN : Hid (us.take (j + 1) = us.take j ++ [us.getD j 0]) := take_next hjl
              generalize us.getD j 0 = mm at hcell m0 m7 HTN
              obtain ⟨nn, rfl⟩ := Int.eq_ofNat_of_zero_le m0
              have h8 : nn < 8 := by omega
              have hjs := HJ.out.size
              have HP : Hid (putL (risingTo (addS (wayL s th el 0) (us.take j)) 8) (nn : Int) = risingTo (addS (wayL s th el 0) (us.take (j + 1))) 8) := by show _ = _; rw [HTN.out]; exact adds_put h8
              go_wp2_with fail
              refine (spec_put _ _ _ _ HO2.out (rise_1000 _)).mono ?_
              rw [HP.out]
              rintro e w' ⟨v', rfl, hL', hB'⟩
              have HL' : Hid (LRow w' v' (risingTo (addS (wayL s th el 0) (us.take (j + 1))) 8)) := hL'
              have HJ0 := HJ.out.trans (hB'.mono hjs)
              have HJ' : Hid (Below _ _ w') := HJ0
              clear HJ0
              clear hL' hB'
              go_wp2
              go_roundw
              case rel => exact ⟨j + 1, by omega, by go_num, HL', HJ'⟩
              case measure => simp [intOf]; omega
            · have HO3 : Hid (∀ v, LRow wr v (risingTo (addS (wayL s th el 0) (us.take j)) 8) → LRow wr v (risingTo (wayL s th el 1) 8)) := fun v hv => by rw [List.take_of_length_le (by omega), HE.out] at hv; exact hv
              have HO4 := HO3.out _ HO2.out
              have HO5 : Hid (LRow wr _ (risingTo (wayL s th el 1) 8)) := HO4
              have HB3 : Hid (Below X.heap.size X wr) := HB.out.trans (HJ.out.mono HB.out.size)
              clear HO4
              go_wp2
              go_roundw
              case rel => exact ⟨0 + 1, by omega, by go_num, HO5, HB3⟩
              case measure => simp [intOf]
      · rw [show ((1 : Nat) : Int) = (1 : Int) from rfl]
        have y1 : wr.cell? ⟨gw + 1, 1, none⟩ = some (.int .i64 el) := (HB.out.cell (p := ⟨gw + 1, 1, none⟩) hXs).trans HXX.out.2.2.2.2
        by_cases hneg : el < 0
        · have HE : Hid (risingTo (wayL s th el 1) 8 = risingTo (wayL s th el 2) 8) := (rise_end (s := s) hneg).trans (rising_congr 8 (fun i _ => by simp [wayL]))
          go_wp2
          go_roundw
          case rel => exact ⟨1 + 1, by omega, by go_num, by show LRow _ _ _; rw [← HE.out]; exact HO.out, HB⟩
          case measure => simp [intOf]
        · have hpos : 0 ≤ el := by omega
          obtain ⟨xn, hxn⟩ := Int.eq_ofNat_of_zero_le hpos
          rw [hxn] at y1
          have hxl : xn < n := by omega
          have hxI : (xn : Int) < (n : Int) := by omega
          have HI := h.out.kept HB.out
          have cx := (HI.cell xn hxl).1
          have HRx : Hid (LRow wr (V xn) (risingTo (s xn) 8)) := HI.row xn hxl
          obtain ⟨xa, xc, hxv, hxI2⟩ := HRx.out.ints
          have HXI : Hid (Ints wr xa (risingTo (s xn) 8)) := hxI2
          rw [hxv] at cx
          have HE : Hid (risingTo (addS (wayL s th el 1) (risingTo (s xn) 8)) 8 = risingTo (wayL s th el 2) 8) := by have := rise_next (g := wayL s th el 1) (s := s) hpos; rw [show el.toNat = xn by omega] at this; exact this.trans (rising_congr 8 (fun i _ => by simp [wayL]))
          obtain ⟨us, hus⟩ : ∃ us, Hid (risingTo (s xn) 8 = us) := ⟨_, rfl⟩
          have HU : Hid (∀ j, j < us.length → 0 ≤ us.getD j 0 ∧ us.getD j 0 ≤ 7) := by show ∀ j, _ → _; rw [← hus.out]; exact rise_one _
          rw [hus.out] at cx HXI HE
          have hul : us.length ≤ 8 := by rw [← hus.out]; exact rising_len _ 8
          have HXN : Hid (el = (xn : Int)) := hxn
          clear hxI2 HI hneg hxn
          go_wp2
          go_loopw [5, 27] (fun vt vi wr2 => ∃ j : Nat, j ≤ us.length ∧ vi = .int .i64 j ∧ Hid (LRow wr2 vt (risingTo (addS (wayL s th el 1) (us.take j)) 8)) ∧ Hid (Below wr.heap.size wr wr2)) (fun _ vi _ => us.length - (intOf vi).toNat)
          case atStart => exact ⟨0, Nat.zero_le _, rfl, by show LRow _ _ _; rw [adds_start]; exact HO.out, Below.refl _ _⟩
          case round =>
            obtain ⟨j, hj, rfl, HO2, HJ⟩ := hrel
            by_cases hjl : j < us.length
            · obtain ⟨ub, uo, hua, hcell⟩ := HXI.out.at HJ.out hjl
              subst hua
              obtain ⟨m0, m7⟩ := HU.out j hjl
              have HTN : Hid (us.take (j + 1) = us.take j ++ [us.getD j 0]) := take_next hjl
              generalize us.getD j 0 = mm at hcell m0 m7 HTN
              obtain ⟨nn, rfl⟩ := Int.eq_ofNat_of_zero_le m0
              have h8 : nn < 8 := by omega
              have hjs := HJ.out.size
              have HP : Hid (putL (risingTo (addS (wayL s th el 1) (us.take j)) 8) (nn : Int) = risingTo (addS (wayL s th el 1) (us.take (j + 1))) 8) := by show _ = _; rw [HTN.out]; exact adds_put h8
              go_wp2_with fail
              refine (spec_put _ _ _ _ HO2.out (rise_1000 _)).mono ?_
              rw [HP.out]
              rintro e w' ⟨v', rfl, hL', hB'⟩
              have HL' : Hid (LRow w' v' (risingTo (addS (wayL s th el 1) (us.take (j + 1))) 8)) := hL'
              have HJ0 := HJ.out.trans (hB'.mono hjs)
              have HJ' : Hid (Below _ _ w') := HJ0
              clear HJ0
              clear hL' hB'
              go_wp2
              go_roundw
              case rel => exact ⟨j + 1, by omega, by go_num, HL', HJ'⟩
              case measure => simp [intOf]; omega
            · have HO3 : Hid (∀ v, LRow wr v (risingTo (addS (wayL s th el 1) (us.take j)) 8) → LRow wr v (risingTo (wayL s th el 2) 8)) := fun v hv => by rw [List.take_of_length_le (by omega), HE.out] at hv; exact hv
              have HO4 := HO3.out _ HO2.out
              have HO5 : Hid (LRow wr _ (risingTo (wayL s th el 2) 8)) := HO4
              have HB3 : Hid (Below X.heap.size X wr) := HB.out.trans (HJ.out.mono HB.out.size)
              clear HO4
              go_wp2
              go_roundw
              case rel => exact ⟨1 + 1, by omega, by go_num, HO5, HB3⟩
              case measure => simp [intOf]
    · obtain rfl : j = 2 := by omega
      have x1 : wr.cell? ⟨gw, 1, none⟩ = some (.int .i64 (tn : Int)) := (HB.out.cell (p := ⟨gw, 1, none⟩) (by show gw < _; omega)).trans HXX.out.1
      have x2 : wr.cell? ⟨gw, 2, none⟩ = some (.int .i64 th) := (HB.out.cell (p := ⟨gw, 2, none⟩) (by show gw < _; omega)).trans HXX.out.2.1
      have x3 : wr.cell? ⟨gw, 3, none⟩ = some (.int .i64 el) := (HB.out.cell (p := ⟨gw, 3, none⟩) (by show gw < _; omega)).trans HXX.out.2.2.1
      have HBW : Hid (Below W.heap.size W wr) := HBX.out.trans (HB.out.mono HBX.out.size)
      by_cases heq : th = el
      · have HE : Hid (risingTo (wayL s th el 2) 8 = risingTo (fun i => (nextL s th i || nextL s el i) || (!(th == el) && i == ((tn : Int)).toNat)) 8) := rising_congr 8 (fun i _ => by simp [wayL, heq])
        have HR : Hid (∀ v, LRow wr v (risingTo (wayL s th el 2) 8) → PutAns W (risingTo (fun i => (nextL s th i || nextL s el i) || (!(th == el) && i == ((tn : Int)).toNat)) 8) (.returned v) wr) := fun v hv => ⟨v, rfl, by rw [← HE.out]; exact hv, HBW.out⟩
        have HR1 := HR.out _ HO.out
        have HR2 : Hid (PutAns W (risingTo (fun i => (nextL s th i || nextL s el i) || (!(th == el) && i == ((tn : Int)).toNat)) 8) (.returned _) wr) := HR1
        clear HR1 HE HR
        subst heq
        go_wp2
        go_ret
        exact HR2.out
      · have HE : Hid (putL (risingTo (wayL s th el 2) 8) (tn : Int) = risingTo (fun i => (nextL s th i || nextL s el i) || (!(th == el) && i == ((tn : Int)).toNat)) 8) := by
          show _ = _
          rw [rise_test ht8]
          exact rising_congr 8 (fun i _ => by
            have : (th == el) = false := by simpa using heq
            simp [wayL, this])
        have s1 : (th == el) = false := by simpa using heq
        have s2 : decide (th = el) = false := decide_eq_false heq
        clear heq
        go_wp2_with fail
        refine (spec_put _ _ _ _ HO.out (rise_1000 _)).mono ?_
        rw [HE.out]
        rintro e w' ⟨v', rfl, hL', hB'⟩
        have HR2 : Hid (PutAns W (risingTo (fun i => (nextL s th i || nextL s el i) || (!(th == el) && i == ((tn : Int)).toNat)) 8) (.returned v') w') := ⟨v', rfl, hL', HBW.out.trans (hB'.mono HBW.out.size)⟩
        clear hL' hB'
        go_wp2
        go_ret
        exact HR2.out
end Go.Proofs.Ytfmgbalfabpogaa.walks
