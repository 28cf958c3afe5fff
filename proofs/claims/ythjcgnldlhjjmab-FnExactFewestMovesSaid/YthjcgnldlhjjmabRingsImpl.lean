/-
  What the program's rings and RingsIn answer, at all moves; they make new memory alone.
-/
import Derived.Test.YthjcgnldlhjjmabProg
import Derived.Test.YthjcgnldlhjjmabRowMath
import Derived.Test.YthjcgnldlhjjmabInts
import Derived.Test.YthjcgnldlhjjmabOwnInts
import Derived.Test.YthjcgnldlhjjmabOwnLists
import Derived.Test.YthjcgnldlhjjmabOwnMoves
import Derived.Test.YthjcgnldlhjjmabArrs
import Derived.Test.YthjcgnldlhjjmabRecsMove
import Derived.Test.YthjcgnldlhjjmabSources
import Derived.Test.YthjcgnldlhjjmabRowsImpl
import Derived.Test.YthjcgnldlhjjmabRingsSpec
import Derived.Test.YthjcgnldlhjjmabReverse
import Derived.WalkKit
import Derived.WalkSpells
import Derived.Below
import Derived.Handy
namespace Go.Proofs.Ythjcgnldlhjjmab.walks
open Go.RowKit Go.Proofs.Ythjcgnldlhjjmab.math Go.Proofs.Ythjcgnldlhjjmab.ints Go.Proofs.Ythjcgnldlhjjmab.lists
set_option linter.unusedVariables false
set_option maxRecDepth 100000

theorem own_far {w : World} {B b : Nat} {v : Value} {zs : List Int} (h : Own w B v zs) (hb : b < B) : v.ownBlock = none ∨ v.ownBlock ≠ some b := by
  cases q : v.ownBlock with
  | none => exact Or.inl rfl
  | some g => exact Or.inr (by have := (World.ownsRow.lt h g q).1; simp; omega)
theorem ownL_grown {w w' : World} {B b k : Nat} {v : Value} {Z : Nat → List Int} {X : Nat → Value} (h : OwnL w B v k Z X) (hg : w.grownBy w' (some b)) (hb : b < B) : OwnL w' B v k Z X := by
  refine ⟨World.ownsRow.kept h.row hg ?_, fun j hj => World.ownsRow.kept (h.own j hj) hg (own_far (h.own j hj) hb), h.ap⟩
  cases q : v.ownBlock with
  | none => exact Or.inl rfl
  | some g => exact Or.inr (by have := (World.ownsRow.lt h.row g q).1; simp; omega)
/-- One list more: it lies in a block that none of the others has. -/
theorem ownL_snoc2 {w1 w2 : World} {B B1 : Nat} {v v' u : Value} {k : Nat} {Z : Nat → List Int} {X : Nat → Value} (h : OwnL w1 B v k Z X) (hu : Own w1 B1 u (Z k)) (hB : B ≤ B1) (hlow : ∀ j, j < k → ∀ g, (X j).ownBlock = some g → g < B1) {t : TypeId}
    (h2 : w2.ownsRow B 43 1 v' (k + 1) ((List.range k).map X ++ [u])) (hg : (w1.alloc (.cells #[u] t)).grownBy w2 v.ownBlock) : OwnL w2 B v' (k + 1) Z (updX X k u) := by
  refine ⟨by rw [range_upd]; exact h2, fun j hj => ?_, fun i j hi hj hne => ?_⟩
  · by_cases e : j = k
    · subst e
      simp only [updX, if_true]
      exact World.ownsRow.kept (World.ownsRow.alloc (row_low hu hB) _) hg (rows_apart h.row hu)
    · simp only [updX, if_neg e]
      exact World.ownsRow.kept (World.ownsRow.alloc (h.own j (by omega)) _) hg (rows_apart h.row (h.own j (by omega)))
  · have far : ∀ i, i < k → (X i).ownBlock = none ∨ (X i).ownBlock ≠ u.ownBlock := fun i hi => by
      cases q : (X i).ownBlock with
      | none => exact Or.inl rfl
      | some g =>
        refine Or.inr fun e => ?_
        have h1 := hlow i hi g q
        have h3 := (World.ownsRow.lt hu g e.symm).1
        omega
    by_cases e : i = k
    · subst e
      simp only [updX, if_true, if_neg (Ne.symm hne)]
      rcases far j (by omega) with q | q
      · rw [q]
        cases u.ownBlock with
        | none => exact Or.inl rfl
        | some g => exact Or.inr (by simp)
      · exact Or.inr (Ne.symm q)
    · simp only [updX, if_neg e]
      by_cases e' : j = k
      · subst e'; simp only [if_true]; exact far i (by omega)
      · simp only [if_neg e']; exact h.ap i j (by omega) (by omega) hne
theorem mem_take {l : List Int} {j : Nat} (hj : j < l.length) (q : Int) : q ∈ l.take (j + 1) ↔ q ∈ l.take j ∨ q = l.getD j 0 := by
  rw [List.take_succ_eq_append_getElem hj, List.mem_append]
  simp [List.getD, hj]
set_option maxHeartbeats 4000000 in
theorem impl_rings (c : Array Value) (s : Int → Int) (W : World) (hC : Hid (IsArr c 10 (fun i => s (i : Int)))) (hcl : Hid (Cl s)) (hpl : Hid (∀ p, Pl p → Pl (s p))) (hon : Hid (∀ p, Pl p → s p ≠ p → OnC s p)) :
    Calls Try.prog 18 #[.agg c] W fun e W' => RingsAns s W e W' := by
  obtain ⟨i0, hi, hz0, hz1, hz2⟩ := lists_parts lists_info
  go_enter Try.func18, Try.ntmps18
  go_wp2
  go_loopw [3, 8] (fun vl vi wr => ∃ (m k : Nat) (X : Nat → Value) (v : Value), m ≤ 10 ∧ vi = .int .i64 m ∧ v = vl ∧ Hid ((ringsTo s m).length = k) ∧ k ≤ m ∧ Hid (wr.rowIs W.heap.size 45 10 (fun i => .int .i64 (clrS s (m : Int) (i : Int)))) ∧ Hid (OwnL wr (W.heap.size + 1) v k (ringZ s) X) ∧ Hid (Below W.heap.size W wr)) (fun _ vi _ => 20 - (intOf vi).toNat)
  case atStart =>
    refine ⟨0, 0, fun _ => .slice none 0 0, _, by omega, rfl, rfl, rfl, by omega, ?_, ownL_nil _ _ _ _, (Below.refl _ _).alloc (Nat.le_refl _) _⟩
    refine World.rowIs.congr (arr_new hC.out) (fun i hi => ?_)
    have := clr_zero hpl.out (q := (i : Int)) (by unfold Pl; omega)
    rw [show ((0 : Nat) : Int) = 0 from rfl, this]
  case round =>
    obtain ⟨m, k, X, v, hm, rfl, rfl, HK, hkm, HR, HO, HB⟩ := hrel
    obtain ⟨wo, hwo⟩ : ∃ wo, wo = wr := ⟨_, rfl⟩
    subst hwo
    have hgo := HR.out.lt
    have hWs := HB.out.size
    by_cases hlt : m < 10
    · have HPm : Hid (Pl (m : Int)) := by show Pl _; unfold Pl; omega
      have hm1 : (m : Int) + 1 = ((m + 1 : Nat) : Int) := by omega
      cases hw : decide (clrS s (m : Int) (m : Int) ≠ (m : Int))
      · have HW : Hid (decide (clrS s (m : Int) (m : Int) ≠ (m : Int)) = false) := hw
        obtain ⟨hl, hq⟩ := clr_skip hcl.out hon.out HPm.out (Classical.byContradiction fun r => of_decide_eq_false hw r)
        have HK2 : Hid ((ringsTo s (m + 1)).length = k) := by
          show _ = _
          rw [rings_skip hl]; exact HK.out
        have HR2 : Hid (wo.rowIs W.heap.size 45 10 (fun i => .int .i64 (clrS s ((m + 1 : Nat) : Int) (i : Int)))) := HR.out.congr (fun i hi => by
          have := hq (i : Int) (by unfold Pl; omega)
          rw [hm1] at this
          rw [this])
        clear hw hl hq hm1
        go_wp2_with (go_at_call 24; refine (impl_waits W.heap.size m (clrS s (m : Int)) _ hlt HR).mono ?_; rw [HW.out]; rintro e w' ⟨rfl, hw'⟩; rw [hw']; clear hw' w')
        go_roundw
        case rel => exact ⟨m + 1, k, X, _, by omega, by go_num, rfl, HK2, by omega, HR2, HO, HB⟩
        case measure => simp [intOf]; omega
      · have HW : Hid (decide (clrS s (m : Int) (m : Int) ≠ (m : Int)) = true) := hw
        have hwt := of_decide_eq_true hw
        obtain ⟨q1, q2, q3, q4⟩ := clr_facts hcl.out hon.out HPm.out hwt
        have HQ1 : Hid (∀ k, Pl (itS (clrS s (m : Int)) (m : Int) k)) := q1
        have HST : Hid (∀ i : Nat, i < 10 → (if (i : Int) ∈ ringL s (m : Int) then (i : Int) else clrS s (m : Int) (i : Int)) = clrS s ((m + 1 : Nat) : Int) (i : Int)) := by
          show ∀ i : Nat, i < 10 → _
          intro i hi
          rw [← hm1]
          exact clr_set hcl.out hon.out HPm.out hwt (by unfold Pl; omega)
        have HPM : Hid (∀ x, x ∈ ringL s (m : Int) → Pl x) := by
          show ∀ x, x ∈ ringL s (m : Int) → Pl x
          intro x hx
          obtain ⟨h0, _⟩ := clr_wait hwt
          have ho := hon.out _ HPm.out h0
          obtain ⟨j, rfl⟩ := (ring_mem hcl.out HPm.out ho).1 hx
          exact ho.pl hcl.out HPm.out j
        have HLE : Hid (leastR s (m : Int) = true) := q4
        have HQ3 : Hid (ringL (clrS s (m : Int)) (m : Int) = ringL s (m : Int)) := q3
        clear hw q1 q3 q4 hm1
        obtain ⟨t, ht⟩ : ∃ t, Hid (clrS s (m : Int) = t) := ⟨_, rfl⟩
        have HQ2 : Hid (2 ≤ perTo (clrS s (m : Int)) (m : Int) 10) := q2
        rw [ht.out] at HR HW HQ1 HST HQ3 HQ2
        clear q2 hwt
        go_wp2_with (first
          | (go_at_call 24; refine (impl_waits W.heap.size m t _ hlt HR).mono ?_; rw [HW.out]; rintro e w' ⟨rfl, hw'⟩; rw [hw']; clear hw' w')
          | (go_at_call 25; refine park9 ?_))
        unfold Hid
        refine (impl_ring W.heap.size m t _ hlt HQ1 HQ2.out HR).mono ?_
        rw [HQ3.out]
        rintro e w1 ⟨u, rfl, hu, hB1⟩
        obtain ⟨ua, uc, hue, hUM⟩ := hu.mine
        obtain ⟨r, hr⟩ : ∃ r, Hid (ringL s (m : Int) = r) := ⟨_, rfl⟩
        rw [hr.out] at hue hu hUM HST HPM
        obtain ⟨ul, hul⟩ : ∃ ul, Hid (r.length = ul) := ⟨_, rfl⟩
        have hul10 : ul ≤ 10 := by rw [← hul.out, ← hr.out]; exact ring_len _ _
        rw [hul.out] at hue
        subst hue
        have HU : Hid (Own w1 wo.heap.size (.slice ua ul uc) r) := hu
        have HUI : Hid (Mine w1 wo.heap.size ua r) := hUM
        have HB1 : Hid (Below wo.heap.size wo w1) := hB1
        have HO1 : Hid (OwnL w1 (W.heap.size + 1) v k (ringZ s) X) := HO.out.grow hB1
        have HW1 : Hid (Below W.heap.size W w1) := HB.out.trans (hB1.mono hWs)
        have HR1 : Hid (w1.rowIs W.heap.size 45 10 (fun i => .int .i64 (t (i : Int)))) := HR.out.of_block (hB1.block _ hgo)
        have hw1s := hB1.size
        clear hu hB1 hUM HQ2 HQ1 HW HQ3
        go_wp2
        go_loopw [18] (fun vj wr => ∃ j : Nat, j ≤ ul ∧ vj = .int .i64 j ∧ Hid (wr.rowIs W.heap.size 45 10 (fun i => .int .i64 (if (i : Int) ∈ r.take j then (i : Int) else t (i : Int)))) ∧ Hid (w1.grownBy wr (some W.heap.size)) ∧ Hid (wr.heap.size = w1.heap.size)) (fun vj _ => 20 - (intOf vj).toNat)
        case atStart => exact ⟨0, by omega, rfl, HR1.out.congr (fun i hi => by simp), grow_refl8 _ _, rfl⟩
        case round =>
          obtain ⟨j, hj, rfl, HRj, HGj, hsj⟩ := hrel
          clear HR1
          by_cases hjl : j < ul
          · obtain ⟨b', off, ha, hb0, hcell⟩ : ∃ b' off, ua = some ⟨b', off, none⟩ ∧ wo.heap.size ≤ b' ∧ w1.cell? ⟨b', off + j, none⟩ = some (.int .i64 (r.getD j 0)) := by
              rcases HUI.out with e | ⟨b', off, e, h0, _, hc⟩
              · have := hul.out; rw [e] at this; simp at this; omega
              · exact ⟨b', off, e, h0, (hc j (by rw [hul.out]; exact hjl)).1⟩
            subst ha
            replace hcell : wr.cell? ⟨b', off + j, none⟩ = some (.int .i64 (r.getD j 0)) := HGj.out.cell hcell (by simp; omega)
            have hpx := HPM.out (r.getD j 0) (by
              have hjr : j < r.length := by rw [hul.out]; exact hjl
              simp only [List.getD, List.getElem?_eq_getElem hjr, Option.getD_some]
              exact List.getElem_mem hjr)
            obtain ⟨x, hx⟩ : ∃ x, Hid (r.getD j 0 = x) := ⟨_, rfl⟩
            rw [hx.out] at hcell hpx
            unfold Pl at hpx
            obtain ⟨q, rfl⟩ : ∃ q : Nat, x = (q : Int) := ⟨x.toNat, by omega⟩
            have hq10 : q < 10 := by omega
            have hqI : (q : Int) < 10 := by omega
            have s0 := HRj.out.cell hq10
            have s1 := HRj.out.frozen q
            obtain ⟨y, hy⟩ : ∃ y, Hid ((if (q : Int) ∈ r.take j then (q : Int) else t (q : Int)) = y) := ⟨_, rfl⟩
            rw [hy.out] at s0
            have HNX : Hid (∀ i : Nat, i < 10 → (if i = q then Value.int .i64 (q : Int) else Value.int .i64 (if (i : Int) ∈ r.take j then (i : Int) else t (i : Int))) = Value.int .i64 (if (i : Int) ∈ r.take (j + 1) then (i : Int) else t (i : Int))) := by
              show ∀ i : Nat, i < 10 → _
              intro i hi
              have hmt := mem_take (l := r) (j := j) (by rw [hul.out]; exact hjl) (i : Int)
              rw [hx.out] at hmt
              by_cases e : i = q
              · subst e
                rw [if_pos rfl, if_pos (hmt.2 (Or.inr rfl))]
              · rw [if_neg e]
                by_cases e2 : (i : Int) ∈ r.take j
                · rw [if_pos e2, if_pos (hmt.2 (Or.inl e2))]
                · rw [if_neg e2, if_neg (fun z => by rcases hmt.1 z with z | z; exact e2 z; omega)]
            clear hpx
            go_wp2
            go_roundw
            case rel => exact ⟨j + 1, by omega, by go_num, World.rowIs.congr (HRj.out.set q (.int .i64 (q : Int))) HNX.out, grow_set8 HGj.out _ _, by show (World.setCell _ _ _).heap.size = w1.heap.size; rw [← hsj.out]; simp [World.setCell]⟩
            case measure => simp [intOf]; omega
          · have hju : j = ul := by omega
            have hsjo := hsj.out
            have HR2 : Hid (wr.rowIs W.heap.size 45 10 (fun i => .int .i64 (clrS s ((m + 1 : Nat) : Int) (i : Int)))) := HRj.out.congr (fun i hi => by
              rw [List.take_of_length_le (by rw [hul.out]; omega), HST.out i hi])
            have HK2 : Hid ((ringsTo s (m + 1)).length = k + 1) := by
              show _ = _
              rw [rings_go HLE.out, List.length_append, HK.out]; rfl
            have HBj : Hid (Below W.heap.size W wr) := HW1.out.grown HGj.out (by omega) (fun j hj => by simp at hj; omega)
            have HZ : Hid (Own wr wo.heap.size (.slice ua ul uc) (ringZ s k)) := by
              have := rings_at hlt HLE.out
              rw [HK.out, hr.out] at this
              show Own wr wo.heap.size (.slice ua ul uc) ((ringsTo s 10).getD k [])
              rw [this]
              exact World.ownsRow.kept HU.out HGj.out (own_far HU.out (by omega))
            have HOj : Hid (OwnL wr (W.heap.size + 1) v k (ringZ s) X) := ownL_grown HO1.out HGj.out (by omega)
            have hrs := HR2.out.lt
            have hwrW : W.heap.size ≤ wr.heap.size := by omega
            clear HRj HST hsjo
            go_wp2_with (first
              | (at_builtin; refine wpList_append_own _ rfl _ _ 41 rfl (W.heap.size + 1) 43 i0 (.slice none 0 0) 1 24 Try.underlying41 hi hz0 hz1 hz2 rfl (by decide) _ k ((List.range k).map X) rfl (World.ownsRow.alloc HOj.out.row _) ⟨wr.heap.size, 0, none⟩ 1 1 [.slice ua ul uc] rfl rfl (new_cell wr _ _) (by intro q hq; simp at hq; subst hq; rfl) (by unfold maxLen; omega) (by omega) (by simp; omega) ?_)
              | fail)
            intro v2 w2 hown hgrow _
            have HO2 : Hid (OwnL w2 (W.heap.size + 1) v2 (k + 1) (ringZ s) (updX X k (.slice ua ul uc))) := ownL_snoc2 HOj.out HZ.out (by omega) (fun j hj g e => by
              have h1 := (World.ownsRow.lt (HO.out.own j hj) g e).2
              exact h1) hown hgrow
            have HB2 : Hid (Below W.heap.size W w2) := (HBj.out.alloc HBj.out.size _).grown hgrow (by simp; omega) (fun j hj => by have := (World.ownsRow.lt HOj.out.row j hj).1; omega)
            have HR3 : Hid (w2.rowIs W.heap.size 45 10 (fun i => .int .i64 (clrS s ((m + 1 : Nat) : Int) (i : Int)))) := (HR2.out.alloc _).of_block (hgrow.block _ (by simp; omega) (fun e => by have := (World.ownsRow.lt HOj.out.row _ e.symm).1; omega))
            clear hown hgrow
            go_wp2
            go_roundw
            case rel => exact ⟨m + 1, k + 1, _, _, by omega, by go_num, rfl, HK2, by omega, HR3, HO2, HB2⟩
            case measure => simp [intOf]; omega
    · have hm10 : m = 10 := by omega
      have HA : Hid (RingsAns s W (.returned v) wo) := ⟨v, X, rfl, by rw [← hm10, HK.out]; exact ownL_low HO.out (by omega), HB.out⟩
      go_wp2
      go_ret
      exact HA.out
end Go.Proofs.Ythjcgnldlhjjmab.walks
