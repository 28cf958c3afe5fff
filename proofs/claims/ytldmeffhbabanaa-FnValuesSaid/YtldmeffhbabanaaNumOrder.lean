/-
  What the program's inOrder answers: each value where its number says, whatever the order in which the map gives them.
-/
import Derived.Test.YtldmeffhbabanaaProg
import Derived.Test.YtldmeffhbabanaaNumRun
import Derived.Test.YtldmeffhbabanaaNumState
import Derived.Test.YtldmeffhbabanaaNumStart
import Derived.WalkKit
import Derived.WalkSpells
import Derived.Below
import Derived.Handy
import Derived.Maps.RangeWalk
import Derived.Laws.MakeOwn
import Derived.Deep.OwnRows
namespace Go.Proofs.Ytldmeffhbabanaa.nums
open Go.RowKit Go.Proofs.Ytldmeffhbabanaa.math Go.Proofs.Ytldmeffhbabanaa.ints Go.Proofs.Ytldmeffhbabanaa.walks
set_option linter.unusedVariables false
set_option linter.unusedSimpArgs false

/-- The values' numbers, flat. -/
def flatI (vs : List V) : List Int := vs.flatMap (fun v => [v.1, v.2.1, v.2.2.1, v.2.2.2])
theorem flatI_len : ∀ vs : List V, (flatI vs).length = vs.length * 4
  | [] => rfl
  | v :: r => by
    have := flatI_len r
    simp only [flatI, List.flatMap_cons, List.length_append, List.length_cons, List.length_nil] at this ⊢
    omega
theorem flatI_map (vs : List V) : flatV vs = (flatI vs).map (Value.int .i64) := by
  unfold flatV flatI
  rw [List.map_flatMap]
  rfl
theorem flatI_at {vs : List V} {k i : Nat} (hk : k < vs.length) (hi : i < 4) : (flatI vs).getD (k * 4 + i) 0 = fldV (vs.getD k zV) i := by
  have h := flat_at vs k i hk hi
  rw [flatI_map] at h
  simp only [List.getElem?_map] at h
  cases e : (flatI vs)[k * 4 + i]? with
  | none => rw [e] at h; simp at h
  | some z => rw [e] at h; simp at h; simp [List.getD, e, h]
theorem value_info : (Try.prog.info? 49).map (fun i => (i.zero, i.size, i.bytes)) = some (some (.agg #[.int .i64 0, .int .i64 0, .int .i64 0, .int .i64 0]), 4, 32) := by kernel_rfl
theorem value_made (n i : Nat) (hi : i < n) : (madeCells #[.int .i64 0, .int .i64 0, .int .i64 0, .int .i64 0] n)[i]? = some (.int .i64 0) := by
  have h : i % 4 < 4 := Nat.mod_lt _ (by decide)
  simp only [madeCells, Array.getElem?_map, Array.getElem?_range, hi, if_true, Option.map_some]
  generalize i % 4 = j at h
  congr 1
  match j, h with
  | 0, _ => rfl
  | 1, _ => rfl
  | 2, _ => rfl
  | 3, _ => rfl
  | j + 4, h => omega
/-- What lies in the row while some values are still to come. -/
noncomputable def rowAt (vs : List V) (left : Lit → Bool) (j : Nat) : Value := .int .i64 (if left (klV (vs.getD (j / 4) zV)) then 0 else (flatI vs).getD j 0)
theorem row_step {vs : List V} {left : Lit → Bool} {c : Nat} {v : V} {w : World} {g : Nat} (hn : vs.Nodup) (ok : ∀ u ∈ vs, okV u) (hc : c < vs.length) (hv : vs.getD c zV = v) (h : w.rowIs g 49 (vs.length * 4) (rowAt vs left)) :
    ((((w.setCell ⟨g, c * 4, none⟩ (.int .i64 v.1)).setCell ⟨g, c * 4 + 1, none⟩ (.int .i64 v.2.1)).setCell ⟨g, c * 4 + 2, none⟩ (.int .i64 v.2.2.1)).setCell ⟨g, c * 4 + 3, none⟩ (.int .i64 v.2.2.2)).rowIs g 49 (vs.length * 4) (rowAt vs (fun z => left z && !z.sameKey (klV v))) := by
  have hm : v ∈ vs := hv ▸ get_mem hc
  have hself : (klV v).sameKey (klV v) = true := WideAt.sameKey_self (klV_key (ok v hm))
  refine World.rowIs.congr ((((h.set (c * 4) (.int .i64 v.1)).set (c * 4 + 1) (.int .i64 v.2.1)).set (c * 4 + 2) (.int .i64 v.2.2.1)).set (c * 4 + 3) (.int .i64 v.2.2.2)) ?_
  intro j hj
  have f0 := flatI_at (i := 0) hc (by omega)
  have f1 := flatI_at (i := 1) hc (by omega)
  have f2 := flatI_at (i := 2) hc (by omega)
  have f3 := flatI_at (i := 3) hc (by omega)
  rw [hv] at f0 f1 f2 f3
  unfold rowAt
  rcases (show j = c * 4 ∨ j = c * 4 + 1 ∨ j = c * 4 + 2 ∨ j = c * 4 + 3 ∨ j / 4 ≠ c by omega) with rfl | rfl | rfl | rfl | hne
  · rw [if_neg (by omega), if_neg (by omega), if_neg (by omega), if_pos rfl, show c * 4 / 4 = c by omega, hv]
    simp only [hself, Bool.not_true, Bool.and_false, Bool.false_eq_true, if_false]
    rw [Nat.add_zero] at f0
    rw [f0]; rfl
  · rw [if_neg (by omega), if_neg (by omega), if_pos rfl, show (c * 4 + 1) / 4 = c by omega, hv]
    simp only [hself, Bool.not_true, Bool.and_false, Bool.false_eq_true, if_false]
    rw [f1]; rfl
  · rw [if_neg (by omega), if_pos rfl, show (c * 4 + 2) / 4 = c by omega, hv]
    simp only [hself, Bool.not_true, Bool.and_false, Bool.false_eq_true, if_false]
    rw [f2]; rfl
  · rw [if_pos rfl, show (c * 4 + 3) / 4 = c by omega, hv]
    simp only [hself, Bool.not_true, Bool.and_false, Bool.false_eq_true, if_false]
    rw [f3]; rfl
  · have hjl : j / 4 < vs.length := by omega
    have hno : (klV (vs.getD (j / 4) zV)).sameKey (klV v) = false := Maps.sameKey_ne (fun e => by
      have e1 := klV_inj (ok _ (get_mem hjl)) (ok _ hm) e
      have e2 := idx_at hn hjl
      rw [e1, ← hv, idx_at hn hc] at e2
      omega)
    rw [if_neg (by omega), if_neg (by omega), if_neg (by omega), if_neg (by omega)]
    simp only [hno, Bool.not_false, Bool.and_true]
/-- What an entry that comes is. -/
theorem entry_is {D : DataW Unit} {vs : List V} {x : V} {c : Int} {kl : Lit} {y : DataW Unit × List MemPlace} (hR : Rep D vs) (ok : ∀ u ∈ vs, okV u) (hkey : keyOf Try.prog 49 (vV x) = some kl) (hv : plainElem Try.prog 3 (.int .i64 c) = some y) (hat : ∀ zd, D.atKey kl zd = y.1) : x ∈ vs ∧ c = (idx vs x : Int) ∧ kl = klV x := by
  have hh := Maps.has_true_of_atKey hat
  obtain ⟨v, hm, rfl⟩ := hR.only kl hh
  have hx : x = v := vV_inj (law.inj hkey (key_of (ok v hm)))
  subst hx
  refine ⟨hm, ?_, rfl⟩
  obtain ⟨c', e1, e2, _⟩ := plainElem_int_inv Try.underlying3 hv
  cases e1
  have := hat (.lit (.int .i64 0))
  rw [hR.at' x hm, e2] at this
  simpa using this.symm
theorem ranges_put {w : World} {mb r1 n g cnt : Nat} {D : DataW Unit} {left : Lit → Bool} {i0 i1 i2 i3 : Nat} (h : w.ranges Try.prog 49 (plainElem Try.prog 3) mb r1 n D left cnt) (h1 : mb ≠ g) (h2 : r1 ≠ g) (u0 u1 u2 u3 : Value) (o : Obj) :
    (((((w.setCell ⟨g, i0, none⟩ u0).setCell ⟨g, i1, none⟩ u1).setCell ⟨g, i2, none⟩ u2).setCell ⟨g, i3, none⟩ u3).alloc o).ranges Try.prog 49 (plainElem Try.prog 3) mb r1 n D left cnt := by
  have e1 : (some mb : Option Nat) ≠ some g := by simpa using h1
  have e2 : (some r1 : Option Nat) ≠ some g := by simpa using h2
  exact ((((h.kept (set_grown _ g i0 u0) e1 e2).kept (set_grown _ g i1 u1) e1 e2).kept (set_grown _ g i2 u2) e1 e2).kept (set_grown _ g i3 u3) e1 e2).alloc o
/-- What inOrder leaves. -/
def OrdAns (W : World) (vs : List V) (e : Ending) (W' : World) : Prop := ∃ cap, e = .returned (.slice (some ⟨W.heap.size, 0, none⟩) vs.length cap) ∧ Mine W' W.heap.size (some ⟨W.heap.size, 0, none⟩) (flatI vs) ∧ Below W.heap.size W W'
set_option maxRecDepth 100000 in
set_option maxHeartbeats 800000 in
theorem impl_order (nb mb m : Nat) (vs ns : List V) (W : World) (hm : m ≤ 1000) (HI : Hid (Inv vs ns m)) (hN : Hid (Num W nb mb vs ns)) :
    Calls Try.prog 39 #[.pointer (some ⟨nb, 0, none⟩)] W fun e W' => OrdAns W vs e W' := by
  obtain ⟨i0, hi, hz0, hz1, hz2⟩ := info_parts value_info
  have hnb := hN.out.1.lt
  have hmb := hN.out.2.lt
  have hvl : vs.length ≤ 1000 := Nat.le_trans HI.out.room hm
  have e0 := num_map hN.out
  have hmk : ∀ w : World, (Instr.makeSlice 37 (.int .i64 (vs.length : Int)) (.int .i64 (vs.length : Int))).run Try.prog w = .ok (.slice (some ⟨w.heap.size, 0, none⟩) vs.length vs.length) (w.alloc (.cells (madeCells #[.int .i64 0, .int .i64 0, .int .i64 0, .int .i64 0] (vs.length * 4)) 49)) := by
    intro w
    have hr := run_make (P := Try.prog) w 37 49 i0 _ Try.underlying37 hi hz0 .i64 .i64 (vs.length : Int) (vs.length : Int) (by omega) (Int.le_refl _) (by rw [hz2]; omega) (by omega)
    simp only [Int.toNat_natCast] at hr
    rw [hr, hz1]; rfl
  clear hi hz0 hz1 hz2
  obtain ⟨D, hO, hR⟩ := hN.out.2
  have HRep : Hid (Rep D vs) := hR
  have hlen := fun ty => hN.out.2.len ty
  have HO1 : Hid ((W.alloc (.cells (madeCells #[.int .i64 0, .int .i64 0, .int .i64 0, .int .i64 0] (vs.length * 4)) 49)).ownsMap Try.prog 49 (plainElem Try.prog 3) mb vs.length D) := hO.alloc _
  have HRow : Hid ((W.alloc (.cells (madeCells #[.int .i64 0, .int .i64 0, .int .i64 0, .int .i64 0] (vs.length * 4)) 49)).rowIs W.heap.size 49 (vs.length * 4) (fun _ => .int .i64 0)) := by
    have h := World.rowIs_alloc W (madeCells #[.int .i64 0, .int .i64 0, .int .i64 0, .int .i64 0] (vs.length * 4)) 49 (fun _ => .int .i64 0) (fun i hi => value_made _ i (by rw [size_madeCells] at hi; exact hi))
    rw [size_madeCells] at h
    exact h
  have hmkd : Maps.has D = fun kl => Maps.has D kl := rfl
  clear hO hR hmkd
  go_enter Try.func39, Try.ntmps39
  go_wp2_with (first | (at_range; refine wpList_range_own _ rfl _ 86 rfl 49 3 law Try.underlying86 _ mb vs.length D rfl HO1.out ?_; intro w0 hrg0 hg0 hs0) | go_in)
  go_frame
  have HK0 : Hid (w0.rowIs W.heap.size 49 (vs.length * 4) (rowAt vs (Maps.has D))) := by
    show World.rowIs _ _ _ _ _
    refine World.rowIs.congr (World.rowIs.of_block HRow.out (hg0.block _ (by simp) (by simp))) (fun j hj => ?_)
    have hjl : j / 4 < vs.length := by omega
    unfold rowAt
    rw [HRep.out.has _ (HI.out.ok _ (get_mem hjl)), decide_eq_true (get_mem hjl)]
    rfl
  have HB0 : Hid (Below W.heap.size W w0) := by
    show Below _ _ _
    exact Below.grown (w := W.alloc (.cells (madeCells #[.int .i64 0, .int .i64 0, .int .i64 0, .int .i64 0] (vs.length * 4)) 49)) ((Below.refl _ _).alloc (Nat.le_refl _) _) hg0 (by simp) (fun j hj => by cases hj)
  have HR0 : Hid (w0.ranges Try.prog 49 (plainElem Try.prog 3) mb (W.alloc (.cells (madeCells #[.int .i64 0, .int .i64 0, .int .i64 0, .int .i64 0] (vs.length * 4)) 49)).heap.size vs.length D (Maps.has D) (Maps.size D)) := hrg0
  clear hrg0 hg0 hs0 hmk hlen HRow HO1
  have hrs : (W.alloc (.cells (madeCells #[.int .i64 0, .int .i64 0, .int .i64 0, .int .i64 0] (vs.length * 4)) 49)).heap.size = W.heap.size + 1 := by simp
  generalize (W.alloc (.cells (madeCells #[.int .i64 0, .int .i64 0, .int .i64 0, .int .i64 0] (vs.length * 4)) 49)).heap.size = r1 at HR0 hrs ⊢
  have hr1 : W.heap.size < r1 := by omega
  clear hrs
  go_loopw [5] (fun _ wr => Hid (∃ left cnt, wr.ranges Try.prog 49 (plainElem Try.prog 3) mb r1 vs.length D left cnt ∧ wr.rowIs W.heap.size 49 (vs.length * 4) (rowAt vs left)) ∧ Hid (Below W.heap.size W wr)) (fun _ wr => wr.rangeLeft mb r1)
  case atStart => exact ⟨⟨_, _, HR0.out, HK0.out⟩, HB0⟩
  case round =>
    obtain ⟨⟨left, cnt, hrg, hrow⟩, HB⟩ := hrel
    have HRow : Hid (wr.rowIs W.heap.size 49 (vs.length * 4) (rowAt vs left)) := hrow
    go_wp2_with (at_next; refine wpList_next_ranges (α := V) (β := Int) _ rfl _ rfl 49 law (plainElem Try.prog 3) vV (Value.int .i64) (fun key kl h => key_inv h) (fun v y h => by obtain ⟨c, hc, _⟩ := plainElem_int_inv Try.underlying3 h; exact ⟨c, hc⟩) mb r1 vs.length D left cnt rfl hrg ?done ?more)
    case done =>
      intro _ hl0
      have HM : Hid (Mine wr W.heap.size (some ⟨W.heap.size, 0, none⟩) (flatI vs)) := by
        refine Or.inr ⟨W.heap.size, 0, rfl, Nat.le_refl _, HRow.out.lt, fun i hi => ?_⟩
        rw [flatI_len] at hi
        refine ⟨?_, by simpa using HRow.out.frozen i⟩
        rw [Nat.zero_add, HRow.out.cell hi]
        unfold rowAt
        rw [hl0]
        rfl
      clear hl0 hrg hrow
      go_wp2
      go_ret
      exact ⟨_, rfl, HM.out, HB.out⟩
    case more =>
      intro x0 x1 x2 x3 c kl y1 y2 w1 cnt1 hkey hlk hv hat hrg1 hlt hg1 hs1 hen
      obtain ⟨hx, hc, hkl⟩ := entry_is (x := (x0, x1, x2, x3)) (y := (y1, y2)) HRep.out HI.out.ok hkey hv hat
      have hci := idx_lt hx
      have hcg := idx_get hx
      obtain ⟨i, hidx⟩ : ∃ i, idx vs (x0, x1, x2, x3) = i := ⟨_, rfl⟩
      rw [hidx] at hc hci hcg
      subst hc
      simp only [vV] at hen
      have hrl : W.heap.size < wr.heap.size := HRow.out.lt
      have hRow1 : Hid (w1.rowIs W.heap.size 49 (vs.length * 4) (rowAt vs left)) := World.rowIs.of_block HRow.out (hg1.block _ hrl (by simp; omega))
      have HB1 : Hid (Below W.heap.size W w1) := HB.out.grown hg1 HB.out.size (fun j hj => by cases hj; omega)
      have HRg1 : Hid (w1.ranges Try.prog 49 (plainElem Try.prog 3) mb r1 vs.length D (fun z => left z && !z.sameKey kl) cnt1) := hrg1
      have HLt : Hid (cnt1 < cnt) := hlt
      have HCnt : Hid (wr.rangeLeft mb r1 = cnt) := hrg.left_eq
      have HNd : Hid (vs.Nodup ∧ (∀ u ∈ vs, okV u) ∧ vs.getD i zV = (x0, x1, x2, x3) ∧ kl = klV (x0, x1, x2, x3)) := ⟨HI.out.nodup, HI.out.ok, hcg, hkl⟩
      have hci' : (i : Int) < (vs.length : Int) := by omega
      have d0 := hRow1.out.cell (i := i * 4) (by omega)
      have d1 := hRow1.out.cell (i := i * 4 + 1) (by omega)
      have d2 := hRow1.out.cell (i := i * 4 + 2) (by omega)
      have d3 := hRow1.out.cell (i := i * 4 + 3) (by omega)
      have f0 := hRow1.out.frozen (i * 4)
      have f1 := hRow1.out.frozen (i * 4 + 1)
      have f2 := hRow1.out.frozen (i * 4 + 2)
      have f3 := hRow1.out.frozen (i * 4 + 3)
      unfold rowAt at d0 d1 d2 d3
      generalize (if left (klV (vs.getD (i * 4 / 4) zV)) = true then 0 else (flatI vs).getD (i * 4) 0) = o0 at d0
      generalize (if left (klV (vs.getD ((i * 4 + 1) / 4) zV)) = true then 0 else (flatI vs).getD (i * 4 + 1) 0) = o1 at d1
      generalize (if left (klV (vs.getD ((i * 4 + 2) / 4) zV)) = true then 0 else (flatI vs).getD (i * 4 + 2) 0) = o2 at d2
      generalize (if left (klV (vs.getD ((i * 4 + 3) / 4) zV)) = true then 0 else (flatI vs).getD (i * 4 + 3) 0) = o3 at d3
      have hw1l : W.heap.size < w1.heap.size := hRow1.out.lt
      have HRg2 : Hid ((((((w1.setCell ⟨W.heap.size, i * 4, none⟩ (.int .i64 x0)).setCell ⟨W.heap.size, i * 4 + 1, none⟩ (.int .i64 x1)).setCell ⟨W.heap.size, i * 4 + 2, none⟩ (.int .i64 x2)).setCell ⟨W.heap.size, i * 4 + 3, none⟩ (.int .i64 x3)).alloc (.cells #[.int .i64 x0, .int .i64 x1, .int .i64 x2, .int .i64 x3] 49)).ranges Try.prog 49 (plainElem Try.prog 3) mb r1 vs.length D (fun z => left z && !z.sameKey kl) cnt1) := ranges_put (i0 := i * 4) (i1 := i * 4 + 1) (i2 := i * 4 + 2) (i3 := i * 4 + 3) HRg1.out (by omega) (by omega) (.int .i64 x0) (.int .i64 x1) (.int .i64 x2) (.int .i64 x3) (.cells #[.int .i64 x0, .int .i64 x1, .int .i64 x2, .int .i64 x3] 49)
      have HRow2 : Hid ((((((w1.setCell ⟨W.heap.size, i * 4, none⟩ (.int .i64 x0)).setCell ⟨W.heap.size, i * 4 + 1, none⟩ (.int .i64 x1)).setCell ⟨W.heap.size, i * 4 + 2, none⟩ (.int .i64 x2)).setCell ⟨W.heap.size, i * 4 + 3, none⟩ (.int .i64 x3)).alloc (.cells #[.int .i64 x0, .int .i64 x1, .int .i64 x2, .int .i64 x3] 49)).rowIs W.heap.size 49 (vs.length * 4) (rowAt vs (fun z => left z && !z.sameKey kl))) := by
        show World.rowIs _ _ _ _ _
        have h4 := row_step HNd.out.1 HNd.out.2.1 hci HNd.out.2.2.1 hRow1.out
        rw [← HNd.out.2.2.2] at h4
        exact World.rowIs.alloc h4 _
      have HB2 : Hid (Below W.heap.size W (((((w1.setCell ⟨W.heap.size, i * 4, none⟩ (.int .i64 x0)).setCell ⟨W.heap.size, i * 4 + 1, none⟩ (.int .i64 x1)).setCell ⟨W.heap.size, i * 4 + 2, none⟩ (.int .i64 x2)).setCell ⟨W.heap.size, i * 4 + 3, none⟩ (.int .i64 x3)).alloc (.cells #[.int .i64 x0, .int .i64 x1, .int .i64 x2, .int .i64 x3] 49))) := by show Below _ _ _; refine Below.trans HB1.out ?_; go_grown
      clear hkey hlk hv hat hrg1 hlt hg1 hs1 hcg hkl hx hidx hrg hrow
      unfold vV
      go_wp2
      go_roundw
      case rel => exact ⟨⟨_, cnt1, HRg2.out, HRow2.out⟩, HB2⟩
      case measure =>
        rw [HCnt.out, HRg2.out.left_eq]
        exact HLt.out
end Go.Proofs.Ytldmeffhbabanaa.nums
