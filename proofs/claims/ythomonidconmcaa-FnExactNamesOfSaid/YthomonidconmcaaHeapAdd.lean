/-
  What the program's setOf.add, setOf.has and namesIn do.
-/
import Derived.Test.YthomonidconmcaaProg
import Derived.Test.YthomonidconmcaaInts
import Derived.Test.YthomonidconmcaaOwnInts
import Derived.Test.YthomonidconmcaaDeep
import Derived.Test.YthomonidconmcaaDeepRow
import Derived.Test.YthomonidconmcaaDeepH
import Derived.Test.YthomonidconmcaaHeapMath
import Derived.Test.YthomonidconmcaaHeapSpec
import Derived.Test.YthomonidconmcaaPtrMap
import Derived.OwnWalk
import Derived.Deep.DeepCutAuto
import Derived.WalkKit
import Derived.WalkSpells
import Derived.Below
import Derived.Handy
namespace Go.Proofs.Ythomonidconmcaa.walks
open Go.RowKit Go.Proofs.Ythomonidconmcaa.math Go.Proofs.Ythomonidconmcaa.ints Go.Proofs.Ythomonidconmcaa.deep
set_option linter.unusedVariables false
set_option maxRecDepth 100000

theorem grow_toZ {a b c : World} {g : Option Nat} (h : a.grownBy b g) (k : b.grownBy c g) : a.grownBy c g :=
  ⟨k.os.trans h.os, k.tape.trans h.tape, k.output.trans h.output, Nat.le_trans h.size k.size, fun i hi hne => (k.block i (Nat.lt_of_lt_of_le hi h.size) hne).trans (h.block i hi hne)⟩
theorem grow_reflZ (w : World) (g : Option Nat) : w.grownBy w g := ⟨rfl, rfl, rfl, Nat.le_refl _, fun _ _ _ => rfl⟩
/-- A block that is a map holds no list. -/
theorem setZ_apart {w : World} {mb n b off : Nat} {f : Int → Bool} {zs : List Int} (h : SetZ w mb n f) (hi : Ints w (some ⟨b, off, none⟩) zs) (h0 : 0 < zs.length) : b ≠ mb := by
  rintro rfl
  rcases hi with rfl | ⟨b', o', e, hl, hc⟩
  · simp at h0
  · obtain ⟨es, clock, hb⟩ := h.isMap
    have := hc 0 h0
    simp only [Option.some.injEq, Addr.mk.injEq] at e
    obtain ⟨rfl, rfl, _⟩ := e
    simp [World.cell?, hb] at this
theorem take_snocZ {us : List Int} {k : Nat} (h : k < us.length) : us.take (k + 1) = us.take k ++ [us.getD k 0] := by
  rw [List.take_add_one, List.getElem?_eq_getElem h]
  simp [List.getD, List.getElem?_eq_getElem h]
theorem zeroUZ (w : World) : (zeroValue 86).run Try.prog w = .ok (.agg #[]) w := by kernel_rfl
set_option maxHeartbeats 2000000 in
theorem impl_addZ (mb n : Nat) (f : Int → Bool) (a : Option Addr) (len cap : Nat) (us : List Int) (W : World) (hz : Hid (us.length = len)) (hlen : len ≤ 1048576) (hn : n ≤ 1000000000) (h : Hid (Ints W a us)) (hu : Hid (∀ j, j < len → okZ (us.getD j 0))) (hs : Hid (SetZ W mb n f)) :
    Calls Try.prog 53 #[.map (some mb), .slice a len cap] W fun e W' => e = .returned (.tuple #[]) ∧ SetZ W' mb (n + len) (fun y => f y || decide (y ∈ us)) ∧ W.grownBy W' (some mb) := by
  go_enter Try.func53, Try.ntmps53
  go_wp2
  go_loopw [8] (fun vi wr => ∃ k : Nat, k ≤ len ∧ vi = .int .i64 k ∧ Hid (SetZ wr mb (n + k) (fun y => f y || decide (y ∈ us.take k))) ∧ Hid (W.grownBy wr (some mb))) (fun vi _ => len - (intOf vi).toNat)
  case atStart => exact ⟨0, Nat.zero_le _, rfl, by show SetZ _ _ _ _; simpa using hs.out, grow_reflZ _ _⟩
  case round =>
    obtain ⟨k, hk, rfl, HS, HG⟩ := hrel
    by_cases hlt : k < len
    · have hltI : (k : Int) < (len : Int) := by omega
      have hkl : k < us.length := by have := hz.out; omega
      obtain ⟨b, off, rfl, hcell⟩ : ∃ b off, a = some ⟨b, off, none⟩ ∧ wr.cell? ⟨b, off + k, none⟩ = some (.int .i64 (us.getD k 0)) := by
        obtain ⟨b, off, ha, hc⟩ := h.out.at (Below.refl _ _) hkl
        subst ha
        exact ⟨b, off, rfl, HG.out.cell hc (by simpa using setZ_apart hs.out h.out (by omega))⟩
      have hok := hu.out k hlt
      have HT : Hid (us.take (k + 1) = us.take k ++ [us.getD k 0]) := take_snocZ hkl
      generalize us.getD k 0 = x at hcell hok HT
      have HOK : Hid (okZ x) := hok
      obtain ⟨D, hD, hR⟩ := HS.out
      have HD : Hid (wr.ownsMap Try.prog 3 (unitElem (H := Unit)) mb (n + k) D) := hD
      have HRR : Hid (∀ y, okZ y → Maps.has D (.int .i64 y) = (fun y => f y || decide (y ∈ us.take k)) y) := hR
      clear hD hR hok
      go_wp2_with (at_mapUpdate; refine wpList_mapUpdate_own _ rfl _ _ _ 68 rfl 3 86 keyedZ Try.underlying68 unitElem mb (n + k) D rfl HD.out (by unfold maxLen; omega) _ _ (.int .i64 x) rfl rfl (keyZ HOK.out) (.agg []) [] unitElem_mk ?_; intro w1 hown1 hgrow1)
      have Q0 : Hid (SetZ w1 mb (n + (k + 1)) (fun y => f y || decide (y ∈ us.take (k + 1)))) := by
        show SetZ _ _ _ _
        refine ⟨_, by rw [← Nat.add_assoc]; exact hown1, fun y hy => ?_⟩
        rw [setZ_put HRR.out HD.out.isMap HOK.out _ y hy, HT.out]
        simp [Bool.or_assoc]
      have Q1 : Hid (W.grownBy w1 (some mb)) := grow_toZ HG.out hgrow1
      clear hown1 hgrow1
      go_wp2
      go_roundw
      case rel => exact ⟨k + 1, by omega, by go_num, Q0, Q1⟩
      case measure => simp [intOf]; omega
    · have HE : Hid (SetZ wr mb (n + len) (fun y => f y || decide (y ∈ us)) ∧ W.grownBy wr (some mb)) := by
        have q := HS.out
        rw [List.take_of_length_le (by have := hz.out; omega), show k = len by omega] at q
        exact ⟨q, HG.out⟩
      go_wp2
      exact bodyPost_end (v := .tuple #[]) (by simp [results, Try.results53, go_sem]) rfl ⟨rfl, HE.out⟩
theorem impl_hasZ (mb n : Nat) (x : Int) (f : Int → Bool) (W : World) (hx : Hid (okZ x)) (hs : Hid (SetZ W mb n f)) :
    Calls Try.prog 70 #[.map (some mb), .int .i64 x] W fun e W' => e = .returned (.bool (f x)) ∧ ∃ o, W' = W.alloc o := by
  obtain ⟨D, hD, hR⟩ := hs.out
  have HD : Hid (W.ownsMap Try.prog 3 (unitElem (H := Unit)) mb n D) := hD
  have hh := hR x hx.out
  clear hD hR
  go_enter Try.func70, Try.ntmps70
  go_wp2_with (at_lookup; refine wpList_lookup_own_unit _ rfl _ _ 68 rfl 3 86 keyedZ Try.underlying68 (zeroUZ _) mb n D rfl HD.out _ _ rfl (keyZ hx.out) ?_; rw [hh])
  go_ret
  exact ⟨rfl, _, rfl⟩
/-- The names of the first k objects. -/
def namesL (cs : Nat → Dv) (k : Nat) : List Int := (List.range k).map (hnm cs)
theorem namesL_succ (cs : Nat → Dv) (k : Nat) : namesL cs (k + 1) = namesL cs k ++ [hnm cs k] := by simp [namesL, List.range_succ]
theorem namesL_len (cs : Nat → Dv) (k : Nat) : (namesL cs k).length = k := by simp [namesL]
theorem namesL_at (cs : Nat → Dv) {k i : Nat} (h : i < k) : (namesL cs k).getD i 0 = hnm cs i := by simp [namesL, List.getD, h]
set_option maxHeartbeats 4000000 in
theorem impl_names (a : Option Addr) (n cap : Nat) (cs : Nat → Dv) (c : Bool) (W : World) (hf : Hid (Fits shObjectS (.l n 3 cs))) (hn : n ≤ 1048576) (h : Hid (Holds W c (.l n 3 cs) (.slice a n cap))) :
    Calls Try.prog 52 #[.slice a n cap] W fun e W' => ∃ v, e = .returned v ∧ Own W' W.heap.size v (namesL cs n) ∧ Below W.heap.size W W' := by
  obtain ⟨i0, hi, hz0, hz1, hz2⟩ := parts_of (P := Try.prog) (e := 3) (z := .int .i64 0) (a := 1) (b := 8) (by kernel_rfl)
  go_enter Try.func52, Try.ntmps52
  go_wp2
  go_loopw [3, 8] (fun vl vi wr => ∃ (k : Nat) (v : Value) (zs : List Int), k ≤ n ∧ vi = .int .i64 k ∧ v = vl ∧ Hid (zs = namesL cs k) ∧ Hid (Own wr W.heap.size v zs) ∧ Hid (Below W.heap.size W wr)) (fun _ vi _ => n - (intOf vi).toNat)
  case atStart => exact ⟨0, _, [], Nat.zero_le _, rfl, rfl, rfl, own_nil _ _, Below.refl _ _⟩
  case round =>
    obtain ⟨k, v, zs, hk, rfl, rfl, HZ, HO, HB⟩ := hrel
    have hwr := HB.out.size
    by_cases hlt : k < n
    rotate_left
    · have HA : Hid (Own wr W.heap.size v (namesL cs n)) := by
        have q := HO.out
        rw [HZ.out, show k = n by omega] at q; exact q
      go_wp2
      go_ret
      exact ⟨_, rfl, HA.out, HB.out⟩
    have hltI : (k : Int) < (n : Int) := by omega
    obtain ⟨b, o, la, lc, ha, hb, c0, c1, c2, -⟩ := obj_at h.out hf.out HB.out hlt
    subst ha
    have hbw : b < wr.heap.size := by omega
    have HL : Hid (zs.length = k) := by show _ = _; rw [HZ.out, namesL_len]
    have HZ2 : Hid (zs ++ [hnm cs k] = namesL cs (k + 1)) := by show _ = _; rw [HZ.out, namesL_succ]
    generalize hnm cs k = x at c0 HZ2
    generalize hod cs k = z at c1
    generalize hnl cs k = L at c2
    obtain ⟨X, hX⟩ : ∃ X, Hid (wr.alloc (.cells #[.int .i64 x, .bool z, .slice la L lc] 45) = X) := ⟨_, rfl⟩
    have BX : Hid (Below wr.heap.size wr X) := by show Below _ _ _; rw [← hX.out]; exact (Below.refl _ _).alloc (Nat.le_refl _) _
    have OX : Hid (Own X W.heap.size v zs) := by show Own _ _ _ _; rw [← hX.out]; exact World.ownsRow.alloc HO.out _
    have HXB : Hid (Below W.heap.size W X) := HB.out.trans (BX.out.mono hwr)
    have e0 : X.cell? ⟨wr.heap.size, 0, none⟩ = some (.int .i64 x) := by rw [← hX.out]; simp
    have el : wr.heap.size < X.heap.size := by rw [← hX.out]; simp
    go_upto_region 5 with fail
    rw [hX.out]
    have hXs := HXB.out.size
    clear c0 c1 c2 HO HZ BX
    go_wp2_with (first
      | (at_builtin; refine wpList_append_own _ rfl _ _ 23 rfl W.heap.size 3 i0 (.int .i64 0) 1 8 Try.underlying23 hi hz0 hz1 hz2 rfl (by decide) _ zs.length (zs.map (Value.int .i64)) rfl (World.ownsRow.alloc OX.out _) ⟨X.heap.size, 0, none⟩ 1 1 [.int .i64 x] rfl rfl (new_one X x _) (one_of x) (by rw [HL.out]; unfold maxLen; omega) (by rw [HL.out]; omega) (by simp; omega) ?_))
    intro v5 w5 hown hgrow _
    obtain ⟨p1, p2, p3⟩ := Own.snoc OX.out hXs HXB.out hown hgrow
    have O5 : Hid (Own w5 W.heap.size v5 (zs ++ [x])) := p1
    have B5 : Hid (Below W.heap.size W w5) := p2
    clear p1 p2 p3 hown hgrow
    go_wp2
    go_roundw
    case rel => exact ⟨k + 1, v5, zs ++ [x], by omega, by go_num, rfl, HZ2, O5, B5⟩
    case measure => simp [intOf]; omega
end Go.Proofs.Ythomonidconmcaa.walks
