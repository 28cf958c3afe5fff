/-
  What NamesOf answers, on both sides.
-/
import Derived.Test.YthomonidconmcaaProg
import Derived.Test.YthomonidconmcaaInts
import Derived.Test.YthomonidconmcaaOwnInts
import Derived.Test.YthomonidconmcaaOwnMath
import Derived.Test.YthomonidconmcaaDeep
import Derived.Test.YthomonidconmcaaDeepOpen
import Derived.Test.YthomonidconmcaaDeepRow
import Derived.Test.YthomonidconmcaaDeepH
import Derived.Test.YthomonidconmcaaHeapMath
import Derived.Test.YthomonidconmcaaHeapSpec
import Derived.Test.YthomonidconmcaaHeapGood
import Derived.Test.YthomonidconmcaaHeapAdd
import Derived.Test.YthomonidconmcaaHeapObj
import Derived.Test.YthomonidconmcaaHeapMake
import Derived.Test.YthomonidconmcaaHeapNames
import Derived.OwnWalk
import Derived.Deep.DeepCutAuto
import Derived.WalkKit
import Derived.WalkSpells
import Derived.Below
import Derived.Handy
namespace Go.Proofs.Ythomonidconmcaa.walks
open Go.RowKit Go.Proofs.Ythomonidconmcaa.math Go.Proofs.Ythomonidconmcaa.ints Go.Proofs.Ythomonidconmcaa.deep
set_option linter.unusedVariables false
set_option maxRecDepth 100000

theorem own_low14 {w : World} {B B' : Nat} {v : Value} {zs : List Int} (h : Own w B v zs) (hb : B' ≤ B) : Own w B' v zs := by
  refine ⟨h.1, ?_⟩
  rcases h.2 with q | ⟨g, cap, cur, e, hg, r⟩
  · exact Or.inl q
  · exact Or.inr ⟨g, cap, cur, e, Nat.le_trans hb hg, r⟩
def NamesTo (cs : Nat → Dv) (n : Nat) (rs ns : List Int) (nx : Int) (W : World) (e : Ending) (W' : World) : Prop :=
  ((heapB cs n rs ns nx = true ∧ ∃ v, e = .returned (.tuple #[v, .bool true]) ∧ Own W' W.heap.size v (namesL cs n)) ∨ (heapB cs n rs ns nx = false ∧ e = .returned (.tuple #[.slice none 0 0, .bool false]))) ∧ Below W.heap.size W W'
theorem namesL_rise {cs : Nat → Dv} {n : Nat} (h : ∀ k, k + 1 < n → hnm cs k < hnm cs (k + 1)) : (namesL cs n).Pairwise (· < ·) := by
  unfold namesL
  rw [List.pairwise_map]
  refine (List.pairwise_lt_range (n := n)).imp_of_mem (fun {a b} ha hb q => ?_)
  have hb' := List.mem_range.1 hb
  have := names_lt h (b - a - 1) a (by omega)
  rwa [show a + (b - a - 1) + 1 = b by omega] at this
theorem namesL_mem {cs : Nat → Dv} {n : Nat} {x : Int} : x ∈ namesL cs n ↔ ∃ j, j < n ∧ hnm cs j = x := by
  unfold namesL
  simp [List.mem_map]
set_option maxHeartbeats 4000000 in
theorem impl_namesof (a : Option Addr) (n cap : Nat) (ra : Option Addr) (rl rc : Nat) (na : Option Addr) (nl nc : Nat) (nx : Int) (cs : Nat → Dv) (rs ns : List Int) (c : Bool) (W : World) (hf : Hid (Fits shObjectS (.l n 3 cs))) (hs : Hid (szD (.l n 3 cs) ≤ 1048576)) (h : Hid (Holds W c (.l n 3 cs) (.slice a n cap))) (hzr : Hid (rs.length = rl)) (hrl : rl ≤ 1048576) (Ir : Hid (Ints W ra rs)) (hzn : Hid (ns.length = nl)) (hnnl : nl ≤ 1048576) (In : Hid (Ints W na ns)) (HWl : Hid (∀ k, k < n → ∀ x ∈ hls cs k, okZ x)) (HWr : Hid (∀ x ∈ rs, okZ x)) :
    Calls Try.prog 22 #[.agg #[.slice a n cap, .slice ra rl rc, .slice na nl nc, .int .i64 nx]] W fun e W' => NamesTo cs n rs ns nx W e W' := by
  obtain ⟨X, hX⟩ : ∃ X, Hid (W.alloc (.cells #[.slice a n cap, .slice ra rl rc, .slice na nl nc, .int .i64 nx] 30) = X) := ⟨_, rfl⟩
  have HX : Hid (Below W.heap.size W X) := by show Below _ _ _; rw [← hX.out]; exact (Below.refl _ _).alloc (Nat.le_refl _) _
  have hRX := row_of W #[.slice a n cap, .slice ra rl rc, .slice na nl nc, .int .i64 nx] 30
  rw [hX.out] at hRX
  have r0 : X.cell? ⟨W.heap.size, 0, none⟩ = some (.slice a n cap) := hRX.cell (i := 0) (by simp)
  have r1 : X.cell? ⟨W.heap.size, 1, none⟩ = some (.slice ra rl rc) := hRX.cell (i := 1) (by simp)
  have r2 : X.cell? ⟨W.heap.size, 2, none⟩ = some (.slice na nl nc) := hRX.cell (i := 2) (by simp)
  have r3 : X.cell? ⟨W.heap.size, 3, none⟩ = some (.int .i64 nx) := hRX.cell (i := 3) (by simp)
  have hc := impl_made a n cap ra rl rc na nl nc nx cs rs ns c X hf hs (h.out.kept HX.out) hzr hrl (Ir.out.kept HX.out) hzn hnnl (In.out.kept HX.out) HWl HWr
  clear hRX
  go_enter Try.func22, Try.ntmps22
  go_wp2_with fail
  rw [hX.out]
  go_wp2_with fail
  refine hc.mono ?_
  rintro e w1 ⟨v, rfl, hB, hrun⟩
  have B1 : Hid (Below W.heap.size W w1) := HX.out.trans (hB.mono HX.out.size)
  have HRUN := (show Hid _ from hrun)
  clear hB hc r0 r1 r2 r3 hrun
  cases hb : heapB cs n rs ns nx
  · have HA : Hid (NamesTo cs n rs ns nx W (.returned (.tuple #[.slice none 0 0, .bool false])) w1) := ⟨Or.inr ⟨hb, rfl⟩, B1.out⟩
    go_wp2
    go_ret2
    exact HA.out
  · obtain ⟨rp, mp, sp, m, p, rfl, hR⟩ := HRUN.out hb
    have HR : Hid (RunAt w1 X.heap.size rp mp sp n m p ⟨objF cs n, rs, fun x => decide (x ∈ ns), nx⟩) := hR
    have hok := heap_out hb
    have HN : Hid (NamesOk cs n nx ∧ n ≤ 24 ∧ nx ≤ 1000) := ⟨hok.2.1, hok.1.1, hok.1.2.2.2⟩
    have r0 : w1.cell? ⟨rp, 0, none⟩ = some (.map (some mp)) := HR.out.row.cell (i := 0) (by decide)
    have hcn := impl_sortedkeys mp n p (namesL cs n) rp w1 (by have := HN.out.2.1; omega) HR.out.map r0 (namesL_rise HN.out.1.2) (fun x hx => by
      rw [HR.out.is x, namesL_mem]
      constructor
      · rintro ⟨j, hj, e⟩
        show (objF cs n x).isSome = true
        rw [← e, objF_at HN.out.1.2 (Nat.le_refl _) hj]; rfl
      · intro q
        obtain ⟨o, e⟩ := Option.isSome_iff_exists.1 q
        obtain ⟨j, hj, e2, _⟩ := objF_some e
        exact ⟨j, hj, e2⟩) (fun x hx => by
      obtain ⟨j, hj, e⟩ := namesL_mem.1 hx
      have q := HN.out.1.1 j hj
      have q2 := HN.out.2.2
      exact okZ_of (by omega) (by omega))
    clear hR hok HRUN r0
    go_wp2_with fail
    refine hcn.mono ?_
    rintro e w2 ⟨v2, rfl, hO, hB⟩
    have HA : Hid (NamesTo cs n rs ns nx W (.returned (.tuple #[v2, .bool true])) w2) := ⟨Or.inl ⟨hb, v2, rfl, own_low14 hO B1.out.size⟩, B1.out.trans (hB.mono B1.out.size)⟩
    clear hO hB hcn
    go_wp2
    go_ret2
    exact HA.out
set_option maxHeartbeats 4000000 in
theorem spec_namesof (a : Option Addr) (n cap : Nat) (ra : Option Addr) (rl rc : Nat) (na : Option Addr) (nl nc : Nat) (nx : Int) (cs : Nat → Dv) (rs ns : List Int) (c : Bool) (W : World) (hf : Hid (Fits shObjectS (.l n 3 cs))) (hs : Hid (szD (.l n 3 cs) ≤ 1048576)) (h : Hid (Holds W c (.l n 3 cs) (.slice a n cap))) (hzr : Hid (rs.length = rl)) (hrl : rl ≤ 1048576) (Ir : Hid (Ints W ra rs)) (hzn : Hid (ns.length = nl)) (hnnl : nl ≤ 1048576) (In : Hid (Ints W na ns)) :
    Calls Try.prog 21 #[.agg #[.slice a n cap, .slice ra rl rc, .slice na nl nc, .int .i64 nx]] W fun e W' => NamesTo cs n rs ns nx W e W' := by
  obtain ⟨i0, hi, hz0, hz1, hz2⟩ := parts_of (P := Try.prog) (e := 3) (z := .int .i64 0) (a := 1) (b := 8) (by kernel_rfl)
  have hn : n ≤ 1048576 := Nat.le_trans (Nat.le_add_right _ _) hs.out
  obtain ⟨X, hX⟩ : ∃ X, Hid (W.alloc (.cells #[.slice a n cap, .slice ra rl rc, .slice na nl nc, .int .i64 nx] 30) = X) := ⟨_, rfl⟩
  have HX : Hid (Below W.heap.size W X) := by show Below _ _ _; rw [← hX.out]; exact (Below.refl _ _).alloc (Nat.le_refl _) _
  have hRX := row_of W #[.slice a n cap, .slice ra rl rc, .slice na nl nc, .int .i64 nx] 30
  rw [hX.out] at hRX
  have HRX : Hid (X.rowIs W.heap.size 30 4 (rowF [.slice a n cap, .slice ra rl rc, .slice na nl nc, .int .i64 nx])) := hRX
  have r0 : X.cell? ⟨W.heap.size, 0, none⟩ = some (.slice a n cap) := hRX.cell (i := 0) (by simp)
  have r1 : X.cell? ⟨W.heap.size, 1, none⟩ = some (.slice ra rl rc) := hRX.cell (i := 1) (by simp)
  have r2 : X.cell? ⟨W.heap.size, 2, none⟩ = some (.slice na nl nc) := hRX.cell (i := 2) (by simp)
  have r3 : X.cell? ⟨W.heap.size, 3, none⟩ = some (.int .i64 nx) := hRX.cell (i := 3) (by simp)
  have hc := spec_heap14 a n cap ra rl rc na nl nc nx cs rs ns c X hf hs (h.out.kept HX.out) hzr hrl (Ir.out.kept HX.out) hzn hnnl (In.out.kept HX.out)
  clear hRX
  cases hb : heapB cs n rs ns nx
  · rw [hb] at hc
    have HB : Hid (heapB cs n rs ns nx = false) := hb
    clear hb
    go_enter Try.func21, Try.ntmps21
    go_wp2_with fail
    rw [hX.out]
    go_wp2_with fail
    refine hc.mono ?_
    rintro e w1 ⟨rfl, hB⟩
    have HA : Hid (NamesTo cs n rs ns nx W (.returned (.tuple #[.slice none 0 0, .bool false])) w1) := ⟨Or.inr ⟨HB.out, rfl⟩, HX.out.trans (hB.mono HX.out.size)⟩
    clear hB hc r0 r1 r2 r3
    go_wp2
    go_ret2
    exact HA.out
  rw [hb] at hc
  have HB0 : Hid (heapB cs n rs ns nx = true) := hb
  clear hb
  go_enter Try.func21, Try.ntmps21
  go_wp2_with fail
  rw [hX.out]
  go_wp2_with fail
  refine hc.mono ?_
  rintro e w1 ⟨rfl, hB⟩
  have B1 : Hid (Below W.heap.size W w1) := HX.out.trans (hB.mono HX.out.size)
  have R1 : Hid (w1.rowIs W.heap.size 30 4 (rowF [.slice a n cap, .slice ra rl rc, .slice na nl nc, .int .i64 nx])) := HRX.out.of_block (hB.block _ HRX.out.lt)
  clear hB hc r0 r1 r2 r3 hX HX HRX
  have r0 : w1.cell? ⟨W.heap.size, 0, none⟩ = some (.slice a n cap) := R1.out.cell (i := 0) (by decide)
  have rl0 := R1.out.lt
  have hW1 := B1.out.size
  go_wp2
  clear r0 rl0
  go_loopw [4, 13] (fun vl vi wr => ∃ (k : Nat) (v : Value) (zs : List Int), k ≤ n ∧ vi = .int .i64 k ∧ v = vl ∧ Hid (zs = namesL cs k) ∧ Hid (Own wr w1.heap.size v zs) ∧ Hid (Below w1.heap.size w1 wr)) (fun _ vi _ => n - (intOf vi).toNat)
  case atStart => exact ⟨0, _, [], Nat.zero_le _, rfl, rfl, rfl, own_nil _ _, Below.refl _ _⟩
  case round =>
    obtain ⟨k, v, zs, hk, rfl, rfl, HZ, HO, HBr⟩ := hrel
    have hwr := HBr.out.size
    have HB : Hid (Below W.heap.size W wr) := B1.out.trans (HBr.out.mono hW1)
    by_cases hlt : k < n
    rotate_left
    · have HA : Hid (NamesTo cs n rs ns nx W (.returned (.tuple #[v, .bool true])) wr) := ⟨Or.inl ⟨HB0.out, v, rfl, by
        have q := own_low14 HO.out hW1
        rw [HZ.out, show k = n by omega] at q; exact q⟩, HB.out⟩
      go_wp2
      go_ret2
      exact HA.out
    have hltI : (k : Int) < (n : Int) := by omega
    obtain ⟨b, o, la, lc, ha, hbb, c0, c1, c2, -⟩ := obj_at h.out hf.out HB.out hlt
    subst ha
    have hbw : b < wr.heap.size := by omega
    have HL : Hid (zs.length = k) := by show _ = _; rw [HZ.out, namesL_len]
    have HZ2 : Hid (zs ++ [hnm cs k] = namesL cs (k + 1)) := by show _ = _; rw [HZ.out, namesL_succ]
    generalize hnm cs k = x at c0 HZ2
    generalize hod cs k = z at c1
    generalize hnl cs k = L at c2
    obtain ⟨X, hX⟩ : ∃ X, Hid (wr.alloc (.cells #[.int .i64 x, .bool z, .slice la L lc] 45) = X) := ⟨_, rfl⟩
    have BX : Hid (Below wr.heap.size wr X) := by show Below _ _ _; rw [← hX.out]; exact (Below.refl _ _).alloc (Nat.le_refl _) _
    have OX : Hid (Own X w1.heap.size v zs) := by show Own _ _ _ _; rw [← hX.out]; exact World.ownsRow.alloc HO.out _
    have HXB : Hid (Below w1.heap.size w1 X) := HBr.out.trans (BX.out.mono hwr)
    have e0 : X.cell? ⟨wr.heap.size, 0, none⟩ = some (.int .i64 x) := by rw [← hX.out]; simp
    have el : wr.heap.size < X.heap.size := by rw [← hX.out]; simp
    go_upto_region 7 with fail
    rw [hX.out]
    have hXs := HXB.out.size
    clear c0 c1 c2 HO HZ BX
    go_wp2_with (first
      | (at_builtin; refine wpList_append_own _ rfl _ _ 23 rfl w1.heap.size 3 i0 (.int .i64 0) 1 8 Try.underlying23 hi hz0 hz1 hz2 rfl (by decide) _ zs.length (zs.map (Value.int .i64)) rfl (World.ownsRow.alloc OX.out _) ⟨X.heap.size, 0, none⟩ 1 1 [.int .i64 x] rfl rfl (new_one X x _) (one_of x) (by rw [HL.out]; unfold maxLen; omega) (by rw [HL.out]; omega) (by simp; omega) ?_))
    intro v5 w5 hown hgrow _
    obtain ⟨p1, p2, p3⟩ := Own.snoc OX.out hXs HXB.out hown hgrow
    have O5 : Hid (Own w5 w1.heap.size v5 (zs ++ [x])) := p1
    have B5 : Hid (Below w1.heap.size w1 w5) := p2
    clear p1 p2 p3 hown hgrow
    go_wp2
    go_roundw
    case rel => exact ⟨k + 1, v5, zs ++ [x], by omega, by go_num, rfl, HZ2, O5, B5⟩
    case measure => simp [intOf]; omega
end Go.Proofs.Ythomonidconmcaa.walks
