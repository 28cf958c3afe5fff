/-
  What the program's pairValue answers.
-/
import Derived.Test.YtldmeffhbabanaaProg
import Derived.Test.YtldmeffhbabanaaNumSimp
import Derived.Test.YtldmeffhbabanaaNumSet
import Derived.Test.YtldmeffhbabanaaTwoWords
import Derived.WalkKit
import Derived.WalkSpells
import Derived.Below
import Derived.Handy
import Derived.Deep.RegionWith
namespace Go.Proofs.Ytldmeffhbabanaa.nums
open Go.RowKit Go.Proofs.Ytldmeffhbabanaa.math Go.Proofs.Ytldmeffhbabanaa.walks
set_option linter.unusedVariables false

/-- What pairValue answers. -/
def PairAns (v : V) (W : World) (e : Ending) (W' : World) : Prop := e = .returned (vV v) ∧ Below W.heap.size W W'
set_option maxHeartbeats 1000000 in
theorem pair_known (o : Int) (x1 x2 x3 y1 y2 y3 : Int) (nb : Nat) (W : World) (o3 : 3 ≤ o) (o7 : o ≤ 7) (hx : Hid (okV (1, x1, x2, x3))) (hy : Hid (okV (1, y1, y2, y3))) :
    Calls Try.prog 62 #[.pointer (some ⟨nb, 0, none⟩), .int .i64 o, .agg #[.int .i64 1, .int .i64 x1, .int .i64 x2, .int .i64 x3], .agg #[.int .i64 1, .int .i64 y1, .int .i64 y2, .int .i64 y3]] W fun e W' => PairAns (kon (doV o x3 y3)) W e W' := by
  have p0 := hx.out.2.2.2.1
  have p1 := hx.out.2.2.2.2
  have r0 := hy.out.2.2.2.1
  have r1 := hy.out.2.2.2.2
  go_enter Try.func62, Try.ntmps62
  go_wp2_with (first
    | (go_at_call 58; refine (impl_pair _ _ _ _ o3 o7 p0 p1 r0 r1).mono ?_; rintro e w' ⟨rfl, rfl⟩)
    | go_in)
  exact bodyPost_ret (v := .agg #[.int .i64 1, .int .i64 0, .int .i64 0, .int .i64 (doV o x3 y3)]) (by simp [results, Try.results62, go_sem]) rfl ⟨rfl, by go_grown⟩
theorem map_far {W w' : World} {mb : Nat} {vs : List V} (h : MapIs W mb vs) (hb : Below W.heap.size W w') : MapIs w' mb vs := h.of_block (hb.block mb h.lt)
set_option maxHeartbeats 1000000 in
theorem pair_simplex (o : Int) (x0 x1 x2 x3 y0 y1 y2 y3 z0 z1 z2 z3 : Int) (nb : Nat) (W : World) (o3 : 3 ≤ o) (o7 : o ≤ 7) (hk : (x0 == 1) = false) (hk2 : decide (x0 = 1) = false) (hk3 : ¬ x0 = 1) (hs : Hid (simpV o (x0, x1, x2, x3) (y0, y1, y2, y3) = some (z0, z1, z2, z3))) :
    Calls Try.prog 62 #[.pointer (some ⟨nb, 0, none⟩), .int .i64 o, .agg #[.int .i64 x0, .int .i64 x1, .int .i64 x2, .int .i64 x3], .agg #[.int .i64 y0, .int .i64 y1, .int .i64 y2, .int .i64 y3]] W fun e W' => PairAns (z0, z1, z2, z3) W e W' := by
  go_enter Try.func62, Try.ntmps62
  go_wp2_with (go_at_call 42; go_in)
  refine (impl_simpler o (x0, x1, x2, x3) (y0, y1, y2, y3) _ o3 o7).mono ?_
  rintro e w' ⟨he, hb⟩
  rw [hs.out] at he
  simp only [Option.getD_some, Option.isSome_some, vV] at he
  subst he
  have d0 : w'.cell? ⟨W.heap.size + 1 + 1, 0, none⟩ = some (.int .i64 0) := (hb.cell (p := ⟨W.heap.size + 1 + 1, 0, none⟩) (by simp <;> omega)).trans (by go_simp)
  have d1 : w'.cell? ⟨W.heap.size + 1 + 1, 1, none⟩ = some (.int .i64 0) := (hb.cell (p := ⟨W.heap.size + 1 + 1, 1, none⟩) (by simp <;> omega)).trans (by go_simp)
  have d2 : w'.cell? ⟨W.heap.size + 1 + 1, 2, none⟩ = some (.int .i64 0) := (hb.cell (p := ⟨W.heap.size + 1 + 1, 2, none⟩) (by simp <;> omega)).trans (by go_simp)
  have d3 : w'.cell? ⟨W.heap.size + 1 + 1, 3, none⟩ = some (.int .i64 0) := (hb.cell (p := ⟨W.heap.size + 1 + 1, 3, none⟩) (by simp <;> omega)).trans (by go_simp)
  have f0 : w'.frozen? ⟨W.heap.size + 1 + 1, 0, none⟩ = false := (hb.frozen (p := ⟨W.heap.size + 1 + 1, 0, none⟩) (by simp <;> omega)).trans (by go_simp)
  have f1 : w'.frozen? ⟨W.heap.size + 1 + 1, 1, none⟩ = false := (hb.frozen (p := ⟨W.heap.size + 1 + 1, 1, none⟩) (by simp <;> omega)).trans (by go_simp)
  have f2 : w'.frozen? ⟨W.heap.size + 1 + 1, 2, none⟩ = false := (hb.frozen (p := ⟨W.heap.size + 1 + 1, 2, none⟩) (by simp <;> omega)).trans (by go_simp)
  have f3 : w'.frozen? ⟨W.heap.size + 1 + 1, 3, none⟩ = false := (hb.frozen (p := ⟨W.heap.size + 1 + 1, 3, none⟩) (by simp <;> omega)).trans (by go_simp)
  have HB : Hid (Below W.heap.size W w') := (by show Below _ _ _; refine Below.trans ?_ (hb.mono (by simp; omega)); go_grown)
  have hsz := HB.out.size
  have hlt : W.heap.size + 1 + 1 < w'.heap.size := (by have := hb.size; simp at this; omega)
  have hne : W.heap.size + 1 + 1 ≠ w'.heap.size := by omega
  clear hb
  go_wp2
  refine bodyPost_ret (v := .agg #[.int .i64 z0, .int .i64 z1, .int .i64 z2, .int .i64 z3]) (by simp only [results, Try.results62]; go_simp) rfl ⟨rfl, ?_⟩
  refine Below.trans HB.out ?_
  go_grown
set_option maxRecDepth 100000 in
set_option maxHeartbeats 2000000 in
theorem pair_plainx0 (o : Int) (x0 x1 x2 x3 y0 y1 y2 y3 : Int) (i1 i2 nb mb : Nat) (vs ns : List V) (W : World) (o3 : 3 ≤ o) (o7 : o ≤ 7) (hk : (x0 == 1) = false) (hk2 : decide (x0 = 1) = false) (hk3 : ¬ x0 = 1) (hs : Hid (simpV o (x0, x1, x2, x3) (y0, y1, y2, y3) = none)) (hN : Hid (Num W nb mb vs ns)) (hx : Hid (okV (x0, x1, x2, x3) ∧ (x0, x1, x2, x3) ∈ vs ∧ idx vs (x0, x1, x2, x3) = i1)) (hy : Hid (okV (y0, y1, y2, y3) ∧ (y0, y1, y2, y3) ∈ vs ∧ idx vs (y0, y1, y2, y3) = i2)) (he0 : Hid (eitherB o = true)) (hl : (i2 : Int) < (i1 : Int)) :
    Calls Try.prog 62 #[.pointer (some ⟨nb, 0, none⟩), .int .i64 o, .agg #[.int .i64 x0, .int .i64 x1, .int .i64 x2, .int .i64 x3], .agg #[.int .i64 y0, .int .i64 y1, .int .i64 y2, .int .i64 y3]] W fun e W' => PairAns (o, (i2 : Int), (i1 : Int), 0) W e W' := by
  have hnb := hN.out.1.lt
  go_enter Try.func62, Try.ntmps62
  go_wp2_with (go_at_call 42; go_in)
  refine (impl_simpler o (x0, x1, x2, x3) (y0, y1, y2, y3) _ o3 o7).mono ?_
  rintro e w' ⟨he, hb⟩
  rw [hs.out] at he
  simp only [Option.getD_none, Option.isSome_none, vV, zV] at he
  subst he
  have a0 : w'.cell? ⟨W.heap.size, 0, none⟩ = some (.int .i64 x0) := (hb.cell (p := ⟨W.heap.size, 0, none⟩) (by simp <;> omega)).trans (by go_simp)
  have a1 : w'.cell? ⟨W.heap.size, 1, none⟩ = some (.int .i64 x1) := (hb.cell (p := ⟨W.heap.size, 1, none⟩) (by simp <;> omega)).trans (by go_simp)
  have a2 : w'.cell? ⟨W.heap.size, 2, none⟩ = some (.int .i64 x2) := (hb.cell (p := ⟨W.heap.size, 2, none⟩) (by simp <;> omega)).trans (by go_simp)
  have a3 : w'.cell? ⟨W.heap.size, 3, none⟩ = some (.int .i64 x3) := (hb.cell (p := ⟨W.heap.size, 3, none⟩) (by simp <;> omega)).trans (by go_simp)
  have b0 : w'.cell? ⟨W.heap.size + 1, 0, none⟩ = some (.int .i64 y0) := (hb.cell (p := ⟨W.heap.size + 1, 0, none⟩) (by simp <;> omega)).trans (by go_simp)
  have b1 : w'.cell? ⟨W.heap.size + 1, 1, none⟩ = some (.int .i64 y1) := (hb.cell (p := ⟨W.heap.size + 1, 1, none⟩) (by simp <;> omega)).trans (by go_simp)
  have b2 : w'.cell? ⟨W.heap.size + 1, 2, none⟩ = some (.int .i64 y2) := (hb.cell (p := ⟨W.heap.size + 1, 2, none⟩) (by simp <;> omega)).trans (by go_simp)
  have b3 : w'.cell? ⟨W.heap.size + 1, 3, none⟩ = some (.int .i64 y3) := (hb.cell (p := ⟨W.heap.size + 1, 3, none⟩) (by simp <;> omega)).trans (by go_simp)
  have d0 : w'.cell? ⟨W.heap.size + 1 + 1, 0, none⟩ = some (.int .i64 0) := (hb.cell (p := ⟨W.heap.size + 1 + 1, 0, none⟩) (by simp <;> omega)).trans (by go_simp)
  have d1 : w'.cell? ⟨W.heap.size + 1 + 1, 1, none⟩ = some (.int .i64 0) := (hb.cell (p := ⟨W.heap.size + 1 + 1, 1, none⟩) (by simp <;> omega)).trans (by go_simp)
  have d2 : w'.cell? ⟨W.heap.size + 1 + 1, 2, none⟩ = some (.int .i64 0) := (hb.cell (p := ⟨W.heap.size + 1 + 1, 2, none⟩) (by simp <;> omega)).trans (by go_simp)
  have d3 : w'.cell? ⟨W.heap.size + 1 + 1, 3, none⟩ = some (.int .i64 0) := (hb.cell (p := ⟨W.heap.size + 1 + 1, 3, none⟩) (by simp <;> omega)).trans (by go_simp)
  have f0 : w'.frozen? ⟨W.heap.size + 1 + 1, 0, none⟩ = false := (hb.frozen (p := ⟨W.heap.size + 1 + 1, 0, none⟩) (by simp <;> omega)).trans (by go_simp)
  have f1 : w'.frozen? ⟨W.heap.size + 1 + 1, 1, none⟩ = false := (hb.frozen (p := ⟨W.heap.size + 1 + 1, 1, none⟩) (by simp <;> omega)).trans (by go_simp)
  have f2 : w'.frozen? ⟨W.heap.size + 1 + 1, 2, none⟩ = false := (hb.frozen (p := ⟨W.heap.size + 1 + 1, 2, none⟩) (by simp <;> omega)).trans (by go_simp)
  have f3 : w'.frozen? ⟨W.heap.size + 1 + 1, 3, none⟩ = false := (hb.frozen (p := ⟨W.heap.size + 1 + 1, 3, none⟩) (by simp <;> omega)).trans (by go_simp)
  have HB : Hid (Below W.heap.size W w') := (by show Below _ _ _; refine Below.trans ?_ (hb.mono (by simp; omega)); go_grown)
  have hsz := HB.out.size
  have hlt : W.heap.size + 1 + 1 < w'.heap.size := (by have := hb.size; simp at this; omega)
  have hne : W.heap.size + 1 + 1 ≠ w'.heap.size := by omega
  have hna : W.heap.size < w'.heap.size := by omega
  have hnc : W.heap.size + 1 < w'.heap.size := by omega
  have hnd : nb < w'.heap.size := by omega
  have e0 : w'.cell? ⟨nb, 0, none⟩ = some (.map (some mb)) := (HB.out.cell (p := ⟨nb, 0, none⟩) hnb).trans (num_map hN.out)
  have HM := ((map_far hN.out.2 HB.out).alloc (.cells #[.int .i64 0, .int .i64 0, .int .i64 0, .int .i64 0] 49)).drew
  have l1 := HM.look hx.out.1 hx.out.2.1
  have l2 := HM.look hy.out.1 hy.out.2.1
  rw [hx.out.2.2] at l1
  rw [hy.out.2.2] at l2
  simp only [vV] at l1 l2
  clear hb HM
  have hg2 : W.heap.size ≤ W.heap.size + 1 + 1 := by omega
  generalize W.heap.size + 1 + 1 = p2 at d0 d1 d2 d3 f0 f1 f2 f3 hlt hne hg2 ⊢
  generalize W.heap.size + 1 = p1 at b0 b1 b2 b3 hnc ⊢
  generalize hp0 : W.heap.size = p0 at a0 a1 a2 a3 hna ⊢
  go_wp2
  go_region
  all_goals go_wp2_with (go_at_call 70; refine (impl_either _ _ o3 o7).mono ?_; rw [he0.out]; rintro e w2 ⟨rfl, hw⟩; rw [hw]; clear hw w2)
  all_goals refine bodyPost_ret (v := .agg #[.int .i64 o, .int .i64 (i2 : Int), .int .i64 (i1 : Int), .int .i64 0]) (by simp only [results, Try.results62]; go_simp) rfl ⟨rfl, ?_⟩
  all_goals subst hp0
  all_goals refine Below.trans HB.out ?_
  all_goals go_grown
set_option maxRecDepth 100000 in
set_option maxHeartbeats 2000000 in
theorem pair_plainx1 (o : Int) (x0 x1 x2 x3 y0 y1 y2 y3 : Int) (i1 i2 nb mb : Nat) (vs ns : List V) (W : World) (o3 : 3 ≤ o) (o7 : o ≤ 7) (hk : (x0 == 1) = false) (hk2 : decide (x0 = 1) = false) (hk3 : ¬ x0 = 1) (hs : Hid (simpV o (x0, x1, x2, x3) (y0, y1, y2, y3) = none)) (hN : Hid (Num W nb mb vs ns)) (hx : Hid (okV (x0, x1, x2, x3) ∧ (x0, x1, x2, x3) ∈ vs ∧ idx vs (x0, x1, x2, x3) = i1)) (hy : Hid (okV (y0, y1, y2, y3) ∧ (y0, y1, y2, y3) ∈ vs ∧ idx vs (y0, y1, y2, y3) = i2)) (he0 : Hid (eitherB o = true)) (hl : (i1 : Int) ≤ (i2 : Int)) :
    Calls Try.prog 62 #[.pointer (some ⟨nb, 0, none⟩), .int .i64 o, .agg #[.int .i64 x0, .int .i64 x1, .int .i64 x2, .int .i64 x3], .agg #[.int .i64 y0, .int .i64 y1, .int .i64 y2, .int .i64 y3]] W fun e W' => PairAns (o, (i1 : Int), (i2 : Int), 0) W e W' := by
  have hnb := hN.out.1.lt
  go_enter Try.func62, Try.ntmps62
  go_wp2_with (go_at_call 42; go_in)
  refine (impl_simpler o (x0, x1, x2, x3) (y0, y1, y2, y3) _ o3 o7).mono ?_
  rintro e w' ⟨he, hb⟩
  rw [hs.out] at he
  simp only [Option.getD_none, Option.isSome_none, vV, zV] at he
  subst he
  have a0 : w'.cell? ⟨W.heap.size, 0, none⟩ = some (.int .i64 x0) := (hb.cell (p := ⟨W.heap.size, 0, none⟩) (by simp <;> omega)).trans (by go_simp)
  have a1 : w'.cell? ⟨W.heap.size, 1, none⟩ = some (.int .i64 x1) := (hb.cell (p := ⟨W.heap.size, 1, none⟩) (by simp <;> omega)).trans (by go_simp)
  have a2 : w'.cell? ⟨W.heap.size, 2, none⟩ = some (.int .i64 x2) := (hb.cell (p := ⟨W.heap.size, 2, none⟩) (by simp <;> omega)).trans (by go_simp)
  have a3 : w'.cell? ⟨W.heap.size, 3, none⟩ = some (.int .i64 x3) := (hb.cell (p := ⟨W.heap.size, 3, none⟩) (by simp <;> omega)).trans (by go_simp)
  have b0 : w'.cell? ⟨W.heap.size + 1, 0, none⟩ = some (.int .i64 y0) := (hb.cell (p := ⟨W.heap.size + 1, 0, none⟩) (by simp <;> omega)).trans (by go_simp)
  have b1 : w'.cell? ⟨W.heap.size + 1, 1, none⟩ = some (.int .i64 y1) := (hb.cell (p := ⟨W.heap.size + 1, 1, none⟩) (by simp <;> omega)).trans (by go_simp)
  have b2 : w'.cell? ⟨W.heap.size + 1, 2, none⟩ = some (.int .i64 y2) := (hb.cell (p := ⟨W.heap.size + 1, 2, none⟩) (by simp <;> omega)).trans (by go_simp)
  have b3 : w'.cell? ⟨W.heap.size + 1, 3, none⟩ = some (.int .i64 y3) := (hb.cell (p := ⟨W.heap.size + 1, 3, none⟩) (by simp <;> omega)).trans (by go_simp)
  have d0 : w'.cell? ⟨W.heap.size + 1 + 1, 0, none⟩ = some (.int .i64 0) := (hb.cell (p := ⟨W.heap.size + 1 + 1, 0, none⟩) (by simp <;> omega)).trans (by go_simp)
  have d1 : w'.cell? ⟨W.heap.size + 1 + 1, 1, none⟩ = some (.int .i64 0) := (hb.cell (p := ⟨W.heap.size + 1 + 1, 1, none⟩) (by simp <;> omega)).trans (by go_simp)
  have d2 : w'.cell? ⟨W.heap.size + 1 + 1, 2, none⟩ = some (.int .i64 0) := (hb.cell (p := ⟨W.heap.size + 1 + 1, 2, none⟩) (by simp <;> omega)).trans (by go_simp)
  have d3 : w'.cell? ⟨W.heap.size + 1 + 1, 3, none⟩ = some (.int .i64 0) := (hb.cell (p := ⟨W.heap.size + 1 + 1, 3, none⟩) (by simp <;> omega)).trans (by go_simp)
  have f0 : w'.frozen? ⟨W.heap.size + 1 + 1, 0, none⟩ = false := (hb.frozen (p := ⟨W.heap.size + 1 + 1, 0, none⟩) (by simp <;> omega)).trans (by go_simp)
  have f1 : w'.frozen? ⟨W.heap.size + 1 + 1, 1, none⟩ = false := (hb.frozen (p := ⟨W.heap.size + 1 + 1, 1, none⟩) (by simp <;> omega)).trans (by go_simp)
  have f2 : w'.frozen? ⟨W.heap.size + 1 + 1, 2, none⟩ = false := (hb.frozen (p := ⟨W.heap.size + 1 + 1, 2, none⟩) (by simp <;> omega)).trans (by go_simp)
  have f3 : w'.frozen? ⟨W.heap.size + 1 + 1, 3, none⟩ = false := (hb.frozen (p := ⟨W.heap.size + 1 + 1, 3, none⟩) (by simp <;> omega)).trans (by go_simp)
  have HB : Hid (Below W.heap.size W w') := (by show Below _ _ _; refine Below.trans ?_ (hb.mono (by simp; omega)); go_grown)
  have hsz := HB.out.size
  have hlt : W.heap.size + 1 + 1 < w'.heap.size := (by have := hb.size; simp at this; omega)
  have hne : W.heap.size + 1 + 1 ≠ w'.heap.size := by omega
  have hna : W.heap.size < w'.heap.size := by omega
  have hnc : W.heap.size + 1 < w'.heap.size := by omega
  have hnd : nb < w'.heap.size := by omega
  have e0 : w'.cell? ⟨nb, 0, none⟩ = some (.map (some mb)) := (HB.out.cell (p := ⟨nb, 0, none⟩) hnb).trans (num_map hN.out)
  have HM := ((map_far hN.out.2 HB.out).alloc (.cells #[.int .i64 0, .int .i64 0, .int .i64 0, .int .i64 0] 49)).drew
  have l1 := HM.look hx.out.1 hx.out.2.1
  have l2 := HM.look hy.out.1 hy.out.2.1
  rw [hx.out.2.2] at l1
  rw [hy.out.2.2] at l2
  simp only [vV] at l1 l2
  clear hb HM
  have hg2 : W.heap.size ≤ W.heap.size + 1 + 1 := by omega
  generalize W.heap.size + 1 + 1 = p2 at d0 d1 d2 d3 f0 f1 f2 f3 hlt hne hg2 ⊢
  generalize W.heap.size + 1 = p1 at b0 b1 b2 b3 hnc ⊢
  generalize hp0 : W.heap.size = p0 at a0 a1 a2 a3 hna ⊢
  go_wp2
  go_region
  all_goals go_wp2_with (go_at_call 70; refine (impl_either _ _ o3 o7).mono ?_; rw [he0.out]; rintro e w2 ⟨rfl, hw⟩; rw [hw]; clear hw w2)
  all_goals refine bodyPost_ret (v := .agg #[.int .i64 o, .int .i64 (i1 : Int), .int .i64 (i2 : Int), .int .i64 0]) (by simp only [results, Try.results62]; go_simp) rfl ⟨rfl, ?_⟩
  all_goals subst hp0
  all_goals refine Below.trans HB.out ?_
  all_goals go_grown
set_option maxRecDepth 100000 in
set_option maxHeartbeats 2000000 in
theorem pair_plainx2 (o : Int) (x0 x1 x2 x3 y0 y1 y2 y3 : Int) (i1 i2 nb mb : Nat) (vs ns : List V) (W : World) (o3 : 3 ≤ o) (o7 : o ≤ 7) (hk : (x0 == 1) = false) (hk2 : decide (x0 = 1) = false) (hk3 : ¬ x0 = 1) (hs : Hid (simpV o (x0, x1, x2, x3) (y0, y1, y2, y3) = none)) (hN : Hid (Num W nb mb vs ns)) (hx : Hid (okV (x0, x1, x2, x3) ∧ (x0, x1, x2, x3) ∈ vs ∧ idx vs (x0, x1, x2, x3) = i1)) (hy : Hid (okV (y0, y1, y2, y3) ∧ (y0, y1, y2, y3) ∈ vs ∧ idx vs (y0, y1, y2, y3) = i2)) (he0 : Hid (eitherB o = false))  :
    Calls Try.prog 62 #[.pointer (some ⟨nb, 0, none⟩), .int .i64 o, .agg #[.int .i64 x0, .int .i64 x1, .int .i64 x2, .int .i64 x3], .agg #[.int .i64 y0, .int .i64 y1, .int .i64 y2, .int .i64 y3]] W fun e W' => PairAns (o, (i1 : Int), (i2 : Int), 0) W e W' := by
  have hnb := hN.out.1.lt
  go_enter Try.func62, Try.ntmps62
  go_wp2_with (go_at_call 42; go_in)
  refine (impl_simpler o (x0, x1, x2, x3) (y0, y1, y2, y3) _ o3 o7).mono ?_
  rintro e w' ⟨he, hb⟩
  rw [hs.out] at he
  simp only [Option.getD_none, Option.isSome_none, vV, zV] at he
  subst he
  have a0 : w'.cell? ⟨W.heap.size, 0, none⟩ = some (.int .i64 x0) := (hb.cell (p := ⟨W.heap.size, 0, none⟩) (by simp <;> omega)).trans (by go_simp)
  have a1 : w'.cell? ⟨W.heap.size, 1, none⟩ = some (.int .i64 x1) := (hb.cell (p := ⟨W.heap.size, 1, none⟩) (by simp <;> omega)).trans (by go_simp)
  have a2 : w'.cell? ⟨W.heap.size, 2, none⟩ = some (.int .i64 x2) := (hb.cell (p := ⟨W.heap.size, 2, none⟩) (by simp <;> omega)).trans (by go_simp)
  have a3 : w'.cell? ⟨W.heap.size, 3, none⟩ = some (.int .i64 x3) := (hb.cell (p := ⟨W.heap.size, 3, none⟩) (by simp <;> omega)).trans (by go_simp)
  have b0 : w'.cell? ⟨W.heap.size + 1, 0, none⟩ = some (.int .i64 y0) := (hb.cell (p := ⟨W.heap.size + 1, 0, none⟩) (by simp <;> omega)).trans (by go_simp)
  have b1 : w'.cell? ⟨W.heap.size + 1, 1, none⟩ = some (.int .i64 y1) := (hb.cell (p := ⟨W.heap.size + 1, 1, none⟩) (by simp <;> omega)).trans (by go_simp)
  have b2 : w'.cell? ⟨W.heap.size + 1, 2, none⟩ = some (.int .i64 y2) := (hb.cell (p := ⟨W.heap.size + 1, 2, none⟩) (by simp <;> omega)).trans (by go_simp)
  have b3 : w'.cell? ⟨W.heap.size + 1, 3, none⟩ = some (.int .i64 y3) := (hb.cell (p := ⟨W.heap.size + 1, 3, none⟩) (by simp <;> omega)).trans (by go_simp)
  have d0 : w'.cell? ⟨W.heap.size + 1 + 1, 0, none⟩ = some (.int .i64 0) := (hb.cell (p := ⟨W.heap.size + 1 + 1, 0, none⟩) (by simp <;> omega)).trans (by go_simp)
  have d1 : w'.cell? ⟨W.heap.size + 1 + 1, 1, none⟩ = some (.int .i64 0) := (hb.cell (p := ⟨W.heap.size + 1 + 1, 1, none⟩) (by simp <;> omega)).trans (by go_simp)
  have d2 : w'.cell? ⟨W.heap.size + 1 + 1, 2, none⟩ = some (.int .i64 0) := (hb.cell (p := ⟨W.heap.size + 1 + 1, 2, none⟩) (by simp <;> omega)).trans (by go_simp)
  have d3 : w'.cell? ⟨W.heap.size + 1 + 1, 3, none⟩ = some (.int .i64 0) := (hb.cell (p := ⟨W.heap.size + 1 + 1, 3, none⟩) (by simp <;> omega)).trans (by go_simp)
  have f0 : w'.frozen? ⟨W.heap.size + 1 + 1, 0, none⟩ = false := (hb.frozen (p := ⟨W.heap.size + 1 + 1, 0, none⟩) (by simp <;> omega)).trans (by go_simp)
  have f1 : w'.frozen? ⟨W.heap.size + 1 + 1, 1, none⟩ = false := (hb.frozen (p := ⟨W.heap.size + 1 + 1, 1, none⟩) (by simp <;> omega)).trans (by go_simp)
  have f2 : w'.frozen? ⟨W.heap.size + 1 + 1, 2, none⟩ = false := (hb.frozen (p := ⟨W.heap.size + 1 + 1, 2, none⟩) (by simp <;> omega)).trans (by go_simp)
  have f3 : w'.frozen? ⟨W.heap.size + 1 + 1, 3, none⟩ = false := (hb.frozen (p := ⟨W.heap.size + 1 + 1, 3, none⟩) (by simp <;> omega)).trans (by go_simp)
  have HB : Hid (Below W.heap.size W w') := (by show Below _ _ _; refine Below.trans ?_ (hb.mono (by simp; omega)); go_grown)
  have hsz := HB.out.size
  have hlt : W.heap.size + 1 + 1 < w'.heap.size := (by have := hb.size; simp at this; omega)
  have hne : W.heap.size + 1 + 1 ≠ w'.heap.size := by omega
  have hna : W.heap.size < w'.heap.size := by omega
  have hnc : W.heap.size + 1 < w'.heap.size := by omega
  have hnd : nb < w'.heap.size := by omega
  have e0 : w'.cell? ⟨nb, 0, none⟩ = some (.map (some mb)) := (HB.out.cell (p := ⟨nb, 0, none⟩) hnb).trans (num_map hN.out)
  have HM := ((map_far hN.out.2 HB.out).alloc (.cells #[.int .i64 0, .int .i64 0, .int .i64 0, .int .i64 0] 49)).drew
  have l1 := HM.look hx.out.1 hx.out.2.1
  have l2 := HM.look hy.out.1 hy.out.2.1
  rw [hx.out.2.2] at l1
  rw [hy.out.2.2] at l2
  simp only [vV] at l1 l2
  clear hb HM
  have hg2 : W.heap.size ≤ W.heap.size + 1 + 1 := by omega
  generalize W.heap.size + 1 + 1 = p2 at d0 d1 d2 d3 f0 f1 f2 f3 hlt hne hg2 ⊢
  generalize W.heap.size + 1 = p1 at b0 b1 b2 b3 hnc ⊢
  generalize hp0 : W.heap.size = p0 at a0 a1 a2 a3 hna ⊢
  go_wp2
  go_region
  all_goals go_wp2_with (go_at_call 70; refine (impl_either _ _ o3 o7).mono ?_; rw [he0.out]; rintro e w2 ⟨rfl, hw⟩; rw [hw]; clear hw w2)
  all_goals refine bodyPost_ret (v := .agg #[.int .i64 o, .int .i64 (i1 : Int), .int .i64 (i2 : Int), .int .i64 0]) (by simp only [results, Try.results62]; go_simp) rfl ⟨rfl, ?_⟩
  all_goals subst hp0
  all_goals refine Below.trans HB.out ?_
  all_goals go_grown
set_option maxHeartbeats 1000000 in
theorem pair_simpley (o : Int) (x1 x2 x3 y0 y1 y2 y3 z0 z1 z2 z3 : Int) (nb : Nat) (W : World) (o3 : 3 ≤ o) (o7 : o ≤ 7) (hk : (y0 == 1) = false) (hk2 : decide (y0 = 1) = false) (hk3 : ¬ y0 = 1) (hs : Hid (simpV o (1, x1, x2, x3) (y0, y1, y2, y3) = some (z0, z1, z2, z3))) :
    Calls Try.prog 62 #[.pointer (some ⟨nb, 0, none⟩), .int .i64 o, .agg #[.int .i64 1, .int .i64 x1, .int .i64 x2, .int .i64 x3], .agg #[.int .i64 y0, .int .i64 y1, .int .i64 y2, .int .i64 y3]] W fun e W' => PairAns (z0, z1, z2, z3) W e W' := by
  go_enter Try.func62, Try.ntmps62
  go_wp2_with (go_at_call 42; go_in)
  refine (impl_simpler o (1, x1, x2, x3) (y0, y1, y2, y3) _ o3 o7).mono ?_
  rintro e w' ⟨he, hb⟩
  rw [hs.out] at he
  simp only [Option.getD_some, Option.isSome_some, vV] at he
  subst he
  have d0 : w'.cell? ⟨W.heap.size + 1 + 1, 0, none⟩ = some (.int .i64 0) := (hb.cell (p := ⟨W.heap.size + 1 + 1, 0, none⟩) (by simp <;> omega)).trans (by go_simp)
  have d1 : w'.cell? ⟨W.heap.size + 1 + 1, 1, none⟩ = some (.int .i64 0) := (hb.cell (p := ⟨W.heap.size + 1 + 1, 1, none⟩) (by simp <;> omega)).trans (by go_simp)
  have d2 : w'.cell? ⟨W.heap.size + 1 + 1, 2, none⟩ = some (.int .i64 0) := (hb.cell (p := ⟨W.heap.size + 1 + 1, 2, none⟩) (by simp <;> omega)).trans (by go_simp)
  have d3 : w'.cell? ⟨W.heap.size + 1 + 1, 3, none⟩ = some (.int .i64 0) := (hb.cell (p := ⟨W.heap.size + 1 + 1, 3, none⟩) (by simp <;> omega)).trans (by go_simp)
  have f0 : w'.frozen? ⟨W.heap.size + 1 + 1, 0, none⟩ = false := (hb.frozen (p := ⟨W.heap.size + 1 + 1, 0, none⟩) (by simp <;> omega)).trans (by go_simp)
  have f1 : w'.frozen? ⟨W.heap.size + 1 + 1, 1, none⟩ = false := (hb.frozen (p := ⟨W.heap.size + 1 + 1, 1, none⟩) (by simp <;> omega)).trans (by go_simp)
  have f2 : w'.frozen? ⟨W.heap.size + 1 + 1, 2, none⟩ = false := (hb.frozen (p := ⟨W.heap.size + 1 + 1, 2, none⟩) (by simp <;> omega)).trans (by go_simp)
  have f3 : w'.frozen? ⟨W.heap.size + 1 + 1, 3, none⟩ = false := (hb.frozen (p := ⟨W.heap.size + 1 + 1, 3, none⟩) (by simp <;> omega)).trans (by go_simp)
  have HB : Hid (Below W.heap.size W w') := (by show Below _ _ _; refine Below.trans ?_ (hb.mono (by simp; omega)); go_grown)
  have hsz := HB.out.size
  have hlt : W.heap.size + 1 + 1 < w'.heap.size := (by have := hb.size; simp at this; omega)
  have hne : W.heap.size + 1 + 1 ≠ w'.heap.size := by omega
  clear hb
  go_wp2
  refine bodyPost_ret (v := .agg #[.int .i64 z0, .int .i64 z1, .int .i64 z2, .int .i64 z3]) (by simp only [results, Try.results62]; go_simp) rfl ⟨rfl, ?_⟩
  refine Below.trans HB.out ?_
  go_grown
set_option maxRecDepth 100000 in
set_option maxHeartbeats 2000000 in
theorem pair_plainy0 (o : Int) (x1 x2 x3 y0 y1 y2 y3 : Int) (i1 i2 nb mb : Nat) (vs ns : List V) (W : World) (o3 : 3 ≤ o) (o7 : o ≤ 7) (hk : (y0 == 1) = false) (hk2 : decide (y0 = 1) = false) (hk3 : ¬ y0 = 1) (hs : Hid (simpV o (1, x1, x2, x3) (y0, y1, y2, y3) = none)) (hN : Hid (Num W nb mb vs ns)) (hx : Hid (okV (1, x1, x2, x3) ∧ (1, x1, x2, x3) ∈ vs ∧ idx vs (1, x1, x2, x3) = i1)) (hy : Hid (okV (y0, y1, y2, y3) ∧ (y0, y1, y2, y3) ∈ vs ∧ idx vs (y0, y1, y2, y3) = i2)) (he0 : Hid (eitherB o = true)) (hl : (i2 : Int) < (i1 : Int)) :
    Calls Try.prog 62 #[.pointer (some ⟨nb, 0, none⟩), .int .i64 o, .agg #[.int .i64 1, .int .i64 x1, .int .i64 x2, .int .i64 x3], .agg #[.int .i64 y0, .int .i64 y1, .int .i64 y2, .int .i64 y3]] W fun e W' => PairAns (o, (i2 : Int), (i1 : Int), 0) W e W' := by
  have hnb := hN.out.1.lt
  go_enter Try.func62, Try.ntmps62
  go_wp2_with (go_at_call 42; go_in)
  refine (impl_simpler o (1, x1, x2, x3) (y0, y1, y2, y3) _ o3 o7).mono ?_
  rintro e w' ⟨he, hb⟩
  rw [hs.out] at he
  simp only [Option.getD_none, Option.isSome_none, vV, zV] at he
  subst he
  have a0 : w'.cell? ⟨W.heap.size, 0, none⟩ = some (.int .i64 1) := (hb.cell (p := ⟨W.heap.size, 0, none⟩) (by simp <;> omega)).trans (by go_simp)
  have a1 : w'.cell? ⟨W.heap.size, 1, none⟩ = some (.int .i64 x1) := (hb.cell (p := ⟨W.heap.size, 1, none⟩) (by simp <;> omega)).trans (by go_simp)
  have a2 : w'.cell? ⟨W.heap.size, 2, none⟩ = some (.int .i64 x2) := (hb.cell (p := ⟨W.heap.size, 2, none⟩) (by simp <;> omega)).trans (by go_simp)
  have a3 : w'.cell? ⟨W.heap.size, 3, none⟩ = some (.int .i64 x3) := (hb.cell (p := ⟨W.heap.size, 3, none⟩) (by simp <;> omega)).trans (by go_simp)
  have b0 : w'.cell? ⟨W.heap.size + 1, 0, none⟩ = some (.int .i64 y0) := (hb.cell (p := ⟨W.heap.size + 1, 0, none⟩) (by simp <;> omega)).trans (by go_simp)
  have b1 : w'.cell? ⟨W.heap.size + 1, 1, none⟩ = some (.int .i64 y1) := (hb.cell (p := ⟨W.heap.size + 1, 1, none⟩) (by simp <;> omega)).trans (by go_simp)
  have b2 : w'.cell? ⟨W.heap.size + 1, 2, none⟩ = some (.int .i64 y2) := (hb.cell (p := ⟨W.heap.size + 1, 2, none⟩) (by simp <;> omega)).trans (by go_simp)
  have b3 : w'.cell? ⟨W.heap.size + 1, 3, none⟩ = some (.int .i64 y3) := (hb.cell (p := ⟨W.heap.size + 1, 3, none⟩) (by simp <;> omega)).trans (by go_simp)
  have d0 : w'.cell? ⟨W.heap.size + 1 + 1, 0, none⟩ = some (.int .i64 0) := (hb.cell (p := ⟨W.heap.size + 1 + 1, 0, none⟩) (by simp <;> omega)).trans (by go_simp)
  have d1 : w'.cell? ⟨W.heap.size + 1 + 1, 1, none⟩ = some (.int .i64 0) := (hb.cell (p := ⟨W.heap.size + 1 + 1, 1, none⟩) (by simp <;> omega)).trans (by go_simp)
  have d2 : w'.cell? ⟨W.heap.size + 1 + 1, 2, none⟩ = some (.int .i64 0) := (hb.cell (p := ⟨W.heap.size + 1 + 1, 2, none⟩) (by simp <;> omega)).trans (by go_simp)
  have d3 : w'.cell? ⟨W.heap.size + 1 + 1, 3, none⟩ = some (.int .i64 0) := (hb.cell (p := ⟨W.heap.size + 1 + 1, 3, none⟩) (by simp <;> omega)).trans (by go_simp)
  have f0 : w'.frozen? ⟨W.heap.size + 1 + 1, 0, none⟩ = false := (hb.frozen (p := ⟨W.heap.size + 1 + 1, 0, none⟩) (by simp <;> omega)).trans (by go_simp)
  have f1 : w'.frozen? ⟨W.heap.size + 1 + 1, 1, none⟩ = false := (hb.frozen (p := ⟨W.heap.size + 1 + 1, 1, none⟩) (by simp <;> omega)).trans (by go_simp)
  have f2 : w'.frozen? ⟨W.heap.size + 1 + 1, 2, none⟩ = false := (hb.frozen (p := ⟨W.heap.size + 1 + 1, 2, none⟩) (by simp <;> omega)).trans (by go_simp)
  have f3 : w'.frozen? ⟨W.heap.size + 1 + 1, 3, none⟩ = false := (hb.frozen (p := ⟨W.heap.size + 1 + 1, 3, none⟩) (by simp <;> omega)).trans (by go_simp)
  have HB : Hid (Below W.heap.size W w') := (by show Below _ _ _; refine Below.trans ?_ (hb.mono (by simp; omega)); go_grown)
  have hsz := HB.out.size
  have hlt : W.heap.size + 1 + 1 < w'.heap.size := (by have := hb.size; simp at this; omega)
  have hne : W.heap.size + 1 + 1 ≠ w'.heap.size := by omega
  have hna : W.heap.size < w'.heap.size := by omega
  have hnc : W.heap.size + 1 < w'.heap.size := by omega
  have hnd : nb < w'.heap.size := by omega
  have e0 : w'.cell? ⟨nb, 0, none⟩ = some (.map (some mb)) := (HB.out.cell (p := ⟨nb, 0, none⟩) hnb).trans (num_map hN.out)
  have HM := ((map_far hN.out.2 HB.out).alloc (.cells #[.int .i64 0, .int .i64 0, .int .i64 0, .int .i64 0] 49)).drew
  have l1 := HM.look hx.out.1 hx.out.2.1
  have l2 := HM.look hy.out.1 hy.out.2.1
  rw [hx.out.2.2] at l1
  rw [hy.out.2.2] at l2
  simp only [vV] at l1 l2
  clear hb HM
  have hg2 : W.heap.size ≤ W.heap.size + 1 + 1 := by omega
  generalize W.heap.size + 1 + 1 = p2 at d0 d1 d2 d3 f0 f1 f2 f3 hlt hne hg2 ⊢
  generalize W.heap.size + 1 = p1 at b0 b1 b2 b3 hnc ⊢
  generalize hp0 : W.heap.size = p0 at a0 a1 a2 a3 hna ⊢
  go_wp2
  go_region
  all_goals go_wp2_with (go_at_call 70; refine (impl_either _ _ o3 o7).mono ?_; rw [he0.out]; rintro e w2 ⟨rfl, hw⟩; rw [hw]; clear hw w2)
  all_goals refine bodyPost_ret (v := .agg #[.int .i64 o, .int .i64 (i2 : Int), .int .i64 (i1 : Int), .int .i64 0]) (by simp only [results, Try.results62]; go_simp) rfl ⟨rfl, ?_⟩
  all_goals subst hp0
  all_goals refine Below.trans HB.out ?_
  all_goals go_grown
set_option maxRecDepth 100000 in
set_option maxHeartbeats 2000000 in
theorem pair_plainy1 (o : Int) (x1 x2 x3 y0 y1 y2 y3 : Int) (i1 i2 nb mb : Nat) (vs ns : List V) (W : World) (o3 : 3 ≤ o) (o7 : o ≤ 7) (hk : (y0 == 1) = false) (hk2 : decide (y0 = 1) = false) (hk3 : ¬ y0 = 1) (hs : Hid (simpV o (1, x1, x2, x3) (y0, y1, y2, y3) = none)) (hN : Hid (Num W nb mb vs ns)) (hx : Hid (okV (1, x1, x2, x3) ∧ (1, x1, x2, x3) ∈ vs ∧ idx vs (1, x1, x2, x3) = i1)) (hy : Hid (okV (y0, y1, y2, y3) ∧ (y0, y1, y2, y3) ∈ vs ∧ idx vs (y0, y1, y2, y3) = i2)) (he0 : Hid (eitherB o = true)) (hl : (i1 : Int) ≤ (i2 : Int)) :
    Calls Try.prog 62 #[.pointer (some ⟨nb, 0, none⟩), .int .i64 o, .agg #[.int .i64 1, .int .i64 x1, .int .i64 x2, .int .i64 x3], .agg #[.int .i64 y0, .int .i64 y1, .int .i64 y2, .int .i64 y3]] W fun e W' => PairAns (o, (i1 : Int), (i2 : Int), 0) W e W' := by
  have hnb := hN.out.1.lt
  go_enter Try.func62, Try.ntmps62
  go_wp2_with (go_at_call 42; go_in)
  refine (impl_simpler o (1, x1, x2, x3) (y0, y1, y2, y3) _ o3 o7).mono ?_
  rintro e w' ⟨he, hb⟩
  rw [hs.out] at he
  simp only [Option.getD_none, Option.isSome_none, vV, zV] at he
  subst he
  have a0 : w'.cell? ⟨W.heap.size, 0, none⟩ = some (.int .i64 1) := (hb.cell (p := ⟨W.heap.size, 0, none⟩) (by simp <;> omega)).trans (by go_simp)
  have a1 : w'.cell? ⟨W.heap.size, 1, none⟩ = some (.int .i64 x1) := (hb.cell (p := ⟨W.heap.size, 1, none⟩) (by simp <;> omega)).trans (by go_simp)
  have a2 : w'.cell? ⟨W.heap.size, 2, none⟩ = some (.int .i64 x2) := (hb.cell (p := ⟨W.heap.size, 2, none⟩) (by simp <;> omega)).trans (by go_simp)
  have a3 : w'.cell? ⟨W.heap.size, 3, none⟩ = some (.int .i64 x3) := (hb.cell (p := ⟨W.heap.size, 3, none⟩) (by simp <;> omega)).trans (by go_simp)
  have b0 : w'.cell? ⟨W.heap.size + 1, 0, none⟩ = some (.int .i64 y0) := (hb.cell (p := ⟨W.heap.size + 1, 0, none⟩) (by simp <;> omega)).trans (by go_simp)
  have b1 : w'.cell? ⟨W.heap.size + 1, 1, none⟩ = some (.int .i64 y1) := (hb.cell (p := ⟨W.heap.size + 1, 1, none⟩) (by simp <;> omega)).trans (by go_simp)
  have b2 : w'.cell? ⟨W.heap.size + 1, 2, none⟩ = some (.int .i64 y2) := (hb.cell (p := ⟨W.heap.size + 1, 2, none⟩) (by simp <;> omega)).trans (by go_simp)
  have b3 : w'.cell? ⟨W.heap.size + 1, 3, none⟩ = some (.int .i64 y3) := (hb.cell (p := ⟨W.heap.size + 1, 3, none⟩) (by simp <;> omega)).trans (by go_simp)
  have d0 : w'.cell? ⟨W.heap.size + 1 + 1, 0, none⟩ = some (.int .i64 0) := (hb.cell (p := ⟨W.heap.size + 1 + 1, 0, none⟩) (by simp <;> omega)).trans (by go_simp)
  have d1 : w'.cell? ⟨W.heap.size + 1 + 1, 1, none⟩ = some (.int .i64 0) := (hb.cell (p := ⟨W.heap.size + 1 + 1, 1, none⟩) (by simp <;> omega)).trans (by go_simp)
  have d2 : w'.cell? ⟨W.heap.size + 1 + 1, 2, none⟩ = some (.int .i64 0) := (hb.cell (p := ⟨W.heap.size + 1 + 1, 2, none⟩) (by simp <;> omega)).trans (by go_simp)
  have d3 : w'.cell? ⟨W.heap.size + 1 + 1, 3, none⟩ = some (.int .i64 0) := (hb.cell (p := ⟨W.heap.size + 1 + 1, 3, none⟩) (by simp <;> omega)).trans (by go_simp)
  have f0 : w'.frozen? ⟨W.heap.size + 1 + 1, 0, none⟩ = false := (hb.frozen (p := ⟨W.heap.size + 1 + 1, 0, none⟩) (by simp <;> omega)).trans (by go_simp)
  have f1 : w'.frozen? ⟨W.heap.size + 1 + 1, 1, none⟩ = false := (hb.frozen (p := ⟨W.heap.size + 1 + 1, 1, none⟩) (by simp <;> omega)).trans (by go_simp)
  have f2 : w'.frozen? ⟨W.heap.size + 1 + 1, 2, none⟩ = false := (hb.frozen (p := ⟨W.heap.size + 1 + 1, 2, none⟩) (by simp <;> omega)).trans (by go_simp)
  have f3 : w'.frozen? ⟨W.heap.size + 1 + 1, 3, none⟩ = false := (hb.frozen (p := ⟨W.heap.size + 1 + 1, 3, none⟩) (by simp <;> omega)).trans (by go_simp)
  have HB : Hid (Below W.heap.size W w') := (by show Below _ _ _; refine Below.trans ?_ (hb.mono (by simp; omega)); go_grown)
  have hsz := HB.out.size
  have hlt : W.heap.size + 1 + 1 < w'.heap.size := (by have := hb.size; simp at this; omega)
  have hne : W.heap.size + 1 + 1 ≠ w'.heap.size := by omega
  have hna : W.heap.size < w'.heap.size := by omega
  have hnc : W.heap.size + 1 < w'.heap.size := by omega
  have hnd : nb < w'.heap.size := by omega
  have e0 : w'.cell? ⟨nb, 0, none⟩ = some (.map (some mb)) := (HB.out.cell (p := ⟨nb, 0, none⟩) hnb).trans (num_map hN.out)
  have HM := ((map_far hN.out.2 HB.out).alloc (.cells #[.int .i64 0, .int .i64 0, .int .i64 0, .int .i64 0] 49)).drew
  have l1 := HM.look hx.out.1 hx.out.2.1
  have l2 := HM.look hy.out.1 hy.out.2.1
  rw [hx.out.2.2] at l1
  rw [hy.out.2.2] at l2
  simp only [vV] at l1 l2
  clear hb HM
  have hg2 : W.heap.size ≤ W.heap.size + 1 + 1 := by omega
  generalize W.heap.size + 1 + 1 = p2 at d0 d1 d2 d3 f0 f1 f2 f3 hlt hne hg2 ⊢
  generalize W.heap.size + 1 = p1 at b0 b1 b2 b3 hnc ⊢
  generalize hp0 : W.heap.size = p0 at a0 a1 a2 a3 hna ⊢
  go_wp2
  go_region
  all_goals go_wp2_with (go_at_call 70; refine (impl_either _ _ o3 o7).mono ?_; rw [he0.out]; rintro e w2 ⟨rfl, hw⟩; rw [hw]; clear hw w2)
  all_goals refine bodyPost_ret (v := .agg #[.int .i64 o, .int .i64 (i1 : Int), .int .i64 (i2 : Int), .int .i64 0]) (by simp only [results, Try.results62]; go_simp) rfl ⟨rfl, ?_⟩
  all_goals subst hp0
  all_goals refine Below.trans HB.out ?_
  all_goals go_grown
set_option maxRecDepth 100000 in
set_option maxHeartbeats 2000000 in
theorem pair_plainy2 (o : Int) (x1 x2 x3 y0 y1 y2 y3 : Int) (i1 i2 nb mb : Nat) (vs ns : List V) (W : World) (o3 : 3 ≤ o) (o7 : o ≤ 7) (hk : (y0 == 1) = false) (hk2 : decide (y0 = 1) = false) (hk3 : ¬ y0 = 1) (hs : Hid (simpV o (1, x1, x2, x3) (y0, y1, y2, y3) = none)) (hN : Hid (Num W nb mb vs ns)) (hx : Hid (okV (1, x1, x2, x3) ∧ (1, x1, x2, x3) ∈ vs ∧ idx vs (1, x1, x2, x3) = i1)) (hy : Hid (okV (y0, y1, y2, y3) ∧ (y0, y1, y2, y3) ∈ vs ∧ idx vs (y0, y1, y2, y3) = i2)) (he0 : Hid (eitherB o = false))  :
    Calls Try.prog 62 #[.pointer (some ⟨nb, 0, none⟩), .int .i64 o, .agg #[.int .i64 1, .int .i64 x1, .int .i64 x2, .int .i64 x3], .agg #[.int .i64 y0, .int .i64 y1, .int .i64 y2, .int .i64 y3]] W fun e W' => PairAns (o, (i1 : Int), (i2 : Int), 0) W e W' := by
  have hnb := hN.out.1.lt
  go_enter Try.func62, Try.ntmps62
  go_wp2_with (go_at_call 42; go_in)
  refine (impl_simpler o (1, x1, x2, x3) (y0, y1, y2, y3) _ o3 o7).mono ?_
  rintro e w' ⟨he, hb⟩
  rw [hs.out] at he
  simp only [Option.getD_none, Option.isSome_none, vV, zV] at he
  subst he
  have a0 : w'.cell? ⟨W.heap.size, 0, none⟩ = some (.int .i64 1) := (hb.cell (p := ⟨W.heap.size, 0, none⟩) (by simp <;> omega)).trans (by go_simp)
  have a1 : w'.cell? ⟨W.heap.size, 1, none⟩ = some (.int .i64 x1) := (hb.cell (p := ⟨W.heap.size, 1, none⟩) (by simp <;> omega)).trans (by go_simp)
  have a2 : w'.cell? ⟨W.heap.size, 2, none⟩ = some (.int .i64 x2) := (hb.cell (p := ⟨W.heap.size, 2, none⟩) (by simp <;> omega)).trans (by go_simp)
  have a3 : w'.cell? ⟨W.heap.size, 3, none⟩ = some (.int .i64 x3) := (hb.cell (p := ⟨W.heap.size, 3, none⟩) (by simp <;> omega)).trans (by go_simp)
  have b0 : w'.cell? ⟨W.heap.size + 1, 0, none⟩ = some (.int .i64 y0) := (hb.cell (p := ⟨W.heap.size + 1, 0, none⟩) (by simp <;> omega)).trans (by go_simp)
  have b1 : w'.cell? ⟨W.heap.size + 1, 1, none⟩ = some (.int .i64 y1) := (hb.cell (p := ⟨W.heap.size + 1, 1, none⟩) (by simp <;> omega)).trans (by go_simp)
  have b2 : w'.cell? ⟨W.heap.size + 1, 2, none⟩ = some (.int .i64 y2) := (hb.cell (p := ⟨W.heap.size + 1, 2, none⟩) (by simp <;> omega)).trans (by go_simp)
  have b3 : w'.cell? ⟨W.heap.size + 1, 3, none⟩ = some (.int .i64 y3) := (hb.cell (p := ⟨W.heap.size + 1, 3, none⟩) (by simp <;> omega)).trans (by go_simp)
  have d0 : w'.cell? ⟨W.heap.size + 1 + 1, 0, none⟩ = some (.int .i64 0) := (hb.cell (p := ⟨W.heap.size + 1 + 1, 0, none⟩) (by simp <;> omega)).trans (by go_simp)
  have d1 : w'.cell? ⟨W.heap.size + 1 + 1, 1, none⟩ = some (.int .i64 0) := (hb.cell (p := ⟨W.heap.size + 1 + 1, 1, none⟩) (by simp <;> omega)).trans (by go_simp)
  have d2 : w'.cell? ⟨W.heap.size + 1 + 1, 2, none⟩ = some (.int .i64 0) := (hb.cell (p := ⟨W.heap.size + 1 + 1, 2, none⟩) (by simp <;> omega)).trans (by go_simp)
  have d3 : w'.cell? ⟨W.heap.size + 1 + 1, 3, none⟩ = some (.int .i64 0) := (hb.cell (p := ⟨W.heap.size + 1 + 1, 3, none⟩) (by simp <;> omega)).trans (by go_simp)
  have f0 : w'.frozen? ⟨W.heap.size + 1 + 1, 0, none⟩ = false := (hb.frozen (p := ⟨W.heap.size + 1 + 1, 0, none⟩) (by simp <;> omega)).trans (by go_simp)
  have f1 : w'.frozen? ⟨W.heap.size + 1 + 1, 1, none⟩ = false := (hb.frozen (p := ⟨W.heap.size + 1 + 1, 1, none⟩) (by simp <;> omega)).trans (by go_simp)
  have f2 : w'.frozen? ⟨W.heap.size + 1 + 1, 2, none⟩ = false := (hb.frozen (p := ⟨W.heap.size + 1 + 1, 2, none⟩) (by simp <;> omega)).trans (by go_simp)
  have f3 : w'.frozen? ⟨W.heap.size + 1 + 1, 3, none⟩ = false := (hb.frozen (p := ⟨W.heap.size + 1 + 1, 3, none⟩) (by simp <;> omega)).trans (by go_simp)
  have HB : Hid (Below W.heap.size W w') := (by show Below _ _ _; refine Below.trans ?_ (hb.mono (by simp; omega)); go_grown)
  have hsz := HB.out.size
  have hlt : W.heap.size + 1 + 1 < w'.heap.size := (by have := hb.size; simp at this; omega)
  have hne : W.heap.size + 1 + 1 ≠ w'.heap.size := by omega
  have hna : W.heap.size < w'.heap.size := by omega
  have hnc : W.heap.size + 1 < w'.heap.size := by omega
  have hnd : nb < w'.heap.size := by omega
  have e0 : w'.cell? ⟨nb, 0, none⟩ = some (.map (some mb)) := (HB.out.cell (p := ⟨nb, 0, none⟩) hnb).trans (num_map hN.out)
  have HM := ((map_far hN.out.2 HB.out).alloc (.cells #[.int .i64 0, .int .i64 0, .int .i64 0, .int .i64 0] 49)).drew
  have l1 := HM.look hx.out.1 hx.out.2.1
  have l2 := HM.look hy.out.1 hy.out.2.1
  rw [hx.out.2.2] at l1
  rw [hy.out.2.2] at l2
  simp only [vV] at l1 l2
  clear hb HM
  have hg2 : W.heap.size ≤ W.heap.size + 1 + 1 := by omega
  generalize W.heap.size + 1 + 1 = p2 at d0 d1 d2 d3 f0 f1 f2 f3 hlt hne hg2 ⊢
  generalize W.heap.size + 1 = p1 at b0 b1 b2 b3 hnc ⊢
  generalize hp0 : W.heap.size = p0 at a0 a1 a2 a3 hna ⊢
  go_wp2
  go_region
  all_goals go_wp2_with (go_at_call 70; refine (impl_either _ _ o3 o7).mono ?_; rw [he0.out]; rintro e w2 ⟨rfl, hw⟩; rw [hw]; clear hw w2)
  all_goals refine bodyPost_ret (v := .agg #[.int .i64 o, .int .i64 (i1 : Int), .int .i64 (i2 : Int), .int .i64 0]) (by simp only [results, Try.results62]; go_simp) rfl ⟨rfl, ?_⟩
  all_goals subst hp0
  all_goals refine Below.trans HB.out ?_
  all_goals go_grown
theorem impl_pairV (o : Int) (x y : V) (nb mb : Nat) (vs ns : List V) (W : World) (o3 : 3 ≤ o) (o7 : o ≤ 7) (hN : Num W nb mb vs ns) (kx : okV x) (hx : x ∈ vs) (ky : okV y) (hy : y ∈ vs) :
    Calls Try.prog 62 #[.pointer (some ⟨nb, 0, none⟩), .int .i64 o, vV x, vV y] W fun e W' => PairAns (pairV vs o x y) W e W' := by
  obtain ⟨x0, x1, x2, x3⟩ := x
  obtain ⟨y0, y1, y2, y3⟩ := y
  unfold pairV
  by_cases hx0 : x0 = 1
  · subst hx0
    by_cases hy0 : y0 = 1
    · subst hy0
      rw [if_pos ⟨rfl, rfl⟩]
      exact pair_known o x1 x2 x3 y1 y2 y3 nb W o3 o7 kx ky
    · rw [if_neg (fun h => hy0 h.2)]
      cases hs : simpV o (1, x1, x2, x3) (y0, y1, y2, y3) with
      | some z =>
        obtain ⟨z0, z1, z2, z3⟩ := z
        exact pair_simpley o x1 x2 x3 y0 y1 y2 y3 z0 z1 z2 z3 nb W o3 o7 (by simpa using hy0) (decide_eq_false hy0) hy0 hs
      | none =>
        show Calls _ _ _ _ fun e W' => PairAns (plainV vs o (1, x1, x2, x3) (y0, y1, y2, y3)) W e W'
        unfold plainV
        cases he : eitherB o
        · rw [if_neg (fun h => by cases h.1)]
          exact pair_plainy2 o x1 x2 x3 y0 y1 y2 y3 _ _ nb mb vs ns W o3 o7 (by simpa using hy0) (decide_eq_false hy0) hy0 hs hN ⟨kx, hx, rfl⟩ ⟨ky, hy, rfl⟩ he
        · by_cases hl : idx vs (y0, y1, y2, y3) < idx vs (1, x1, x2, x3)
          · rw [if_pos ⟨rfl, hl⟩]
            exact pair_plainy0 o x1 x2 x3 y0 y1 y2 y3 _ _ nb mb vs ns W o3 o7 (by simpa using hy0) (decide_eq_false hy0) hy0 hs hN ⟨kx, hx, rfl⟩ ⟨ky, hy, rfl⟩ he (by omega)
          · rw [if_neg (fun h => hl h.2)]
            exact pair_plainy1 o x1 x2 x3 y0 y1 y2 y3 _ _ nb mb vs ns W o3 o7 (by simpa using hy0) (decide_eq_false hy0) hy0 hs hN ⟨kx, hx, rfl⟩ ⟨ky, hy, rfl⟩ he (by omega)
  · rw [if_neg (fun h => hx0 h.1)]
    cases hs : simpV o (x0, x1, x2, x3) (y0, y1, y2, y3) with
    | some z =>
      obtain ⟨z0, z1, z2, z3⟩ := z
      exact pair_simplex o x0 x1 x2 x3 y0 y1 y2 y3 z0 z1 z2 z3 nb W o3 o7 (by simpa using hx0) (decide_eq_false hx0) hx0 hs
    | none =>
      show Calls _ _ _ _ fun e W' => PairAns (plainV vs o (x0, x1, x2, x3) (y0, y1, y2, y3)) W e W'
      unfold plainV
      cases he : eitherB o
      · rw [if_neg (fun h => by cases h.1)]
        exact pair_plainx2 o x0 x1 x2 x3 y0 y1 y2 y3 _ _ nb mb vs ns W o3 o7 (by simpa using hx0) (decide_eq_false hx0) hx0 hs hN ⟨kx, hx, rfl⟩ ⟨ky, hy, rfl⟩ he
      · by_cases hl : idx vs (y0, y1, y2, y3) < idx vs (x0, x1, x2, x3)
        · rw [if_pos ⟨rfl, hl⟩]
          exact pair_plainx0 o x0 x1 x2 x3 y0 y1 y2 y3 _ _ nb mb vs ns W o3 o7 (by simpa using hx0) (decide_eq_false hx0) hx0 hs hN ⟨kx, hx, rfl⟩ ⟨ky, hy, rfl⟩ he (by omega)
        · rw [if_neg (fun h => hl h.2)]
          exact pair_plainx1 o x0 x1 x2 x3 y0 y1 y2 y3 _ _ nb mb vs ns W o3 o7 (by simpa using hx0) (decide_eq_false hx0) hx0 hs hN ⟨kx, hx, rfl⟩ ⟨ky, hy, rfl⟩ he (by omega)
end Go.Proofs.Ytldmeffhbabanaa.nums
