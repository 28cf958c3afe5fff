/-
  What the program's SameValue answers.
-/
import Derived.Test.YtldmeffhbabanaaProg
import Derived.Test.YtldmeffhbabanaaNumEq
import Derived.Test.YtldmeffhbabanaaNumRun
import Derived.WalkKit
import Derived.WalkSpells
import Derived.Below
import Derived.Handy
import Derived.Deep.RegionWith
namespace Go.Proofs.Ytldmeffhbabanaa.nums
open Go.RowKit Go.Proofs.Ytldmeffhbabanaa.math Go.Proofs.Ytldmeffhbabanaa.ints Go.Proofs.Ytldmeffhbabanaa.walks
set_option linter.unusedVariables false

def sameOk (zs : List Int) (len : Nat) (x y : Int) : Bool := codeB zs len && inR x 0 7 && inR y 0 7
def sameV (zs : List Int) (len : Nat) (x y : Int) : Bool := decide ((numTo zs len).2.getD x.toNat zV = (numTo zs len).2.getD y.toNat zV)
/-- What SameValue answers. -/
def SameAns (zs : List Int) (len : Nat) (x y : Int) (W : World) (e : Ending) (W' : World) : Prop :=
  ((sameOk zs len x y = true ∧ e = .returned (.tuple #[.bool (sameV zs len x y), .bool true])) ∨ (sameOk zs len x y = false ∧ e = .returned (.tuple #[.bool false, .bool false]))) ∧ Below W.heap.size W W'
set_option maxHeartbeats 2000000 in
theorem impl_same (a : Option Addr) (len cap : Nat) (zs : List Int) (x y : Int) (W : World) (hz : Hid (zs.length = len * 5)) (hlen : len ≤ 1048576) (h : Hid (Ints W a zs)) :
    Calls Try.prog 20 #[.slice a len cap, .int .i64 x, .int .i64 y] W fun e W' => SameAns zs len x y W e W' := by
  go_enter Try.func20, Try.ntmps20
  go_wp2_with fail
  refine (impl_numbering a len cap zs W hz hlen h).mono ?_
  rintro e w1 ⟨⟨hc, nb, mb, rfl, hN, _, _⟩ | ⟨hc, rfl⟩, hb⟩
  rotate_left
  · have HA : Hid (SameAns zs len x y W (.returned (.tuple #[.bool false, .bool false])) w1) := ⟨Or.inr ⟨by simp [sameOk, hc], rfl⟩, hb⟩
    clear hb hc
    go_wp2
    go_ret2
    exact HA.out
  cases hx : inR x 0 7
  · have HA : Hid (SameAns zs len x y W (.returned (.tuple #[.bool false, .bool false])) w1) := ⟨Or.inr ⟨by simp [sameOk, hx], rfl⟩, hb⟩
    clear hb hc hN
    go_wp2_with (go_at_call 45; refine (impl_name _ _).mono ?_; rw [hx]; rintro e w' ⟨rfl, hw⟩; rw [hw]; clear hw w')
    go_ret2
    exact HA.out
  cases hy : inR y 0 7
  · have HA : Hid (SameAns zs len x y W (.returned (.tuple #[.bool false, .bool false])) w1) := ⟨Or.inr ⟨by simp [sameOk, hy], rfl⟩, hb⟩
    clear hb hc hN
    go_wp2_with (go_at_call 45; refine (impl_name _ _).mono ?_; (first | rw [hx] | rw [hy]); rintro e w' ⟨rfl, hw⟩; rw [hw]; clear hw w')
    go_ret2
    exact HA.out
  obtain ⟨x0, x7⟩ := inR_out hx
  obtain ⟨y0, y7⟩ := inR_out hy
  obtain ⟨j, rfl⟩ := Int.eq_ofNat_of_zero_le x0
  obtain ⟨k, rfl⟩ := Int.eq_ofNat_of_zero_le y0
  obtain ⟨p0, p1, p2, p3, hp⟩ := four_v ((numTo zs len).2.getD j zV)
  obtain ⟨r0, r1, r2, r3, hr⟩ := four_v ((numTo zs len).2.getD k zV)
  obtain ⟨c, hcc⟩ : ∃ c, decide (((p0, p1, p2, p3) : V) = (r0, r1, r2, r3)) = c := ⟨_, rfl⟩
  have hs : sameV zs len (j : Int) (k : Int) = c := by
    unfold sameV
    simp only [Int.toNat_natCast, hp, hr]
    exact hcc
  have HA : Hid (SameAns zs len (j : Int) (k : Int) W (.returned (.tuple #[.bool c, .bool true])) w1.drew) := ⟨Or.inl ⟨by simp [sameOk, hc, hx, hy], by rw [hs]⟩, hb.drew⟩
  have qg := eqG
  have q : ∀ w : World, (binOp .eql 49 (.agg #[.int .i64 p0, .int .i64 p1, .int .i64 p2, .int .i64 p3]) (.agg #[.int .i64 r0, .int .i64 r1, .int .i64 r2, .int .i64 r3])).run Try.prog w = .ok (.bool c) w := by
    intro w
    rw [eqV, hcc]
  have c0 := num_cell hN (j := j) (i := 0) (by omega) (by omega)
  have c1 := num_cell hN (j := j) (i := 1) (by omega) (by omega)
  have c2 := num_cell hN (j := j) (i := 2) (by omega) (by omega)
  have c3 := num_cell hN (j := j) (i := 3) (by omega) (by omega)
  have g0 := num_cell hN (j := k) (i := 0) (by omega) (by omega)
  have g1 := num_cell hN (j := k) (i := 1) (by omega) (by omega)
  have g2 := num_cell hN (j := k) (i := 2) (by omega) (by omega)
  have g3 := num_cell hN (j := k) (i := 3) (by omega) (by omega)
  rw [hp] at c0 c1 c2 c3
  rw [hr] at g0 g1 g2 g3
  simp only [Nat.add_zero, fldV] at c0 c1 c2 c3 g0 g1 g2 g3
  have j8 : (j : Int) < 8 := by omega
  have k8 : (k : Int) < 8 := by omega
  clear hb hc hN hp hr hcc hs x7 y7
  go_wp2_with (go_at_call 45; refine (impl_name _ _).mono ?_; (first | rw [hx] | rw [hy]); rintro e w' ⟨rfl, hw⟩; rw [hw]; clear hw w')
  go_region
  all_goals go_wp2
  all_goals go_ret2
  all_goals exact HA.out
end Go.Proofs.Ytldmeffhbabanaa.nums
