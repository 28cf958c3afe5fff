/-
  What the program's firstWith and cheaper answer.
-/
import Derived.Test.YtldmeffhbabanaaProg
import Derived.Test.YtldmeffhbabanaaNumRun
import Derived.Test.YtldmeffhbabanaaNumArr
import Derived.WalkKit
import Derived.WalkSpells
import Derived.Below
import Derived.Handy
namespace Go.Proofs.Ytldmeffhbabanaa.nums
open Go.RowKit Go.Proofs.Ytldmeffhbabanaa.math Go.Proofs.Ytldmeffhbabanaa.ints Go.Proofs.Ytldmeffhbabanaa.walks
set_option linter.unusedVariables false

/-- A step's five numbers. -/
abbrev I5 := Int × Int × Int × Int × Int
def iV (i : I5) : Value := .agg #[.int .i64 i.1, .int .i64 i.2.1, .int .i64 i.2.2.1, .int .i64 i.2.2.2.1, .int .i64 i.2.2.2.2]
/-- What a step that sets a name to the value v becomes. -/
def cheapV (ns : List V) (v : V) (o d a b n : Int) : I5 := if v.1 = 1 then (1, d, 0, 0, v.2.2.2) else if v ∈ ns then (2, d, (idx ns v : Int), 0, 0) else (o, d, a, b, n)
def cheapI (vs ns : List V) (o d a b n : Int) : I5 := if o = 8 then (o, d, a, b, n) else cheapV ns (valV vs ns o a b n) o d a b n
/-- What firstWith answers. -/
def FWAns (ns : List V) (v : V) (W : World) (e : Ending) (W' : World) : Prop := ((v ∈ ns ∧ e = .returned (.tuple #[.int .i64 (idx ns v : Int), .bool true])) ∨ (v ∉ ns ∧ e = .returned (.tuple #[.int .i64 0, .bool false]))) ∧ Below W.heap.size W W'
set_option maxRecDepth 100000 in
set_option maxHeartbeats 4000000 in
theorem first_at (v0 v1 v2 v3 : Int) (nb mb : Nat) (vs ns : List V) (W : World) (hN : Hid (Num W nb mb vs ns)) (hl : Hid (ns.length = 8)) :
    Calls Try.prog 52 #[.pointer (some ⟨nb, 0, none⟩), .agg #[.int .i64 v0, .int .i64 v1, .int .i64 v2, .int .i64 v3]] W fun e W' => FWAns ns (v0, v1, v2, v3) W e W' := by
  have hnb := hN.out.1.lt
  obtain ⟨cs, HRg, HSz, HArr⟩ := names_arr (hN.out.alloc (.cells #[.int .i64 v0, .int .i64 v1, .int .i64 v2, .int .i64 v3] 49)) hl.out
  go_enter Try.func52, Try.ntmps52
  go_wp2_with (first | (refine wpList_load_mid rfl 87 _ rfl nb 1 rfl cs _ HRg.out Try.underlying87 rfl HSz.out ?_) | go_in)
  clear HRg HSz
  go_loopw [12] (fun vi wr => ∃ k : Nat, k ≤ 8 ∧ vi = .int .i64 k ∧ Hid (∀ i, i < k → ns.getD i zV ≠ (v0, v1, v2, v3)) ∧ Hid (Below (W.heap.size + 1) (W.alloc (.cells #[.int .i64 v0, .int .i64 v1, .int .i64 v2, .int .i64 v3] 49)) wr)) (fun vi _ => 8 - (intOf vi).toNat)
  case atStart => exact ⟨0, Nat.zero_le _, rfl, fun i hi => by omega, by show Below _ _ _; go_grown⟩
  case round =>
    obtain ⟨k, hk, rfl, HN, HB1⟩ := hrel
    have HB : Hid (Below W.heap.size W wr) := by show Below _ _ _; exact ((Below.refl _ _).alloc (Nat.le_refl _) _).trans (HB1.out.mono (by omega))
    have hws : W.heap.size + 1 ≤ wr.heap.size := by have := HB1.out.size; simpa using this
    have b0 : wr.cell? ⟨W.heap.size, 0, none⟩ = some (.int .i64 v0) := (HB1.out.cell (p := ⟨W.heap.size, 0, none⟩) (by simp)).trans (by go_simp)
    have b1 : wr.cell? ⟨W.heap.size, 1, none⟩ = some (.int .i64 v1) := (HB1.out.cell (p := ⟨W.heap.size, 1, none⟩) (by simp)).trans (by go_simp)
    have b2 : wr.cell? ⟨W.heap.size, 2, none⟩ = some (.int .i64 v2) := (HB1.out.cell (p := ⟨W.heap.size, 2, none⟩) (by simp)).trans (by go_simp)
    have b3 : wr.cell? ⟨W.heap.size, 3, none⟩ = some (.int .i64 v3) := (HB1.out.cell (p := ⟨W.heap.size, 3, none⟩) (by simp)).trans (by go_simp)
    have hwl : W.heap.size < wr.heap.size := by omega
    by_cases hlt : k < 8
    · have hlt' : (k : Int) < 8 := by omega
      obtain ⟨x0, x1, x2, x3, hx⟩ := four_v (ns.getD k zV)
      have qx := HArr.out k hlt x0 x1 x2 x3 hx
      have qg := eqG
      by_cases heq : ((x0, x1, x2, x3) : V) = (v0, v1, v2, v3)
      · have q : ∀ w : World, (binOp .eql 49 (.agg #[.int .i64 x0, .int .i64 x1, .int .i64 x2, .int .i64 x3]) (.agg #[.int .i64 v0, .int .i64 v1, .int .i64 v2, .int .i64 v3])).run Try.prog w = .ok (.bool true) w := by intro w; rw [eqV, decide_eq_true heq]
        have hkl : k < ns.length := by rw [hl.out]; exact hlt
        have HA : Hid ((v0, v1, v2, v3) ∈ ns ∧ idx ns (v0, v1, v2, v3) = k) := ⟨by rw [← heq, ← hx]; exact get_mem hkl, idx_is hkl (hx.trans heq) HN.out⟩
        clear heq hx hkl
        go_wp2
        go_ret2
        refine ⟨Or.inl ⟨HA.out.1, by rw [HA.out.2]; rfl⟩, HB.out.trans ?_⟩
        go_grown
      · have q : ∀ w : World, (binOp .eql 49 (.agg #[.int .i64 x0, .int .i64 x1, .int .i64 x2, .int .i64 x3]) (.agg #[.int .i64 v0, .int .i64 v1, .int .i64 v2, .int .i64 v3])).run Try.prog w = .ok (.bool false) w := by intro w; rw [eqV, decide_eq_false heq]
        have HN' : Hid (∀ i, i < k + 1 → ns.getD i zV ≠ (v0, v1, v2, v3)) := by
          show ∀ i, i < k + 1 → _
          intro i hi'
          by_cases e : i = k
          · rw [e, hx]; exact heq
          · exact HN.out i (by omega)
        clear heq hx
        go_wp2
        go_roundw
        case rel => exact ⟨k + 1, by omega, by go_num, HN', by show Below _ _ _; refine Below.trans HB1.out ?_; go_grown⟩
        case measure => simp [intOf]; omega
    · have HA : Hid ((v0, v1, v2, v3) ∉ ns) := not_mem_of (fun i hi' => HN.out i (by rw [hl.out] at hi'; omega))
      have hge : (8 : Int) ≤ k := by omega
      go_wp2
      go_ret2
      exact ⟨Or.inr ⟨HA.out, rfl⟩, HB.out⟩
/-- What cheaper answers. -/
def CheapAns (i : I5) (W : World) (e : Ending) (W' : World) : Prop := e = .returned (iV i) ∧ Below W.heap.size W W'
set_option maxHeartbeats 1000000 in
theorem cheap_out (d a b n : Int) (nb : Nat) (W : World) :
    Calls Try.prog 27 #[.pointer (some ⟨nb, 0, none⟩), .agg #[.int .i64 8, .int .i64 d, .int .i64 a, .int .i64 b, .int .i64 n]] W fun e W' => CheapAns (8, d, a, b, n) W e W' := by
  go_enter Try.func27, Try.ntmps27
  go_wp2
  exact bodyPost_ret (v := .agg #[.int .i64 8, .int .i64 d, .int .i64 a, .int .i64 b, .int .i64 n]) (by simp only [results, Try.results27]; go_simp) rfl ⟨rfl, by go_grown⟩
set_option maxRecDepth 100000 in
set_option maxHeartbeats 2000000 in
theorem cheap_known (o d a b n v1 v2 v3 : Int) (nb mb m : Nat) (vs ns : List V) (W : World) (hm : m ≤ 65535) (h8 : o ≠ 8) (HG : Hid (goodI o d a b n = true)) (HI : Hid (Inv vs ns m)) (hN : Hid (Num W nb mb vs ns)) (HV : Hid (valV vs ns o a b n = (1, v1, v2, v3)))  :
    Calls Try.prog 27 #[.pointer (some ⟨nb, 0, none⟩), .agg #[.int .i64 o, .int .i64 d, .int .i64 a, .int .i64 b, .int .i64 n]] W fun e W' => CheapAns (1, d, 0, 0, v3) W e W' := by
  have hnb := hN.out.1.lt
  have q8 : (o == 8) = false := by simpa using h8
  go_enter Try.func27, Try.ntmps27
  go_wp2_with fail
  refine (impl_value o d a b n nb mb vs ns m _ hm HG.out h8 HI.out ((hN.out.alloc _).alloc _)).mono ?_
  rintro e w' ⟨he, hb⟩
  rw [HV.out] at he
  simp only [vV] at he
  subst he
  have s0 : w'.cell? ⟨W.heap.size, 0, none⟩ = some (.int .i64 o) := (hb.cell (p := ⟨W.heap.size, 0, none⟩) (by simp <;> omega)).trans (by go_simp)
  have s1 : w'.cell? ⟨W.heap.size, 1, none⟩ = some (.int .i64 d) := (hb.cell (p := ⟨W.heap.size, 1, none⟩) (by simp <;> omega)).trans (by go_simp)
  have s2 : w'.cell? ⟨W.heap.size, 2, none⟩ = some (.int .i64 a) := (hb.cell (p := ⟨W.heap.size, 2, none⟩) (by simp <;> omega)).trans (by go_simp)
  have s3 : w'.cell? ⟨W.heap.size, 3, none⟩ = some (.int .i64 b) := (hb.cell (p := ⟨W.heap.size, 3, none⟩) (by simp <;> omega)).trans (by go_simp)
  have s4 : w'.cell? ⟨W.heap.size, 4, none⟩ = some (.int .i64 n) := (hb.cell (p := ⟨W.heap.size, 4, none⟩) (by simp <;> omega)).trans (by go_simp)
  have t0 : w'.cell? ⟨W.heap.size + 1, 0, none⟩ = some (.int .i64 0) := (hb.cell (p := ⟨W.heap.size + 1, 0, none⟩) (by simp <;> omega)).trans (by go_simp)
  have t1 : w'.cell? ⟨W.heap.size + 1, 1, none⟩ = some (.int .i64 0) := (hb.cell (p := ⟨W.heap.size + 1, 1, none⟩) (by simp <;> omega)).trans (by go_simp)
  have t2 : w'.cell? ⟨W.heap.size + 1, 2, none⟩ = some (.int .i64 0) := (hb.cell (p := ⟨W.heap.size + 1, 2, none⟩) (by simp <;> omega)).trans (by go_simp)
  have t3 : w'.cell? ⟨W.heap.size + 1, 3, none⟩ = some (.int .i64 0) := (hb.cell (p := ⟨W.heap.size + 1, 3, none⟩) (by simp <;> omega)).trans (by go_simp)
  have t4 : w'.cell? ⟨W.heap.size + 1, 4, none⟩ = some (.int .i64 0) := (hb.cell (p := ⟨W.heap.size + 1, 4, none⟩) (by simp <;> omega)).trans (by go_simp)
  have f0 : w'.frozen? ⟨W.heap.size + 1, 0, none⟩ = false := (hb.frozen (p := ⟨W.heap.size + 1, 0, none⟩) (by simp <;> omega)).trans (by go_simp)
  have f1 : w'.frozen? ⟨W.heap.size + 1, 1, none⟩ = false := (hb.frozen (p := ⟨W.heap.size + 1, 1, none⟩) (by simp <;> omega)).trans (by go_simp)
  have f2 : w'.frozen? ⟨W.heap.size + 1, 2, none⟩ = false := (hb.frozen (p := ⟨W.heap.size + 1, 2, none⟩) (by simp <;> omega)).trans (by go_simp)
  have f3 : w'.frozen? ⟨W.heap.size + 1, 3, none⟩ = false := (hb.frozen (p := ⟨W.heap.size + 1, 3, none⟩) (by simp <;> omega)).trans (by go_simp)
  have f4 : w'.frozen? ⟨W.heap.size + 1, 4, none⟩ = false := (hb.frozen (p := ⟨W.heap.size + 1, 4, none⟩) (by simp <;> omega)).trans (by go_simp)
  have HB : Hid (Below W.heap.size W w') := (by show Below _ _ _; refine Below.trans ?_ (hb.mono (by simp <;> omega)); go_grown)
  have hlt : W.heap.size + 1 < w'.heap.size := by have := hb.size; simp at this; omega
  have hl0 : W.heap.size < w'.heap.size := by omega
  have HW : Hid (Num w' nb mb vs ns) := num_far hN.out HB.out
  have hg2 : W.heap.size ≤ W.heap.size + 1 := by omega
  clear hb
  go_wp2_with (go_at_call 42; go_in)
  refine bodyPost_ret (v := .agg #[.int .i64 1, .int .i64 d, .int .i64 0, .int .i64 0, .int .i64 v3]) (by simp only [results, Try.results27]; go_simp) rfl ⟨rfl, ?_⟩
  refine Below.trans HB.out ?_
  go_grown
set_option maxRecDepth 100000 in
set_option maxHeartbeats 2000000 in
theorem cheap_copy (o d a b n v0 v1 v2 v3 : Int) (nb mb m : Nat) (vs ns : List V) (W : World) (hm : m ≤ 65535) (h8 : o ≠ 8) (HG : Hid (goodI o d a b n = true)) (HI : Hid (Inv vs ns m)) (hN : Hid (Num W nb mb vs ns)) (HV : Hid (valV vs ns o a b n = (v0, v1, v2, v3))) (hk : (v0 == 1) = false) (hk2 : decide (v0 = 1) = false) (hk3 : ¬ v0 = 1) (j : Nat) (HJ : Hid ((v0, v1, v2, v3) ∈ ns ∧ idx ns (v0, v1, v2, v3) = j)) :
    Calls Try.prog 27 #[.pointer (some ⟨nb, 0, none⟩), .agg #[.int .i64 o, .int .i64 d, .int .i64 a, .int .i64 b, .int .i64 n]] W fun e W' => CheapAns (2, d, (j : Int), 0, 0) W e W' := by
  have hnb := hN.out.1.lt
  have q8 : (o == 8) = false := by simpa using h8
  go_enter Try.func27, Try.ntmps27
  go_wp2_with fail
  refine (impl_value o d a b n nb mb vs ns m _ hm HG.out h8 HI.out ((hN.out.alloc _).alloc _)).mono ?_
  rintro e w' ⟨he, hb⟩
  rw [HV.out] at he
  simp only [vV] at he
  subst he
  have s0 : w'.cell? ⟨W.heap.size, 0, none⟩ = some (.int .i64 o) := (hb.cell (p := ⟨W.heap.size, 0, none⟩) (by simp <;> omega)).trans (by go_simp)
  have s1 : w'.cell? ⟨W.heap.size, 1, none⟩ = some (.int .i64 d) := (hb.cell (p := ⟨W.heap.size, 1, none⟩) (by simp <;> omega)).trans (by go_simp)
  have s2 : w'.cell? ⟨W.heap.size, 2, none⟩ = some (.int .i64 a) := (hb.cell (p := ⟨W.heap.size, 2, none⟩) (by simp <;> omega)).trans (by go_simp)
  have s3 : w'.cell? ⟨W.heap.size, 3, none⟩ = some (.int .i64 b) := (hb.cell (p := ⟨W.heap.size, 3, none⟩) (by simp <;> omega)).trans (by go_simp)
  have s4 : w'.cell? ⟨W.heap.size, 4, none⟩ = some (.int .i64 n) := (hb.cell (p := ⟨W.heap.size, 4, none⟩) (by simp <;> omega)).trans (by go_simp)
  have t0 : w'.cell? ⟨W.heap.size + 1, 0, none⟩ = some (.int .i64 0) := (hb.cell (p := ⟨W.heap.size + 1, 0, none⟩) (by simp <;> omega)).trans (by go_simp)
  have t1 : w'.cell? ⟨W.heap.size + 1, 1, none⟩ = some (.int .i64 0) := (hb.cell (p := ⟨W.heap.size + 1, 1, none⟩) (by simp <;> omega)).trans (by go_simp)
  have t2 : w'.cell? ⟨W.heap.size + 1, 2, none⟩ = some (.int .i64 0) := (hb.cell (p := ⟨W.heap.size + 1, 2, none⟩) (by simp <;> omega)).trans (by go_simp)
  have t3 : w'.cell? ⟨W.heap.size + 1, 3, none⟩ = some (.int .i64 0) := (hb.cell (p := ⟨W.heap.size + 1, 3, none⟩) (by simp <;> omega)).trans (by go_simp)
  have t4 : w'.cell? ⟨W.heap.size + 1, 4, none⟩ = some (.int .i64 0) := (hb.cell (p := ⟨W.heap.size + 1, 4, none⟩) (by simp <;> omega)).trans (by go_simp)
  have f0 : w'.frozen? ⟨W.heap.size + 1, 0, none⟩ = false := (hb.frozen (p := ⟨W.heap.size + 1, 0, none⟩) (by simp <;> omega)).trans (by go_simp)
  have f1 : w'.frozen? ⟨W.heap.size + 1, 1, none⟩ = false := (hb.frozen (p := ⟨W.heap.size + 1, 1, none⟩) (by simp <;> omega)).trans (by go_simp)
  have f2 : w'.frozen? ⟨W.heap.size + 1, 2, none⟩ = false := (hb.frozen (p := ⟨W.heap.size + 1, 2, none⟩) (by simp <;> omega)).trans (by go_simp)
  have f3 : w'.frozen? ⟨W.heap.size + 1, 3, none⟩ = false := (hb.frozen (p := ⟨W.heap.size + 1, 3, none⟩) (by simp <;> omega)).trans (by go_simp)
  have f4 : w'.frozen? ⟨W.heap.size + 1, 4, none⟩ = false := (hb.frozen (p := ⟨W.heap.size + 1, 4, none⟩) (by simp <;> omega)).trans (by go_simp)
  have HB : Hid (Below W.heap.size W w') := (by show Below _ _ _; refine Below.trans ?_ (hb.mono (by simp <;> omega)); go_grown)
  have hlt : W.heap.size + 1 < w'.heap.size := by have := hb.size; simp at this; omega
  have hl0 : W.heap.size < w'.heap.size := by omega
  have HW : Hid (Num w' nb mb vs ns) := num_far hN.out HB.out
  have hg2 : W.heap.size ≤ W.heap.size + 1 := by omega
  clear hb
  go_wp2_with (go_at_call 42; go_in)
  refine (first_at v0 v1 v2 v3 nb mb vs ns _ ((HW.out.alloc _).alloc _) HI.out.len).mono ?_
  rintro e w2 ⟨hh, hb⟩
  have he : e = .returned (.tuple #[.int .i64 (j : Int), .bool true]) := by
    rcases hh with ⟨_, h⟩ | ⟨h, _⟩
    · rw [h, HJ.out.2]
    · exact (h HJ.out.1).elim
  subst he
  clear hh
  have u0 : w2.cell? ⟨W.heap.size, 0, none⟩ = some (.int .i64 o) := (hb.cell (p := ⟨W.heap.size, 0, none⟩) (by simp <;> omega)).trans (by go_simp)
  have u1 : w2.cell? ⟨W.heap.size, 1, none⟩ = some (.int .i64 d) := (hb.cell (p := ⟨W.heap.size, 1, none⟩) (by simp <;> omega)).trans (by go_simp)
  have u2 : w2.cell? ⟨W.heap.size, 2, none⟩ = some (.int .i64 a) := (hb.cell (p := ⟨W.heap.size, 2, none⟩) (by simp <;> omega)).trans (by go_simp)
  have u3 : w2.cell? ⟨W.heap.size, 3, none⟩ = some (.int .i64 b) := (hb.cell (p := ⟨W.heap.size, 3, none⟩) (by simp <;> omega)).trans (by go_simp)
  have u4 : w2.cell? ⟨W.heap.size, 4, none⟩ = some (.int .i64 n) := (hb.cell (p := ⟨W.heap.size, 4, none⟩) (by simp <;> omega)).trans (by go_simp)
  have x0 : w2.cell? ⟨W.heap.size + 1, 0, none⟩ = some (.int .i64 0) := (hb.cell (p := ⟨W.heap.size + 1, 0, none⟩) (by simp <;> omega)).trans (by go_simp)
  have x1 : w2.cell? ⟨W.heap.size + 1, 1, none⟩ = some (.int .i64 0) := (hb.cell (p := ⟨W.heap.size + 1, 1, none⟩) (by simp <;> omega)).trans (by go_simp)
  have x2 : w2.cell? ⟨W.heap.size + 1, 2, none⟩ = some (.int .i64 0) := (hb.cell (p := ⟨W.heap.size + 1, 2, none⟩) (by simp <;> omega)).trans (by go_simp)
  have x3 : w2.cell? ⟨W.heap.size + 1, 3, none⟩ = some (.int .i64 0) := (hb.cell (p := ⟨W.heap.size + 1, 3, none⟩) (by simp <;> omega)).trans (by go_simp)
  have x4 : w2.cell? ⟨W.heap.size + 1, 4, none⟩ = some (.int .i64 0) := (hb.cell (p := ⟨W.heap.size + 1, 4, none⟩) (by simp <;> omega)).trans (by go_simp)
  have g0 : w2.frozen? ⟨W.heap.size + 1, 0, none⟩ = false := (hb.frozen (p := ⟨W.heap.size + 1, 0, none⟩) (by simp <;> omega)).trans (by go_simp)
  have g1 : w2.frozen? ⟨W.heap.size + 1, 1, none⟩ = false := (hb.frozen (p := ⟨W.heap.size + 1, 1, none⟩) (by simp <;> omega)).trans (by go_simp)
  have g2 : w2.frozen? ⟨W.heap.size + 1, 2, none⟩ = false := (hb.frozen (p := ⟨W.heap.size + 1, 2, none⟩) (by simp <;> omega)).trans (by go_simp)
  have g3 : w2.frozen? ⟨W.heap.size + 1, 3, none⟩ = false := (hb.frozen (p := ⟨W.heap.size + 1, 3, none⟩) (by simp <;> omega)).trans (by go_simp)
  have g4 : w2.frozen? ⟨W.heap.size + 1, 4, none⟩ = false := (hb.frozen (p := ⟨W.heap.size + 1, 4, none⟩) (by simp <;> omega)).trans (by go_simp)
  have HB2 : Hid (Below W.heap.size W w2) := (by show Below _ _ _; refine HB.out.trans (Below.trans ?_ (hb.mono (by simp <;> omega))); go_grown)
  have hlt2 : W.heap.size + 1 < w2.heap.size := by have := hb.size; simp at this; omega
  clear hb
  go_wp2
  refine bodyPost_ret (v := .agg #[.int .i64 2, .int .i64 d, .int .i64 (j : Int), .int .i64 0, .int .i64 0]) (by simp only [results, Try.results27]; go_simp) rfl ⟨rfl, ?_⟩
  refine Below.trans HB2.out ?_
  have hs2 := HB2.out.size
  go_grown
set_option maxRecDepth 100000 in
set_option maxHeartbeats 2000000 in
theorem cheap_plain (o d a b n v0 v1 v2 v3 : Int) (nb mb m : Nat) (vs ns : List V) (W : World) (hm : m ≤ 65535) (h8 : o ≠ 8) (HG : Hid (goodI o d a b n = true)) (HI : Hid (Inv vs ns m)) (hN : Hid (Num W nb mb vs ns)) (HV : Hid (valV vs ns o a b n = (v0, v1, v2, v3))) (hk : (v0 == 1) = false) (hk2 : decide (v0 = 1) = false) (hk3 : ¬ v0 = 1) (HJ : Hid ((v0, v1, v2, v3) ∉ ns)) :
    Calls Try.prog 27 #[.pointer (some ⟨nb, 0, none⟩), .agg #[.int .i64 o, .int .i64 d, .int .i64 a, .int .i64 b, .int .i64 n]] W fun e W' => CheapAns (o, d, a, b, n) W e W' := by
  have hnb := hN.out.1.lt
  have q8 : (o == 8) = false := by simpa using h8
  go_enter Try.func27, Try.ntmps27
  go_wp2_with fail
  refine (impl_value o d a b n nb mb vs ns m _ hm HG.out h8 HI.out ((hN.out.alloc _).alloc _)).mono ?_
  rintro e w' ⟨he, hb⟩
  rw [HV.out] at he
  simp only [vV] at he
  subst he
  have s0 : w'.cell? ⟨W.heap.size, 0, none⟩ = some (.int .i64 o) := (hb.cell (p := ⟨W.heap.size, 0, none⟩) (by simp <;> omega)).trans (by go_simp)
  have s1 : w'.cell? ⟨W.heap.size, 1, none⟩ = some (.int .i64 d) := (hb.cell (p := ⟨W.heap.size, 1, none⟩) (by simp <;> omega)).trans (by go_simp)
  have s2 : w'.cell? ⟨W.heap.size, 2, none⟩ = some (.int .i64 a) := (hb.cell (p := ⟨W.heap.size, 2, none⟩) (by simp <;> omega)).trans (by go_simp)
  have s3 : w'.cell? ⟨W.heap.size, 3, none⟩ = some (.int .i64 b) := (hb.cell (p := ⟨W.heap.size, 3, none⟩) (by simp <;> omega)).trans (by go_simp)
  have s4 : w'.cell? ⟨W.heap.size, 4, none⟩ = some (.int .i64 n) := (hb.cell (p := ⟨W.heap.size, 4, none⟩) (by simp <;> omega)).trans (by go_simp)
  have t0 : w'.cell? ⟨W.heap.size + 1, 0, none⟩ = some (.int .i64 0) := (hb.cell (p := ⟨W.heap.size + 1, 0, none⟩) (by simp <;> omega)).trans (by go_simp)
  have t1 : w'.cell? ⟨W.heap.size + 1, 1, none⟩ = some (.int .i64 0) := (hb.cell (p := ⟨W.heap.size + 1, 1, none⟩) (by simp <;> omega)).trans (by go_simp)
  have t2 : w'.cell? ⟨W.heap.size + 1, 2, none⟩ = some (.int .i64 0) := (hb.cell (p := ⟨W.heap.size + 1, 2, none⟩) (by simp <;> omega)).trans (by go_simp)
  have t3 : w'.cell? ⟨W.heap.size + 1, 3, none⟩ = some (.int .i64 0) := (hb.cell (p := ⟨W.heap.size + 1, 3, none⟩) (by simp <;> omega)).trans (by go_simp)
  have t4 : w'.cell? ⟨W.heap.size + 1, 4, none⟩ = some (.int .i64 0) := (hb.cell (p := ⟨W.heap.size + 1, 4, none⟩) (by simp <;> omega)).trans (by go_simp)
  have f0 : w'.frozen? ⟨W.heap.size + 1, 0, none⟩ = false := (hb.frozen (p := ⟨W.heap.size + 1, 0, none⟩) (by simp <;> omega)).trans (by go_simp)
  have f1 : w'.frozen? ⟨W.heap.size + 1, 1, none⟩ = false := (hb.frozen (p := ⟨W.heap.size + 1, 1, none⟩) (by simp <;> omega)).trans (by go_simp)
  have f2 : w'.frozen? ⟨W.heap.size + 1, 2, none⟩ = false := (hb.frozen (p := ⟨W.heap.size + 1, 2, none⟩) (by simp <;> omega)).trans (by go_simp)
  have f3 : w'.frozen? ⟨W.heap.size + 1, 3, none⟩ = false := (hb.frozen (p := ⟨W.heap.size + 1, 3, none⟩) (by simp <;> omega)).trans (by go_simp)
  have f4 : w'.frozen? ⟨W.heap.size + 1, 4, none⟩ = false := (hb.frozen (p := ⟨W.heap.size + 1, 4, none⟩) (by simp <;> omega)).trans (by go_simp)
  have HB : Hid (Below W.heap.size W w') := (by show Below _ _ _; refine Below.trans ?_ (hb.mono (by simp <;> omega)); go_grown)
  have hlt : W.heap.size + 1 < w'.heap.size := by have := hb.size; simp at this; omega
  have hl0 : W.heap.size < w'.heap.size := by omega
  have HW : Hid (Num w' nb mb vs ns) := num_far hN.out HB.out
  have hg2 : W.heap.size ≤ W.heap.size + 1 := by omega
  clear hb
  go_wp2_with (go_at_call 42; go_in)
  refine (first_at v0 v1 v2 v3 nb mb vs ns _ ((HW.out.alloc _).alloc _) HI.out.len).mono ?_
  rintro e w2 ⟨hh, hb⟩
  have he : e = .returned (.tuple #[.int .i64 0, .bool false]) := by
    rcases hh with ⟨h, _⟩ | ⟨_, h⟩
    · exact (HJ.out h).elim
    · exact h
  subst he
  clear hh
  have u0 : w2.cell? ⟨W.heap.size, 0, none⟩ = some (.int .i64 o) := (hb.cell (p := ⟨W.heap.size, 0, none⟩) (by simp <;> omega)).trans (by go_simp)
  have u1 : w2.cell? ⟨W.heap.size, 1, none⟩ = some (.int .i64 d) := (hb.cell (p := ⟨W.heap.size, 1, none⟩) (by simp <;> omega)).trans (by go_simp)
  have u2 : w2.cell? ⟨W.heap.size, 2, none⟩ = some (.int .i64 a) := (hb.cell (p := ⟨W.heap.size, 2, none⟩) (by simp <;> omega)).trans (by go_simp)
  have u3 : w2.cell? ⟨W.heap.size, 3, none⟩ = some (.int .i64 b) := (hb.cell (p := ⟨W.heap.size, 3, none⟩) (by simp <;> omega)).trans (by go_simp)
  have u4 : w2.cell? ⟨W.heap.size, 4, none⟩ = some (.int .i64 n) := (hb.cell (p := ⟨W.heap.size, 4, none⟩) (by simp <;> omega)).trans (by go_simp)
  have x0 : w2.cell? ⟨W.heap.size + 1, 0, none⟩ = some (.int .i64 0) := (hb.cell (p := ⟨W.heap.size + 1, 0, none⟩) (by simp <;> omega)).trans (by go_simp)
  have x1 : w2.cell? ⟨W.heap.size + 1, 1, none⟩ = some (.int .i64 0) := (hb.cell (p := ⟨W.heap.size + 1, 1, none⟩) (by simp <;> omega)).trans (by go_simp)
  have x2 : w2.cell? ⟨W.heap.size + 1, 2, none⟩ = some (.int .i64 0) := (hb.cell (p := ⟨W.heap.size + 1, 2, none⟩) (by simp <;> omega)).trans (by go_simp)
  have x3 : w2.cell? ⟨W.heap.size + 1, 3, none⟩ = some (.int .i64 0) := (hb.cell (p := ⟨W.heap.size + 1, 3, none⟩) (by simp <;> omega)).trans (by go_simp)
  have x4 : w2.cell? ⟨W.heap.size + 1, 4, none⟩ = some (.int .i64 0) := (hb.cell (p := ⟨W.heap.size + 1, 4, none⟩) (by simp <;> omega)).trans (by go_simp)
  have g0 : w2.frozen? ⟨W.heap.size + 1, 0, none⟩ = false := (hb.frozen (p := ⟨W.heap.size + 1, 0, none⟩) (by simp <;> omega)).trans (by go_simp)
  have g1 : w2.frozen? ⟨W.heap.size + 1, 1, none⟩ = false := (hb.frozen (p := ⟨W.heap.size + 1, 1, none⟩) (by simp <;> omega)).trans (by go_simp)
  have g2 : w2.frozen? ⟨W.heap.size + 1, 2, none⟩ = false := (hb.frozen (p := ⟨W.heap.size + 1, 2, none⟩) (by simp <;> omega)).trans (by go_simp)
  have g3 : w2.frozen? ⟨W.heap.size + 1, 3, none⟩ = false := (hb.frozen (p := ⟨W.heap.size + 1, 3, none⟩) (by simp <;> omega)).trans (by go_simp)
  have g4 : w2.frozen? ⟨W.heap.size + 1, 4, none⟩ = false := (hb.frozen (p := ⟨W.heap.size + 1, 4, none⟩) (by simp <;> omega)).trans (by go_simp)
  have HB2 : Hid (Below W.heap.size W w2) := (by show Below _ _ _; refine HB.out.trans (Below.trans ?_ (hb.mono (by simp <;> omega))); go_grown)
  have hlt2 : W.heap.size + 1 < w2.heap.size := by have := hb.size; simp at this; omega
  clear hb
  go_wp2
  refine bodyPost_ret (v := .agg #[.int .i64 o, .int .i64 d, .int .i64 a, .int .i64 b, .int .i64 n]) (by simp only [results, Try.results27]; go_simp) rfl ⟨rfl, ?_⟩
  refine Below.trans HB2.out ?_
  have hs2 := HB2.out.size
  go_grown
theorem impl_cheaper (o d a b n : Int) (nb mb m : Nat) (vs ns : List V) (W : World) (hm : m ≤ 65535) (g : goodI o d a b n = true) (hI : Inv vs ns m) (hN : Num W nb mb vs ns) :
    Calls Try.prog 27 #[.pointer (some ⟨nb, 0, none⟩), .agg #[.int .i64 o, .int .i64 d, .int .i64 a, .int .i64 b, .int .i64 n]] W fun e W' => CheapAns (cheapI vs ns o d a b n) W e W' := by
  unfold cheapI
  by_cases h8 : o = 8
  · subst h8
    rw [if_pos rfl]
    exact cheap_out d a b n nb W
  · rw [if_neg h8]
    obtain ⟨v0, v1, v2, v3, hv⟩ := four_v (valV vs ns o a b n)
    rw [hv]
    unfold cheapV
    by_cases h1 : v0 = 1
    · subst h1
      rw [if_pos rfl]
      exact cheap_known o d a b n v1 v2 v3 nb mb m vs ns W hm h8 g hI hN hv
    · rw [if_neg h1]
      by_cases hmem : (v0, v1, v2, v3) ∈ ns
      · rw [if_pos hmem]
        exact cheap_copy o d a b n v0 v1 v2 v3 nb mb m vs ns W hm h8 g hI hN hv (by simpa using h1) (decide_eq_false h1) h1 _ ⟨hmem, rfl⟩
      · rw [if_neg hmem]
        exact cheap_plain o d a b n v0 v1 v2 v3 nb mb m vs ns W hm h8 g hI hN hv (by simpa using h1) (decide_eq_false h1) h1 hmem
end Go.Proofs.Ytldmeffhbabanaa.nums
