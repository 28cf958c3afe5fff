/-
  What the specification's constant and is do.
-/
import Derived.Test.YtldmeffhbabanaaProg
import Derived.Test.YtldmeffhbabanaaNumFind
import Derived.Test.YtldmeffhbabanaaTwoWords
import Derived.WalkKit
import Derived.WalkSpells
import Derived.Below
import Derived.Handy
namespace Go.Proofs.Ytldmeffhbabanaa.nums
open Go.RowKit Go.Proofs.Ytldmeffhbabanaa.math Go.Proofs.Ytldmeffhbabanaa.ints Go.Proofs.Ytldmeffhbabanaa.walks
set_option linter.unusedVariables false
set_option linter.unusedSimpArgs false

theorem spec_const (n : Int) (B sb : Nat) (vs : List V) (ks : List Int) (W : World) (hS : St W B sb vs ks) (hBW : B ≤ W.heap.size) (hv : 0 < vs.length) (hks : 0 < ks.length) (hl : vs.length ≤ 1000) :
    Calls Try.prog 54 #[.pointer (some ⟨sb, 0, none⟩), .int .i64 n] W fun e W' => FindAns W B sb vs ks (kon n) e W' := by
  obtain ⟨r, hr⟩ : ∃ r : Nat, Hid (idx (addV vs (kon n)) (kon n) = r) := ⟨_, rfl⟩
  go_enter Try.func54, Try.ntmps54
  go_wp2_with fail
  refine (spec_find (kon n) B sb vs ks W hS hBW hv hks hl).mono ?_
  rintro e w' ⟨rfl, h1, h2, h3⟩
  rw [hr.out]
  have H1 : Hid (St w' B sb (addV vs (kon n)) ks) := h1
  have H2 : Hid (Below B W w') := h2
  have H3 : Hid (Frame W w' B sb vs ks) := h3
  clear h1 h2 h3 hS
  go_wp2
  go_ret
  exact ⟨by rw [hr.out]; rfl, H1.out, H2.out, H3.out⟩
theorem spec_is (k : Nat) (n : Int) (c : Bool) (B sb : Nat) (vs : List V) (ks : List Int) (W : World) (hS : St W B sb vs ks) (hv : 0 < vs.length) (hks : 0 < ks.length) (hl : vs.length ≤ 1000) (hk : k < vs.length) (hc : decide (vs.getD k zV = kon n) = c) :
    Calls Try.prog 66 #[.pointer (some ⟨sb, 0, none⟩), .int .i64 (k : Int), .int .i64 n] W fun e W' => e = .returned (.bool c) ∧ W' = W := by
  obtain ⟨gv, gn, cv, cn, hE⟩ := hS.seen hv hks
  have e0 := hE.v
  obtain ⟨x0, x1, x2, x3, hx⟩ : ∃ x0 x1 x2 x3, vs.getD k zV = (x0, x1, x2, x3) := ⟨_, _, _, _, rfl⟩
  have c0 := hE.val (k := k) (i := 0) hk (by omega)
  have c1 := hE.val (k := k) (i := 1) hk (by omega)
  have c2 := hE.val (k := k) (i := 2) hk (by omega)
  have c3 := hE.val (k := k) (i := 3) hk (by omega)
  rw [hx] at c0 c1 c2 c3 hc
  simp only [Nat.add_zero, fldV] at c0 c1 c2 c3
  have hk' : (k : Int) < (vs.length : Int) := by omega
  have qg := eqG
  have q : ∀ w : World, (binOp .eql 49 (.agg #[.int .i64 x0, .int .i64 x1, .int .i64 x2, .int .i64 x3]) (.agg #[.int .i64 1, .int .i64 0, .int .i64 0, .int .i64 n])).run Try.prog w = .ok (.bool c) w := by
    intro w
    rw [eqV]
    exact congrArg (fun c => Result.ok (Value.bool c) w) hc
  clear hE hS hc hx
  go_enter Try.func66, Try.ntmps66
  go_wp2
  go_ret
  exact ⟨rfl, rfl⟩
theorem at_old {vs : List V} (hn : vs.Nodup) {k : Nat} (hk : k < vs.length) {v : V} (h : vs.getD k zV = v) : addV vs v = vs ∧ idx (addV vs v) v = k := by
  have hm : v ∈ vs := h ▸ get_mem hk
  rw [add_old hm]
  exact ⟨rfl, by rw [← h]; exact idx_at hn hk⟩
theorem at_inj {vs : List V} (hn : vs.Nodup) {i j : Nat} (hi : i < vs.length) (hj : j < vs.length) (h : vs.getD i zV = vs.getD j zV) : i = j := by
  rw [← idx_at hn hi, ← idx_at hn hj, h]
end Go.Proofs.Ytldmeffhbabanaa.nums
