/-
  What the specification's l15Cell, l15Color answer.
-/
import Derived.Test.YtokaibpkajloeaaProg
import Derived.Test.YtokaibpkajloeaaInts
import Derived.Test.YtokaibpkajloeaaDeep
import Derived.Test.YtokaibpkajloeaaDeepRow
import Derived.Test.YtokaibpkajloeaaDeepM
import Derived.Test.YtokaibpkajloeaaMarkMath
import Derived.Test.YtokaibpkajloeaaMarkWell
import Derived.Test.YtokaibpkajloeaaHasIn
import Derived.WalkKit
import Derived.WalkSpells
import Derived.Below
import Derived.Handy
import Derived.Deep.DeepFit
import Derived.Deep.DeepCutAuto
namespace Go.Proofs.Ytokaibpkajloeaa.walks
open Go.RowKit Go.Proofs.Ytokaibpkajloeaa.math Go.Proofs.Ytokaibpkajloeaa.ints Go.Proofs.Ytokaibpkajloeaa.deep
set_option linter.unusedVariables false
set_option maxRecDepth 100000

/-- One cell of a marker, in a world that has only grown. -/
theorem mcell_at {W wr : World} {c : Bool} {a : Option Addr} {n cap k : Nat} {cs : Nat → Dv} (h : Holds W c (.l n 3 cs) (.slice a n cap)) (hf : Fits shCellS (.l n 3 cs)) (hB : Below W.heap.size W wr) (hk : k < n) : ∃ b o la lc, a = some ⟨b, o, none⟩ ∧ b < W.heap.size ∧ wr.cell? ⟨b, o + k * 3, none⟩ = some (.slice la (mln cs k) lc) ∧ wr.cell? ⟨b, o + k * 3 + 1, none⟩ = some (.int .i64 (mco cs k)) ∧ wr.cell? ⟨b, o + k * 3 + 2, none⟩ = some (.bool (mfr cs k)) ∧ Ints wr la (mls cs k) := by
  obtain ⟨b, o, ha, hb, hc⟩ := h.cells hB (show 0 < n * 3 by omega)
  obtain ⟨u0, d0, q0⟩ := hc (k * 3) (by omega)
  obtain ⟨u1, d1, q1⟩ := hc (k * 3 + 1) (by omega)
  obtain ⟨u2, d2, q2⟩ := hc (k * 3 + 2) (by omega)
  obtain ⟨x, hx⟩ := (hf.cell hk (c := 1) (by decide)).int
  obtain ⟨y, hy⟩ := (hf.cell hk (c := 2) (by decide)).bool
  obtain ⟨m, es, he, hes⟩ := (hf.cell hk (c := 0) (by decide)).list
  have hx : cs (k * 3 + 1) = .n x := hx
  have hy : cs (k * 3 + 2) = .t y := hy
  have he : cs (k * 3) = .l m 1 es := he
  rw [hx] at q1
  rw [hy] at q2
  rw [he] at q0
  obtain ⟨la, lc, ev, _⟩ := q0.slice
  subst ev
  have q1 : u1 = .int .i64 x := q1
  subst q1
  have q2 : u2 = .bool y := q2
  subst q2
  refine ⟨b, o, la, lc, ha, hb, by rw [d0]; unfold mln; rw [he]; rfl, by rw [Nat.add_assoc, d1]; unfold mco; rw [hx]; rfl, by rw [Nat.add_assoc, d2]; unfold mfr; rw [hy]; rfl, ?_⟩
  have hi := holds_ints q0 (fun i hi => (hes i hi).int)
  have e : mls cs k = intsOf es (m * 1) := by
    unfold mls mln
    rw [he, Nat.mul_one]; rfl
  rw [e]; exact hi
theorem spec_cell15 (a : Option Addr) (n cap : Nat) (ra : Option Addr) (rl rc : Nat) (on : Bool) (cs : Nat → Dv) (x : Int) (c : Bool) (W : World) (hf : Hid (Fits shCellS (.l n 3 cs))) (hn : n ≤ 1048576) (h : Hid (Holds W c (.l n 3 cs) (.slice a n cap))) :
    Calls Try.prog 38 #[.agg #[.slice a n cap, .slice ra rl rc, .bool on], .int .i64 x] W fun e W' => e = .returned (.bool (cellB (mfr cs) n x)) ∧ Below W.heap.size W W' := by
  obtain ⟨X, hX⟩ : ∃ X, Hid (W.alloc (.cells #[.slice a n cap, .slice ra rl rc, .bool on] 25) = X) := ⟨_, rfl⟩
  have HX : Hid (Below W.heap.size W X) := by show Below _ _ _; rw [← hX.out]; exact (Below.refl _ _).alloc (Nat.le_refl _) _
  have hR := row_of W #[.slice a n cap, .slice ra rl rc, .bool on] 25
  rw [hX.out] at hR
  have r0 : X.cell? ⟨W.heap.size, 0, none⟩ = some (.slice a n cap) := hR.cell (i := 0) (by simp)
  clear hR
  by_cases hx : x = -1
  · have HE : Hid (cellB (mfr cs) n x = true) := by show _ = _; unfold cellB; rw [decide_eq_true hx]; rfl
    rw [HE.out]
    subst hx
    go_enter Try.func38, Try.ntmps38
    go_wp2
    go_ret
    exact ⟨rfl, by rw [hX.out]; exact HX.out⟩
  have d0 : (x == -1) = false := by simpa using hx
  have d1 : decide (x = -1) = false := decide_eq_false hx
  by_cases h0 : 0 ≤ x
  rotate_left
  · have HE : Hid (cellB (mfr cs) n x = false) := by show _ = _; unfold cellB takB; rw [d1, decide_eq_false h0]; rfl
    rw [HE.out]
    have e0 : decide (x ≥ 0) = false := decide_eq_false h0
    have e1 : decide (0 ≤ x) = false := decide_eq_false h0
    go_enter Try.func38, Try.ntmps38
    go_wp2
    go_ret
    exact ⟨rfl, by rw [hX.out]; exact HX.out⟩
  have e0 : decide (x ≥ 0) = true := decide_eq_true h0
  have e1 : decide (0 ≤ x) = true := decide_eq_true h0
  by_cases h1 : x < (n : Int)
  rotate_left
  · have HE : Hid (cellB (mfr cs) n x = false) := by show _ = _; unfold cellB takB; rw [d1, e1, decide_eq_false h1]; rfl
    rw [HE.out]
    have e2 : decide (x < (n : Int)) = false := decide_eq_false h1
    go_enter Try.func38, Try.ntmps38
    go_wp2
    go_ret
    exact ⟨rfl, by rw [hX.out]; exact HX.out⟩
  have e2 : decide (x < (n : Int)) = true := decide_eq_true h1
  obtain ⟨k, rfl⟩ : ∃ k : Nat, x = (k : Int) := ⟨x.toNat, by omega⟩
  have hk : k < n := by omega
  obtain ⟨b, o, la, lc, ha, hb, c0, c1, c2, -⟩ := mcell_at h.out hf.out HX.out hk
  subst ha
  have hbX : b < X.heap.size := by have := HX.out.size; omega
  have HE : Hid (cellB (mfr cs) n (k : Int) = !(mfr cs k)) := by show _ = _; unfold cellB takB; rw [d1, e1, e2, Int.toNat_natCast]; simp
  rw [HE.out]
  generalize mln cs k = L at c0
  generalize mco cs k = y at c1
  generalize mfr cs k = z at c2 ⊢
  clear HE
  go_enter Try.func38, Try.ntmps38
  go_upto_region 1 with fail
  rw [hX.out]
  go_wp2
  go_ret
  exact ⟨rfl, HX.out⟩
theorem spec_color15 (a : Option Addr) (n cap : Nat) (ra : Option Addr) (rl rc : Nat) (on : Bool) (cs : Nat → Dv) (x : Int) (c : Bool) (W : World) (hf : Hid (Fits shCellS (.l n 3 cs))) (hn : n ≤ 1048576) (h : Hid (Holds W c (.l n 3 cs) (.slice a n cap))) (hx : x < 0 ∨ ∃ k : Nat, x = (k : Int) ∧ k < n) :
    Calls Try.prog 39 #[.agg #[.slice a n cap, .slice ra rl rc, .bool on], .int .i64 x] W fun e W' => e = .returned (.int .i64 (colC (mco cs) x)) ∧ Below W.heap.size W W' := by
  obtain ⟨X, hX⟩ : ∃ X, Hid (W.alloc (.cells #[.slice a n cap, .slice ra rl rc, .bool on] 25) = X) := ⟨_, rfl⟩
  have HX : Hid (Below W.heap.size W X) := by show Below _ _ _; rw [← hX.out]; exact (Below.refl _ _).alloc (Nat.le_refl _) _
  have hR := row_of W #[.slice a n cap, .slice ra rl rc, .bool on] 25
  rw [hX.out] at hR
  have r0 : X.cell? ⟨W.heap.size, 0, none⟩ = some (.slice a n cap) := hR.cell (i := 0) (by simp)
  clear hR
  by_cases h0 : x < 0
  · have HE : Hid (colC (mco cs) x = 1) := by show _ = _; unfold colC; rw [if_pos h0]
    rw [HE.out]
    have e0 : decide (x < 0) = true := decide_eq_true h0
    clear hx
    go_enter Try.func39, Try.ntmps39
    go_wp2
    go_ret
    exact ⟨rfl, by rw [hX.out]; exact HX.out⟩
  obtain ⟨k, rfl, hk⟩ := hx.resolve_left h0
  clear hx
  have e0 : decide ((k : Int) < 0) = false := decide_eq_false h0
  obtain ⟨b, o, la, lc, ha, hb, c0, c1, c2, -⟩ := mcell_at h.out hf.out HX.out hk
  subst ha
  have hbX : b < X.heap.size := by have := HX.out.size; omega
  have HE : Hid (colC (mco cs) (k : Int) = mco cs k) := by show _ = _; unfold colC; rw [if_neg h0, Int.toNat_natCast]
  rw [HE.out]
  generalize mln cs k = L at c0
  generalize mco cs k = y at c1 ⊢
  generalize mfr cs k = z at c2
  have k0 : (0 : Int) ≤ (k : Int) := by omega
  have k1 : (k : Int) < (n : Int) := by omega
  clear HE
  go_enter Try.func39, Try.ntmps39
  go_upto_region 1 with fail
  rw [hX.out]
  go_wp2
  go_ret
  exact ⟨rfl, HX.out⟩
end Go.Proofs.Ytokaibpkajloeaa.walks
