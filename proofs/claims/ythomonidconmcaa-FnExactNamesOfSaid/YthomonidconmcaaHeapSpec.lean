/-
  What the specification's l14At, l14Link, l14Young, GoodHeap answer.
-/
import Derived.Test.YthomonidconmcaaProg
import Derived.Test.YthomonidconmcaaHeapMath
import Derived.Test.YthomonidconmcaaHasIn
import Derived.Test.YthomonidconmcaaInts
import Derived.Test.YthomonidconmcaaDeep
import Derived.Test.YthomonidconmcaaDeepRow
import Derived.Test.YthomonidconmcaaDeepH
import Derived.WalkKit
import Derived.WalkSpells
import Derived.Below
import Derived.Handy
import Derived.Deep.DeepFit
namespace Go.Proofs.Ythomonidconmcaa.walks
open Go.RowKit Go.Proofs.Ythomonidconmcaa.math Go.Proofs.Ythomonidconmcaa.ints Go.Proofs.Ythomonidconmcaa.deep
set_option linter.unusedVariables false
set_option maxRecDepth 100000

/-- One object of a heap, in a world that has only grown. -/
theorem obj_at {W wr : World} {c : Bool} {a : Option Addr} {n cap k : Nat} {cs : Nat → Dv} (h : Holds W c (.l n 3 cs) (.slice a n cap)) (hf : Fits shObjectS (.l n 3 cs)) (hB : Below W.heap.size W wr) (hk : k < n) : ∃ b o la lc, a = some ⟨b, o, none⟩ ∧ b < W.heap.size ∧ wr.cell? ⟨b, o + k * 3, none⟩ = some (.int .i64 (hnm cs k)) ∧ wr.cell? ⟨b, o + k * 3 + 1, none⟩ = some (.bool (hod cs k)) ∧ wr.cell? ⟨b, o + k * 3 + 2, none⟩ = some (.slice la (hnl cs k) lc) ∧ Ints wr la (hls cs k) := by
  obtain ⟨b, o, ha, hb, hc⟩ := h.cells hB (show 0 < n * 3 by omega)
  obtain ⟨u0, d0, q0⟩ := hc (k * 3) (by omega)
  obtain ⟨u1, d1, q1⟩ := hc (k * 3 + 1) (by omega)
  obtain ⟨u2, d2, q2⟩ := hc (k * 3 + 2) (by omega)
  obtain ⟨x, hx⟩ := (hf.cell hk (c := 0) (by decide)).int
  obtain ⟨y, hy⟩ := (hf.cell hk (c := 1) (by decide)).bool
  obtain ⟨m, es, he, hes⟩ := (hf.cell hk (c := 2) (by decide)).list
  have hx : cs (k * 3) = .n x := hx
  have hy : cs (k * 3 + 1) = .t y := hy
  have he : cs (k * 3 + 2) = .l m 1 es := he
  rw [hx] at q0
  rw [hy] at q1
  rw [he] at q2
  obtain ⟨la, lc, ev, _⟩ := q2.slice
  subst ev
  have q0 : u0 = .int .i64 x := q0
  subst q0
  have q1 : u1 = .bool y := q1
  subst q1
  refine ⟨b, o, la, lc, ha, hb, by rw [d0]; unfold hnm; rw [hx]; rfl, by rw [Nat.add_assoc, d1]; unfold hod; rw [hy]; rfl, by rw [Nat.add_assoc, d2]; unfold hnl; rw [he]; rfl, ?_⟩
  have hi := holds_ints q2 (fun i hi => (hes i hi).int)
  have e : hls cs k = intsOf es (m * 1) := by
    unfold hls hnl
    rw [he, Nat.mul_one]; rfl
  rw [e]; exact hi
set_option maxHeartbeats 4000000 in
theorem spec_at14 (a : Option Addr) (n cap : Nat) (ra : Option Addr) (rl rc : Nat) (na : Option Addr) (nl nc : Nat) (nx : Int) (cs : Nat → Dv) (x : Int) (c : Bool) (W : World) (hf : Hid (Fits shObjectS (.l n 3 cs))) (hn : n ≤ 1048576) (h : Hid (Holds W c (.l n 3 cs) (.slice a n cap))) :
    Calls Try.prog 31 #[.agg #[.slice a n cap, .slice ra rl rc, .slice na nl nc, .int .i64 nx], .int .i64 x] W fun e W' => e = .returned (.int .i64 (posH cs x n)) ∧ Below W.heap.size W W' := by
  obtain ⟨R, HP⟩ : ∃ R, Hid (posH cs x n = R) := ⟨_, rfl⟩
  rw [HP.out]
  go_enter Try.func31, Try.ntmps31
  go_wp2
  go_loopw [10] (fun vi wr => ∃ k : Nat, k ≤ n ∧ vi = .int .i64 k ∧ Hid (∀ j, j < k → hnm cs j ≠ x) ∧ Hid (wr.rowIs W.heap.size 30 4 (rowF [.slice a n cap, .slice ra rl rc, .slice na nl nc, .int .i64 nx])) ∧ Hid (Below W.heap.size W wr)) (fun vi _ => n - (intOf vi).toNat)
  case atStart => exact ⟨0, Nat.zero_le _, rfl, fun j hj => by omega, row_of W #[.slice a n cap, .slice ra rl rc, .slice na nl nc, .int .i64 nx] _, by show Below _ _ _; go_grown⟩
  case round =>
    obtain ⟨k, hk, rfl, HG, HR, HB⟩ := hrel
    have rl0 := HR.out.lt
    by_cases hlt : k < n
    rotate_left
    · have HE : Hid (R = -1) := by show _ = _; rw [← HP.out]; exact pos_no (fun j hj => HG.out j (by omega))
      go_wp2
      go_ret
      exact ⟨by rw [HE.out]; rfl, HB.out⟩
    have hltI : (k : Int) < (n : Int) := by omega
    obtain ⟨b, o, la, lc, ha, hb, c0, c1, c2, _⟩ := obj_at h.out hf.out HB.out hlt
    subst ha
    have hbw : b < wr.heap.size := by have := HB.out.size; omega
    have HYES : Hid (hnm cs k = x → R = (k : Int)) := fun q => by rw [← HP.out]; exact pos_at hlt q HG.out
    have HGN : Hid (hnm cs k ≠ x → ∀ j, j < k + 1 → hnm cs j ≠ x) := fun q j hj => by
      by_cases e : j = k
      · subst e; exact q
      · exact HG.out j (by omega)
    generalize hnm cs k = y at c0 HYES HGN
    generalize hod cs k = z at c1
    generalize hnl cs k = L at c2
    obtain ⟨X, hX⟩ : ∃ X, Hid (wr.alloc (.cells #[.int .i64 y, .bool z, .slice la L lc] 45) = X) := ⟨_, rfl⟩
    have HX : Hid (Below wr.heap.size wr X) := by show Below _ _ _; rw [← hX.out]; repeat (first | exact Below.refl _ _ | refine Below.drew ?_ | refine Below.setCell ?_ (by simp; try omega) _ | refine Below.alloc ?_ (by simp; try omega) _)
    have HXB : Hid (Below W.heap.size W X) := HB.out.trans (HX.out.mono HB.out.size)
    have HRX : Hid (X.rowIs W.heap.size 30 4 (rowF [.slice (some ⟨b, o, none⟩) n cap, .slice ra rl rc, .slice na nl nc, .int .i64 nx])) := HR.out.of_block (HX.out.block _ rl0)
    by_cases hy : y = x
    · have HE : Hid (R = (k : Int)) := HYES.out hy
      subst hy
      go_wp2
      go_ret
      exact ⟨by rw [HE.out]; rfl, by rw [hX.out]; exact HXB.out⟩
    · have HG2 : Hid (∀ j, j < k + 1 → hnm cs j ≠ x) := HGN.out hy
      have d0 : (y == x) = false := by simpa using hy
      have d1 : decide (y = x) = false := decide_eq_false hy
      clear HYES HGN
      go_wp2
      rw [hX.out]
      go_roundw
      case rel => exact ⟨k + 1, by omega, by go_num, HG2, HRX, HXB⟩
      case measure => simp [intOf]; omega
theorem spec_link14 (a : Option Addr) (n cap : Nat) (ra : Option Addr) (rl rc : Nat) (na : Option Addr) (nl nc : Nat) (nx : Int) (cs : Nat → Dv) (x : Int) (c : Bool) (W : World) (hf : Hid (Fits shObjectS (.l n 3 cs))) (hn : n ≤ 1048576) (h : Hid (Holds W c (.l n 3 cs) (.slice a n cap))) :
    Calls Try.prog 28 #[.agg #[.slice a n cap, .slice ra rl rc, .slice na nl nc, .int .i64 nx], .int .i64 x] W fun e W' => e = .returned (.bool (linkB cs n x)) ∧ Below W.heap.size W W' := by
  obtain ⟨X, hX⟩ : ∃ X, Hid (W.alloc (.cells #[.slice a n cap, .slice ra rl rc, .slice na nl nc, .int .i64 nx] 30) = X) := ⟨_, rfl⟩
  have HX : Hid (Below W.heap.size W X) := by show Below _ _ _; rw [← hX.out]; repeat (first | exact Below.refl _ _ | refine Below.drew ?_ | refine Below.setCell ?_ (by simp; try omega) _ | refine Below.alloc ?_ (by simp; try omega) _)
  have hR := row_of W #[.slice a n cap, .slice ra rl rc, .slice na nl nc, .int .i64 nx] 30
  rw [hX.out] at hR
  have r0 : X.cell? ⟨W.heap.size, 0, none⟩ = some (.slice a n cap) := hR.cell (i := 0) (by simp)
  have r1 : X.cell? ⟨W.heap.size, 1, none⟩ = some (.slice ra rl rc) := hR.cell (i := 1) (by simp)
  have r2 : X.cell? ⟨W.heap.size, 2, none⟩ = some (.slice na nl nc) := hR.cell (i := 2) (by simp)
  have r3 : X.cell? ⟨W.heap.size, 3, none⟩ = some (.int .i64 nx) := hR.cell (i := 3) (by simp)
  clear hR
  by_cases hx : x = -1
  · have HE : Hid (linkB cs n x = true) := link_out.2 (Or.inl hx)
    have d0 : decide (x = -1) = true := decide_eq_true hx
    rw [HE.out]
    subst hx
    go_enter Try.func28, Try.ntmps28
    go_wp2
    go_ret
    exact ⟨rfl, by rw [hX.out]; exact HX.out⟩
  · have HE : Hid (linkB cs n x = decide (0 ≤ posH cs x n)) := by show _ = _; unfold linkB; rw [decide_eq_false hx, Bool.false_or]
    have d0 : decide (x = -1) = false := decide_eq_false hx
    have d1 : (x == -1) = false := by simpa using hx
    rw [HE.out]
    clear HE
    go_enter Try.func28, Try.ntmps28
    have hat := spec_at14 a n cap ra rl rc na nl nc nx cs x c X hf hn (h.out.kept HX.out)
    generalize posH cs x n = p at hat ⊢
    go_wp2_with fail
    rw [hX.out]
    refine hat.mono ?_
    rintro e w1 ⟨rfl, hB⟩
    have B1 : Hid (Below W.heap.size W w1) := HX.out.trans (hB.mono HX.out.size)
    clear hB r0 r1 r2 r3
    go_wp2
    go_ret
    exact ⟨rfl, B1.out⟩
set_option maxHeartbeats 2000000 in
theorem spec_young14 (a : Option Addr) (n cap : Nat) (ra : Option Addr) (rl rc : Nat) (na : Option Addr) (nl nc : Nat) (nx : Int) (cs : Nat → Dv) (x : Int) (c : Bool) (W : World) (hf : Hid (Fits shObjectS (.l n 3 cs))) (hn : n ≤ 1048576) (h : Hid (Holds W c (.l n 3 cs) (.slice a n cap))) :
    Calls Try.prog 29 #[.agg #[.slice a n cap, .slice ra rl rc, .slice na nl nc, .int .i64 nx], .int .i64 x] W fun e W' => e = .returned (.bool (youngB cs n x)) ∧ Below W.heap.size W W' := by
  obtain ⟨X, hX⟩ : ∃ X, Hid (W.alloc (.cells #[.slice a n cap, .slice ra rl rc, .slice na nl nc, .int .i64 nx] 30) = X) := ⟨_, rfl⟩
  have HX : Hid (Below W.heap.size W X) := by show Below _ _ _; rw [← hX.out]; repeat (first | exact Below.refl _ _ | refine Below.drew ?_ | refine Below.setCell ?_ (by simp; try omega) _ | refine Below.alloc ?_ (by simp; try omega) _)
  have hR := row_of W #[.slice a n cap, .slice ra rl rc, .slice na nl nc, .int .i64 nx] 30
  rw [hX.out] at hR
  have HR : Hid (X.rowIs W.heap.size 30 4 (rowF [.slice a n cap, .slice ra rl rc, .slice na nl nc, .int .i64 nx])) := hR
  have r0 : X.cell? ⟨W.heap.size, 0, none⟩ = some (.slice a n cap) := hR.cell (i := 0) (by simp)
  have r1 : X.cell? ⟨W.heap.size, 1, none⟩ = some (.slice ra rl rc) := hR.cell (i := 1) (by simp)
  have r2 : X.cell? ⟨W.heap.size, 2, none⟩ = some (.slice na nl nc) := hR.cell (i := 2) (by simp)
  have r3 : X.cell? ⟨W.heap.size, 3, none⟩ = some (.int .i64 nx) := hR.cell (i := 3) (by simp)
  clear hR
  have hat := spec_at14 a n cap ra rl rc na nl nc nx cs x c X hf hn (h.out.kept HX.out)
  rcases pos_in cs x n with ⟨ep, _⟩ | ⟨k, ep, hk, _⟩
  · have HE : Hid (youngB cs n x = false) := by show _ = _; unfold youngB; rw [ep]; rfl
    rw [HE.out]
    rw [ep] at hat
    clear ep
    go_enter Try.func29, Try.ntmps29
    go_wp2_with fail
    rw [hX.out]
    refine hat.mono ?_
    rintro e w1 ⟨rfl, hB⟩
    have B1 : Hid (Below W.heap.size W w1) := HX.out.trans (hB.mono HX.out.size)
    clear hB r0 r1 r2 r3 hat
    go_wp2
    go_ret
    exact ⟨rfl, B1.out⟩
  · have HE : Hid (youngB cs n x = !(hod cs k)) := by show _ = _; unfold youngB; rw [ep, Int.toNat_natCast]; simp
    obtain ⟨z, hzo⟩ : ∃ z, Hid (hod cs k = z) := ⟨_, rfl⟩
    rw [HE.out, hzo.out]
    rw [ep] at hat
    clear ep HE
    go_enter Try.func29, Try.ntmps29
    go_wp2_with fail
    rw [hX.out]
    refine hat.mono ?_
    rintro e w1 ⟨rfl, hB⟩
    have B1 : Hid (Below W.heap.size W w1) := HX.out.trans (hB.mono HX.out.size)
    have R1 : Hid (w1.rowIs W.heap.size 30 4 (rowF [.slice a n cap, .slice ra rl rc, .slice na nl nc, .int .i64 nx])) := HR.out.of_block (hB.block _ HR.out.lt)
    clear hB r0 r1 r2 r3 hat
    have hkI : (k : Int) < (n : Int) := by omega
    have hk0 : (0 : Int) ≤ (k : Int) := by omega
    have d0 : decide ((k : Int) ≥ 0) = true := decide_eq_true hk0
    obtain ⟨b, o, la, lc, ha, hb, c0, c1, c2, _⟩ := obj_at h.out hf.out B1.out hk
    subst ha
    have r0 : w1.cell? ⟨W.heap.size, 0, none⟩ = some (.slice (some ⟨b, o, none⟩) n cap) := R1.out.cell (i := 0) (by decide)
    rw [hzo.out] at c1
    clear c0 c2
    go_wp2
    go_ret
    exact ⟨rfl, B1.out⟩
end Go.Proofs.Ythomonidconmcaa.walks
