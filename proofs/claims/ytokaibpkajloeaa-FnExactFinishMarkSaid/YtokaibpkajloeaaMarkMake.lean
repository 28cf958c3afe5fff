/-
  What the program's markRunOf makes of a marker.
-/
import Derived.Test.YtokaibpkajloeaaProg
import Derived.Test.YtokaibpkajloeaaInts
import Derived.Test.YtokaibpkajloeaaOwnInts
import Derived.Test.YtokaibpkajloeaaDeep
import Derived.Test.YtokaibpkajloeaaDeepRow
import Derived.Test.YtokaibpkajloeaaDeepM
import Derived.Test.YtokaibpkajloeaaDeepGrow
import Derived.Test.YtokaibpkajloeaaOwnMath
import Derived.Test.YtokaibpkajloeaaMarkMath
import Derived.Test.YtokaibpkajloeaaMarkWell
import Derived.Test.YtokaibpkajloeaaMarkSpec
import Derived.Test.YtokaibpkajloeaaMarkRun
import Derived.Test.YtokaibpkajloeaaMarkOut
import Derived.Test.YtokaibpkajloeaaNewRun
import Derived.Test.YtokaibpkajloeaaMarkAsk
import Derived.Test.YtokaibpkajloeaaMarkAsk2
import Derived.WalkKit
import Derived.WalkSpells
import Derived.Below
import Derived.Handy
import Derived.OwnWalk
import Derived.Maps.AppendAt
import Derived.Deep.OwnRows
import Derived.Deep.RegionLaw
import Derived.Deep.DeepFit
import Derived.Deep.DeepCutAuto
namespace Go.Proofs.Ytokaibpkajloeaa.walks
open Go.RowKit Go.Proofs.Ytokaibpkajloeaa.math Go.Proofs.Ytokaibpkajloeaa.ints Go.Proofs.Ytokaibpkajloeaa.deep
set_option linter.unusedVariables false
set_option linter.unusedSimpArgs false
set_option maxRecDepth 100000

/-- Good is: sizes, ends that lead well, colors. -/
theorem mark_eq {cs : Nat → Dv} {n : Nat} {rs : List Int} {on : Bool} (h0 : 2 ≤ n ∧ n ≤ 10) (h1 : rs.length = 2) (h2 : ∀ k, k < n → mln cs k = 2) : markB cs n rs on = (decide (LeadsW (stM cs rs on) n) && decide (ColorW (stM cs rs on) n)) := by
  have wc : ∀ x, cellB (mfr cs) n x = true → (whiteB (stM cs rs on) x = false ↔ colC (mco cs) x ≠ 0) := fun x hx => by
    rcases cellB_out hx with q | ⟨k, q, hk, _⟩
    · subst q
      unfold whiteB colC
      simp
    · subst q
      unfold whiteB colC
      rw [if_neg (by omega), decide_eq_true (show (k : Int) ≠ -1 by omega), Bool.true_and, Int.toNat_natCast]
      show decide (mco cs k = 0) = false ↔ mco cs k ≠ 0
      rw [decide_eq_false_iff_not]
  have both : ∀ a b : Bool, (a || b) = false ↔ a = false ∧ b = false := fun a b => by cases a <;> cases b <;> simp
  by_cases hm : MarkOk cs n rs on
  · rw [mark_yes hm]
    obtain ⟨_, _, _, q1, q2⟩ := hm
    have hl : LeadsW (stM cs rs on) n := by
      refine ⟨?_, fun k hk => ⟨fun q => ?_, ?_⟩⟩
      · unfold leadB
        rw [(q2 0 (by decide)).1, (q2 1 (by decide)).1]; rfl
      · exact ⟨((q1 k hk).2.2 0 (by decide)).2.1 q, ((q1 k hk).2.2 1 (by decide)).2.1 q⟩
      · unfold leadB
        rw [((q1 k hk).2.2 0 (by decide)).1, ((q1 k hk).2.2 1 (by decide)).1]; rfl
    have hc : ColorW (stM cs rs on) n := by
      refine ⟨fun k hk => ⟨(q1 k hk).1, fun q => ?_⟩, fun hon => ⟨?_, fun k hk q => ?_⟩⟩
      · constructor
        · cases r : (stM cs rs on).on
          · exact absurd ((q1 k hk).2.1 (Or.inr r)) q
          · rfl
        · cases r : (stM cs rs on).fr k
          · rfl
          · exact absurd ((q1 k hk).2.1 (Or.inl r)) q
      · rw [both]
        exact ⟨(wc _ (q2 0 (by decide)).1).2 ((q2 0 (by decide)).2 hon), (wc _ (q2 1 (by decide)).1).2 ((q2 1 (by decide)).2 hon)⟩
      · rw [both]
        exact ⟨(wc _ ((q1 k hk).2.2 0 (by decide)).1).2 (((q1 k hk).2.2 0 (by decide)).2.2 q), (wc _ ((q1 k hk).2.2 1 (by decide)).1).2 (((q1 k hk).2.2 1 (by decide)).2.2 q)⟩
    rw [decide_eq_true hl, decide_eq_true hc]; rfl
  · rw [mark_no hm]
    by_cases hl : LeadsW (stM cs rs on) n
    · rw [decide_eq_true hl, Bool.true_and]
      refine (decide_eq_false (fun hc => hm ?_)).symm
      have l2 : ∀ {f : Nat → Int}, leadB (stM cs rs on) n f = true → ∀ j, j < 2 → cellB (mfr cs) n (f j) = true := fun {f} q j hj => by
        unfold leadB at q
        rw [Bool.and_eq_true] at q
        rcases (show j = 0 ∨ j = 1 by omega) with e | e <;> subst e
        · exact q.1
        · exact q.2
      refine ⟨h1, h2, h0, fun k hk => ⟨(hc.1 k hk).1, fun q => ?_, fun j hj => ⟨l2 (hl.2 k hk).2 j hj, fun q => ?_, fun q => ?_⟩⟩, fun j hj => ⟨l2 hl.1 j hj, fun q => ?_⟩⟩
      · by_cases r : (stM cs rs on).co k = 0
        · exact r
        · have w := (hc.1 k hk).2 r
          rcases q with q | q
          · rw [w.2] at q; cases q
          · rw [w.1] at q; cases q
      · have w := (hl.2 k hk).1 q
        rcases (show j = 0 ∨ j = 1 by omega) with e | e <;> subst e
        · exact w.1
        · exact w.2
      · have on1 := ((hc.1 k hk).2 (by rw [q]; decide)).1
        have w := (both _ _).1 ((hc.2 on1).2 k hk q)
        rcases (show j = 0 ∨ j = 1 by omega) with e | e <;> subst e
        · exact (wc _ (l2 (hl.2 k hk).2 0 (by decide))).1 w.1
        · exact (wc _ (l2 (hl.2 k hk).2 1 (by decide))).1 w.2
      · have w := (both _ _).1 (hc.2 q).1
        rcases (show j = 0 ∨ j = 1 by omega) with e | e <;> subst e
        · exact (wc _ (l2 hl.1 0 (by decide))).1 w.1
        · exact (wc _ (l2 hl.1 1 (by decide))).1 w.2
    · rw [decide_eq_false hl]; rfl
theorem impl_ends_no (a : Option Addr) (len cap : Nat) (W : World) (hl : len ≠ 2) (hx : len ≤ 1048576) :
    Calls Try.prog 62 #[.slice a len cap] W fun e W' => e = .returned (.tuple #[.agg #[.int .i64 0, .int .i64 0], .bool false]) ∧ Below W.heap.size W W' := by
  have lI : (len : Int) ≠ 2 := by omega
  have d3 : ((len : Int) == 2) = false := by simpa using lI
  have d4 : ((len : Int) != 2) = true := by simpa using lI
  have d6 : (len == 2) = false := by simpa using hl
  have HA : Hid (∀ o, Below W.heap.size W (W.alloc o)) := fun o => (Below.refl _ _).alloc (Nat.le_refl _) _
  go_enter Try.func62, Try.ntmps62
  go_wp2
  exact bodyPost_ret (v := .tuple #[.agg #[.int .i64 0, .int .i64 0], .bool false]) (by simp only [results, Try.results62]; go_simp) rfl ⟨rfl, HA.out _⟩
theorem impl_ends_yes (a : Option Addr) (cap : Nat) (zs : List Int) (W : World) (hz : Hid (zs.length = 2)) (h : Hid (Ints W a zs)) :
    Calls Try.prog 62 #[.slice a 2 cap] W fun e W' => e = .returned (.tuple #[.agg #[.int .i64 (zs.getD 0 0), .int .i64 (zs.getD 1 0)], .bool true]) ∧ Below W.heap.size W W' := by
  obtain ⟨b, o, ha, c0⟩ := h.out.at (Below.refl _ _) (k := 0) (by rw [hz.out]; decide)
  obtain ⟨b2, o2, ha2, c1⟩ := h.out.at (Below.refl _ _) (k := 1) (by rw [hz.out]; decide)
  subst ha
  simp only [Option.some.injEq, Addr.mk.injEq, and_true] at ha2
  obtain ⟨rfl, rfl⟩ := ha2
  have hb : b < W.heap.size := World.block_lt_of_cell? W _ c0
  rw [Nat.add_zero] at c0
  generalize zs.getD 0 0 = x0 at c0 ⊢
  generalize zs.getD 1 0 = x1 at c1 ⊢
  have HA : Hid (∀ o, Below W.heap.size W (W.alloc o)) := fun o => (Below.refl _ _).alloc (Nat.le_refl _) _
  have harr : ∀ w : World, (Instr.arrayAt 72 (.slice (some ⟨b, o, none⟩) 2 cap)).run Try.prog w = .ok (.pointer (some ⟨b, o, none⟩)) w := fun _ => by kernel_rfl
  go_enter Try.func62, Try.ntmps62
  go_wp2
  exact bodyPost_ret (v := .tuple #[.agg #[.int .i64 x0, .int .i64 x1], .bool true]) (by simp only [results, Try.results62]; go_simp) rfl ⟨rfl, HA.out _⟩
end Go.Proofs.Ytokaibpkajloeaa.walks
