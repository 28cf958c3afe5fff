/-
  Of every list of kinds: the program tells whether it is a tree as the specification does, and writes into nothing that was there.
-/
import Derived.Test.YtfagokboeeimjaaRows
import Derived.WalkKit
import Derived.ProofKit
import Derived.OpenShut
import Derived.ShutString
import Derived.ChangeOld
import Derived.Below
import Derived.Carry
import Derived.SizedLaws
import Derived.Test.YtfagokboeeimjaaMagMath
import Derived.Test.YtfagokboeeimjaaTreeMath
import Derived.Test.YtfagokboeeimjaaTreeBase
import Derived.Test.YtfagokboeeimjaaTreeSpec
import Derived.Test.YtfagokboeeimjaaInts
import Derived.Test.YtfagokboeeimjaaSizes
import Derived.Test.YtfagokboeeimjaaTreeImpl
namespace Go.Proofs.Ytfagokboeeimjaa.fnExactGoodTree
open Go.ChangeShapes Go.WideShapes Go.ChangeAt Go.RowKit
open Go.ChangeMaps (open_string shut_string)
open Go.Proofs.Ytfagokboeeimjaa.math
open Go.Proofs.Ytfagokboeeimjaa.walks
open Go.Proofs.Ytfagokboeeimjaa.ints
set_option linter.unusedVariables false

theorem own : ownKnob Try.prog.godebug = none := by kernel_rfl
theorem laidOut : laidOutB Try.prog = true := by kernel_rfl

/-- What is known of a slice of integers that came in: it is nil, or leads to a row of cells, the numbers zs, each fitting its kind. -/
def IsRow (k : IntKind) (w : World) (a : Option Addr) (len cap : Nat) (zs : List Int) : Prop :=
  (a = none ∧ len = 0 ∧ cap = 0 ∧ zs = []) ∨
  ∃ x, a = some x ∧ len ≤ cap ∧ cap ≤ maxLen ∧ zs.length = cap ∧ (∀ i, i < zs.length → w.cell? (x.add i) = some (.int k (zs.getD i 0))) ∧ ∀ n ∈ zs, (Lit.int k n).wf = true

theorem row_ints {W : World} {a : Option Addr} {len cap : Nat} {z : List Int} (h : IsRow .i64 W a len cap z) : ∃ zs : List Int, zs.length = len ∧ Ints W a zs := by
  rcases h with ⟨rfl, rfl, rfl, rfl⟩ | ⟨x, rfl, hl, hm, hz, hc, _⟩
  · exact ⟨[], rfl, Or.inl rfl⟩
  · refine ⟨z.take len, by rw [List.length_take]; omega, ?_⟩
    by_cases h0 : len = 0
    · subst h0; exact Or.inl (by simp)
    · obtain ⟨b, off, spot⟩ := x
      have c0 := hc 0 (by omega)
      have hs : spot = none := by simpa [Addr.add] using World.cell?_spot c0
      subst hs
      have ha : ∀ i, (⟨b, off, none⟩ : Addr).add i = ⟨b, off + i, none⟩ := fun i => by
        unfold Addr.add
        split
        · rename_i h; subst h; rfl
        · rfl
      have hb : b < W.heap.size := by simpa [Addr.add] using World.block_lt_of_cell? W _ c0
      refine Or.inr ⟨b, off, rfl, hb, fun i hi => ?_⟩
      rw [List.length_take] at hi
      rw [← ha, hc i (by omega)]
      simp [List.getD, show i < len by omega]
theorem new_below {w : World} {B : Nat} {zs : List Int} (h : Mine w B (some ⟨B, 0, none⟩) zs) (len : Nat) (hz : zs.length = len) : ∀ b o, (some ⟨B, 0, none⟩ : Option Addr) = some ⟨b, o, none⟩ → 0 < len → b < w.heap.size := by
  intro b o e h0
  rcases h with h | ⟨b', o', e', _, hl, _⟩
  · rw [h] at hz; simp at hz; omega
  · rw [e] at e'
    simp only [Option.some.injEq, Addr.mk.injEq] at e'
    omega
set_option maxHeartbeats 4000000 in
theorem walk_of (a0 : Option Addr) (len0 cap0 : Nat) (z0 : List Int) (w : World) (hz : Hid (z0.length = len0)) (hlen : len0 ≤ 1048576) (h : Hid (Ints w a0 z0)) :
    Calls Try.prog 3 #[.slice a0 len0 cap0] w fun e w' => e = .returned (.bool true) ∧ Below w.heap.size w w' := by
  have hl1 : (len0 : Int) ≤ 1048576 := by omega
  obtain ⟨c, HC⟩ : ∃ c, Hid (treeB z0 = c) := ⟨_, rfl⟩
  go_enter Try.func3, Try.ntmps3
  go_wp2_with fail
  refine (to_ints _ _ _ z0 _ hz hlen h).mono ?_
  rintro e w1 ⟨rfl, hM1, hB1⟩
  have M1 : Hid (Mine w1 w.heap.size (some ⟨w.heap.size, 0, none⟩) z0) := hM1
  have B1 : Hid (Below w.heap.size w w1) := hB1
  clear hM1 hB1
  go_wp2_with fail
  refine (spec_tree _ _ _ z0 _ hz hlen M1.out.ints).mono ?_
  rw [HC.out]
  rintro e w2 ⟨rfl, hB2⟩
  have B2 : Hid (Below w.heap.size w w2) := by rw [hB2]; exact B1.out
  clear hB2
  go_wp2_with fail
  refine (to_ints _ _ _ z0 _ hz hlen (h.out.kept B2.out)).mono ?_
  rintro e w3 ⟨rfl, hM3, hB3⟩
  have M3 : Hid (Mine w3 w2.heap.size (some ⟨w2.heap.size, 0, none⟩) z0) := hM3
  have B3 : Hid (Below w.heap.size w w3) := B2.out.trans (hB3.mono B2.out.size)
  clear hM3 hB3
  go_wp2_with fail
  refine (impl_tree _ _ _ z0 _ hz hlen M3.out.ints (new_below M3.out _ hz.out)).mono ?_
  rw [HC.out]
  rintro e w4 ⟨rfl, hB4⟩
  have M4 : Hid (Mine w4 w2.heap.size (some ⟨w2.heap.size, 0, none⟩) z0) := M3.out.kept hB4
  have B4 : Hid (Below w.heap.size w w4) := B3.out.trans (hB4.mono B3.out.size)
  clear hB4
  go_wp2_with fail
  refine (to_ints _ _ _ z0 _ hz hlen (h.out.kept B4.out)).mono ?_
  rintro e w5 ⟨rfl, hM5, hB5⟩
  have M5 : Hid (Mine w5 w4.heap.size (some ⟨w4.heap.size, 0, none⟩) z0) := hM5
  have M5b : Hid (Mine w5 w2.heap.size (some ⟨w2.heap.size, 0, none⟩) z0) := M4.out.kept hB5
  have B5 : Hid (Below w.heap.size w w5) := B4.out.trans (hB5.mono B4.out.size)
  clear hM5 hB5
  go_wp2_with fail
  refine (eq_ints _ _ _ _ _ z0 _ hz hlen M5b.out.ints M5.out.ints).mono ?_
  rintro e w6 ⟨rfl, hB6⟩
  have B6 : Hid (Below w.heap.size w w6) := B5.out.trans (hB6.mono B5.out.size)
  clear hB6
  go_wp2
  go_ret
  exact ⟨rfl, B6.out⟩
theorem walk (a0 : Option Addr) (len0 cap0 : Nat) (z0 : List Int) (w : World) (w0 : IsRow .i64 w a0 len0 cap0 z0) (b0 : len0 ≤ 140737488351232) :
    Calls Try.prog 3 #[.slice a0 len0 cap0] w fun e w' => e = .returned (.bool true) ∧ Below w.heap.size w w' := by
  by_cases h1 : len0 ≤ 1048576
  · obtain ⟨zs, hz, hi⟩ := row_ints w0
    exact walk_of a0 len0 cap0 zs w hz h1 hi
  · have hno : 1048576 < (len0 : Int) := by omega
    go_enter Try.func3, Try.ntmps3
    go_wp2
    go_ret
    exact ⟨rfl, Below.refl _ _⟩

set_option maxRecDepth 100000 in
theorem lifted (os : Os) (started : os.Started) (H : Type) (enc : TypeId × Value → H) :
    ReturnsInHanded {} Try.checked os 3 .any (Rows.fnExactGoodTreeSpec.pre6 enc Try.prog Try.f3 Rows.fnExactGoodTreeRow.domain false) (Rows.fnExactGoodTreeSpec.post enc Try.prog Try.f3 false true false false) := by
  refine returnsInHanded_of_change_sized (C := Try.checked) own started (by kernel_rfl) Try.func3
    (ChangeSpec.witness6 (enc := enc) (C := Try.checked) false ⟨#[], #[.slice none 0 0], []⟩ 8 (by kernel_rfl) (by kernel_rfl) (by kernel_rfl) (by kernel_rfl)) ?_
  intro W base args ds gs before hval0 hW hcnd hsz0 _
  have hval : ∀ (j : Nat) t v, Try.f3.params[j]? = some t → args[j]? = some v → Value.okWide Try.prog W .any base t v := hval0
  have hW' := hW
  obtain ⟨p, q, hA0, hV, rfl, hfz, hnd⟩ := hW
  have hsz : (DataW.weightsEach Try.prog (Try.f3.params.toList ++ Rows.fnExactGoodTreeSpec.plain.varTypes Try.prog) (ds ++ gs)).all (· ≤ reachBytes) = true := hsz0
  have hA : DataW.TrodAll enc Try.prog W 0 (fun _ => true) true Try.f3.params.toList args.toList ds p := hA0
  rw [Try.params3] at hA hval hsz
  obtain ⟨v0, vs0, d0, ds0, p0, q0, hargs, rfl, rfl, h0, r0⟩ := trodAll_cons hA
  obtain ⟨rfl, rfl, rfl⟩ := trodAll_nil r0
  obtain rfl : args = #[v0] := by cases args; simp_all
  obtain ⟨rfl, rfl⟩ := trodVars_none hV
  obtain ⟨a0, len0, cap0, rfl⟩ := okWide_slice Try.underlying22 (hval 0 22 v0 rfl rfl)
  have k0 := h0
  have lt0 : ∀ x ∈ p0, x.block < W.heap.size := by obtain ⟨m, hm⟩ := k0; exact DataW.trod_lt m _ _ _ hm
  obtain ⟨z0, w0, b0⟩ : ∃ zs, IsRow .i64 W a0 len0 cap0 zs ∧ len0 ≤ 140737488351232 := by
    obtain ⟨fuel, hf⟩ := h0
    rcases open_ints Try.underlying22 Try.underlying3 (by kernel_rfl) hf with ⟨hcs, _⟩ | ⟨x, l, c, zs, hcs, _, hl, hm, hz, hx, hcell, hwz⟩
    · simp [Value.cells] at hcs
      obtain ⟨rfl, rfl, rfl⟩ := hcs
      exact ⟨[], .inl ⟨rfl, rfl, rfl, rfl⟩, by omega⟩
    · simp [Value.cells] at hcs
      obtain ⟨rfl, rfl, rfl⟩ := hcs
      have hz' : zs.length = cap0 := by simpa using hz
      have hd : d0 = .slice (lits .i64 (zs.take len0)) (lits .i64 (zs.drop len0)) := congrArg Prod.fst hx
      have hs := sized_slice hsz (j := 0) (t := 22) (e := 3) rfl (by rw [hd]; rfl) Try.underlying22
      rw [show Try.prog.bytesOf 3 = 8 by kernel_rfl] at hs
      simp only [lits, List.length_map, List.length_take, List.length_drop, reachBytes] at hs
      exact ⟨zs, .inr ⟨_, rfl, hl, hm, hz', hcell, hwz⟩, by omega⟩
  clear hA0 hval0
  refine (walk a0 len0 cap0 z0 W w0 b0).mono fun e W' ⟨he, bel⟩ => ?_
  subst he
  exact ⟨_, rfl, _, _, _, [], _, [], hW', trodAll_mk1 (shut_bool Try.underlying4 _), (trodAll_cons_mk (Below.trod laidOut (by kernel_rfl) (of_decide_eq_true (by kernel_rfl)) k0 bel lt0) trodAll_mk0), rfl, bel.frame _, fun h => by cases h⟩

theorem over : Rows.fnExactGoodTreeRow.holds Try.pinned (OpenSpec.ofChange Rows.fnExactGoodTreeSpec) :=
  OpenClaim.holds_of_wide 3 Try.f3 rfl rfl rfl rfl rfl rfl rfl ⟨rfl, rfl, rfl, rfl, rfl⟩ rfl rfl rfl rfl rfl (by kernel_rfl) Try.func3 (by kernel_rfl)
    (of_decide_eq_true (by kernel_rfl)) (by unfold Func.isWrapper; first | (rw [if_pos (by decide +kernel)]; kernel_rfl) | (rw [if_neg (by decide +kernel)]; exact ⟨rfl, rfl⟩))
    (fun os started H enc _ => lifted os started H enc)

theorem proved : Rows.FnExactGoodTreeSaid :=
  over
#print axioms proved
end Go.Proofs.Ytfagokboeeimjaa.fnExactGoodTree
