/-
  At every argument GoodTree2 answers as the specification; it writes into no argument and keeps nothing of one.
-/
import Derived.Test.YtbjfhcbgghpdaaaRows
import Derived.WalkKit
import Derived.ProofKit
import Derived.OpenShut
import Derived.ShutString
import Derived.ChangeOld
import Derived.Below
import Derived.Carry
import Derived.SizedLaws
import Derived.Test.YtbjfhcbgghpdaaaMagMath
import Derived.Test.YtbjfhcbgghpdaaaInts
import Derived.Test.YtbjfhcbgghpdaaaDeep
import Derived.Test.YtbjfhcbgghpdaaaDeepOpen
import Derived.Test.YtbjfhcbgghpdaaaDeepRow
import Derived.Test.YtbjfhcbgghpdaaaDeepX
import Derived.Test.YtbjfhcbgghpdaaaDataX16
import Derived.Test.YtbjfhcbgghpdaaaLineMath
import Derived.Test.YtbjfhcbgghpdaaaLineStep
import Derived.Test.YtbjfhcbgghpdaaaTreeMath16
import Derived.Test.YtbjfhcbgghpdaaaDeepGrow
import Derived.Test.YtbjfhcbgghpdaaaOwnMath
import Derived.Test.YtbjfhcbgghpdaaaTreeMem16
import Derived.Test.YtbjfhcbgghpdaaaCellBase16
import Derived.Test.YtbjfhcbgghpdaaaReadSpec16
import Derived.Test.YtbjfhcbgghpdaaaTreeSpec16
import Derived.Test.YtbjfhcbgghpdaaaFromImpl16
import Derived.Test.YtbjfhcbgghpdaaaCodeTree16
namespace Go.Proofs.Ytbjfhcbgghpdaaa.fnExactGoodTree2
open Go.ChangeShapes Go.WideShapes Go.ChangeAt Go.RowKit
open Go.ChangeMaps (open_string shut_string)
open Go.Proofs.Ytbjfhcbgghpdaaa.math
open Go.Proofs.Ytbjfhcbgghpdaaa.ints
open Go.Proofs.Ytbjfhcbgghpdaaa.deep
open Go.Proofs.Ytbjfhcbgghpdaaa.walks
open Go.Proofs.Ytbjfhcbgghpdaaa.deep
set_option linter.unusedVariables false

theorem own : ownKnob Try.prog.godebug = none := by kernel_rfl
theorem laidOut : laidOutB Try.prog = true := by kernel_rfl

def SpecTells (l0 : Nat) (cs0 : Nat → Dv) (xr0 : Bool) : Prop := ∀ (W : World) (a0 : Option Addr) (cap0 : Nat), Holds W true (.l l0 2 cs0) (.slice a0 l0 cap0) → Calls Try.prog 8 #[.slice a0 l0 cap0] W fun e W' => e = .returned (.bool xr0) ∧ Below W.heap.size W W'
def ImplTells (l0 : Nat) (cs0 : Nat → Dv) (xr0 : Bool) : Prop := ∀ (W : World) (a0 : Option Addr) (cap0 : Nat), Holds W true (.l l0 2 cs0) (.slice a0 l0 cap0) → Calls Try.prog 10 #[.slice a0 l0 cap0] W fun e W' => e = .returned (.bool xr0) ∧ Below W.heap.size W W'
set_option maxHeartbeats 16000000 in
set_option maxRecDepth 100000 in
theorem walk_of (a0 : Option Addr) (cap0 : Nat) (l0 : Nat) (cs0 : Nat → Dv) (xr0 : Bool) (w : World) (hf0 : Hid (Fits shXCellS (.l l0 2 cs0))) (hn0 : Hid (Lens (.l l0 2 cs0))) (h0 : Hid (Holds w false (.l l0 2 cs0) (.slice a0 l0 cap0))) (Hs : Hid (szD (.l l0 2 cs0) ≤ 1048576 → SpecTells l0 cs0 xr0)) (Hi : Hid (szD (.l l0 2 cs0) ≤ 1048576 → ImplTells l0 cs0 xr0)) :
    Calls Try.prog 3 #[.slice a0 l0 cap0] w fun e w' => e = .returned (.bool true) ∧ Below w.heap.size w w' := by
  have pe0 : (xr0 != xr0) = false := by cases xr0 <;> rfl
  go_enter Try.func3, Try.ntmps3
  obtain ⟨z0, HZ0⟩ : ∃ z, Hid (szD (.l l0 2 cs0) = z) := ⟨_, rfl⟩
  go_wp2_with fail
  refine (XCellS_size _ _ _ cs0 (1048576) _ hf0 hn0 (by omega) (by omega)).mono ?_
  rw [HZ0.out]
  rintro e w' ⟨rfl, hw⟩
  rw [hw]
  clear hw w'
  by_cases ok0 : (z0 : Int) ≤ 1048576
  rotate_left
  · rw [if_neg ok0]
    go_wp2
    go_ret
    exact ⟨rfl, Below.refl _ _⟩
  rw [if_pos ok0]
  have left0 : 0 ≤ 1048576 - ((z0 : Int)) := by omega
  have hs0 : Hid (szD (.l l0 2 cs0) ≤ 1048576) := by show _ ≤ _; rw [HZ0.out]; omega
  have HS : Hid (SpecTells l0 cs0 xr0) := Hs.out hs0.out
  have HI : Hid (ImplTells l0 cs0 xr0) := Hi.out hs0.out
  clear Hs Hi
  go_wp2_with fail
  refine (XCellS_to _ _ _ cs0 false _ hf0 hs0 h0).mono ?_
  rintro e w1 ⟨rfl, hO, hB⟩
  have A0_1 : Hid (Owns w1 true w.heap.size (.l l0 2 cs0) (.slice (some ⟨w.heap.size, 0, none⟩) l0 l0) (rng w.heap.size w1.heap.size)) := hO
  have BW1 : Hid (Below w.heap.size w w1) := hB
  have SZ1 : Hid (w.heap.size ≤ w1.heap.size) := hB.size
  clear hO hB
  go_wp2_with fail
  refine (HS.out _ _ _ A0_1.out.holds).mono ?_
  rintro e w2 ⟨rfl, hB⟩
  have BW2 : Hid (Below w.heap.size w w2) := BW1.out.trans (hB.mono BW1.out.size)
  have SZ2 : Hid (w1.heap.size ≤ w2.heap.size) := hB.size
  clear hB
  go_wp2_with fail
  refine (XCellS_to _ _ _ cs0 false _ hf0 hs0 (h0.out.kept BW2.out)).mono ?_
  rintro e w3 ⟨rfl, hO, hB⟩
  have X0_3 : Hid (Owns w3 true w2.heap.size (.l l0 2 cs0) (.slice (some ⟨w2.heap.size, 0, none⟩) l0 l0) (rng w2.heap.size w3.heap.size)) := hO
  have BW3 : Hid (Below w.heap.size w w3) := BW2.out.trans (hB.mono BW2.out.size)
  have SZ3 : Hid (w2.heap.size ≤ w3.heap.size) := hB.size
  have BS3 : Hid (Below w2.heap.size w2 w3) := hB
  clear hO hB
  go_wp2_with fail
  refine (HI.out _ _ _ X0_3.out.holds).mono ?_
  rintro e w4 ⟨rfl, hB⟩
  have BW4 : Hid (Below w.heap.size w w4) := BW3.out.trans (hB.mono BW3.out.size)
  have SZ4 : Hid (w3.heap.size ≤ w4.heap.size) := hB.size
  have BS4 : Hid (Below w2.heap.size w2 w4) := BS3.out.trans (hB.mono BS3.out.size)
  have X0_4 : Hid (Owns w4 true w2.heap.size (.l l0 2 cs0) (.slice (some ⟨w2.heap.size, 0, none⟩) l0 l0) (rng w2.heap.size w3.heap.size)) := X0_3.out.kept hB
  clear hB
  go_wp2_with fail
  refine (XCellS_to _ _ _ cs0 false _ hf0 hs0 (h0.out.kept BW4.out)).mono ?_
  rintro e w5 ⟨rfl, hO, hB⟩
  have Z0_5 : Hid (Owns w5 true w4.heap.size (.l l0 2 cs0) (.slice (some ⟨w4.heap.size, 0, none⟩) l0 l0) (rng w4.heap.size w5.heap.size)) := hO
  have BW5 : Hid (Below w.heap.size w w5) := BW4.out.trans (hB.mono BW4.out.size)
  have SZ5 : Hid (w4.heap.size ≤ w5.heap.size) := hB.size
  have BS5 : Hid (Below w2.heap.size w2 w5) := BS4.out.trans (hB.mono BS4.out.size)
  have X0_5 : Hid (Owns w5 true w2.heap.size (.l l0 2 cs0) (.slice (some ⟨w2.heap.size, 0, none⟩) l0 l0) (rng w2.heap.size w3.heap.size)) := X0_4.out.kept hB
  clear hO hB
  go_wp2_with fail
  refine (XCellS_eq _ _ _ _ _ cs0 _ _ _ hf0 hs0 X0_5.out.holds Z0_5.out.holds).mono ?_
  rintro e w6 ⟨rfl, hB⟩
  have BW6 : Hid (Below w.heap.size w w6) := BW5.out.trans (hB.mono BW5.out.size)
  have SZ6 : Hid (w5.heap.size ≤ w6.heap.size) := hB.size
  have BS6 : Hid (Below w2.heap.size w2 w6) := BS5.out.trans (hB.mono BS5.out.size)
  have X0_6 : Hid (Owns w6 true w2.heap.size (.l l0 2 cs0) (.slice (some ⟨w2.heap.size, 0, none⟩) l0 l0) (rng w2.heap.size w3.heap.size)) := X0_5.out.kept hB
  have Z0_6 : Hid (Owns w6 true w4.heap.size (.l l0 2 cs0) (.slice (some ⟨w4.heap.size, 0, none⟩) l0 l0) (rng w4.heap.size w5.heap.size)) := Z0_5.out.kept hB
  clear hB
  go_wp2
  go_ret
  exact ⟨rfl, BW6.out⟩
theorem walk (a0 : Option Addr) (l0 cap0 : Nat) (cs0 : Nat → Dv) (w : World) (h0 : Holds w false (.l l0 2 cs0) (.slice a0 l0 cap0)) (f0 : Fits shXCellS (.l l0 2 cs0)) (n0 : Lens (.l l0 2 cs0)) :
    Calls Try.prog 3 #[.slice a0 l0 cap0] w fun e w' => e = .returned (.bool true) ∧ Below w.heap.size w w' := by
  have HF := fits_X2 f0
  refine walk_of a0 cap0 l0 cs0 (goodX (kdX (intsOf cs0 (l0 * 2))) (nnX (intsOf cs0 (l0 * 2))) l0) w f0 n0 h0 (fun hs => ?_) (fun hs => ?_)
  · intro W a cap hh
    have h0 : l0 ≤ 1048576 := Nat.le_trans (Nat.le_add_right _ _) hs
    exact spec_goodtree2 a l0 cap (intsOf cs0 (l0 * 2)) W (by show _ = _; rw [intsOf_len]) h0 (holds_ints hh HF)
  · intro W a cap hh
    obtain ⟨a', cap', e, hc, _⟩ := id hh
    simp only [Value.slice.injEq, true_and] at e
    obtain ⟨rfl, rfl⟩ := e
    exact impl_goodtree2 a l0 cap (intsOf cs0 (l0 * 2)) W (by show _ = _; rw [intsOf_len]) (hc rfl).1 (hc rfl).2 (holds_ints hh HF)

set_option maxRecDepth 100000 in
set_option maxHeartbeats 4000000 in
theorem lifted (os : Os) (started : os.Started) (H : Type) (enc : TypeId × Value → H) :
    ReturnsInHanded {} Try.checked os 3 .any (Rows.fnExactGoodTree2Spec.pre6 enc Try.prog Try.f3 Rows.fnExactGoodTree2Row.domain false) (Rows.fnExactGoodTree2Spec.post enc Try.prog Try.f3 false true false false) := by
  refine returnsInHanded_of_change_sized (C := Try.checked) own started (by kernel_rfl) Try.func3
    (ChangeSpec.witness6 (enc := enc) (C := Try.checked) false ⟨#[], #[.slice none 0 0], []⟩ 8 (by kernel_rfl) (by kernel_rfl) (by kernel_rfl) (by kernel_rfl)) ?_
  intro W base args ds gs before hval0 hW hcnd hsz0 _
  have hval : ∀ (j : Nat) t v, Try.f3.params[j]? = some t → args[j]? = some v → Value.okWide Try.prog W .any base t v := hval0
  have hW' := hW
  obtain ⟨p, q, hA0, hV, rfl, hfz, hnd⟩ := hW
  have hsz : (DataW.weightsEach Try.prog (Try.f3.params.toList ++ Rows.fnExactGoodTree2Spec.plain.varTypes Try.prog) (ds ++ gs)).all (· ≤ reachBytes) = true := hsz0
  have hA : DataW.TrodAll enc Try.prog W 0 (fun _ => true) true Try.f3.params.toList args.toList ds p := hA0
  rw [Try.params3] at hA hval hsz
  obtain ⟨v0, vs0, d0, ds0, p0, q0, hargs, rfl, rfl, h0, r0⟩ := trodAll_cons hA
  obtain ⟨rfl, rfl, rfl⟩ := trodAll_nil r0
  obtain rfl : args = #[v0] := by cases args; simp_all
  obtain ⟨rfl, rfl⟩ := trodVars_none hV
  obtain ⟨a0, l0, cap0, rfl⟩ := okWide_slice Try.underlying22 (hval 0 22 v0 rfl rfl)
  have k0 := h0
  have lt0 : ∀ x ∈ p0, x.block < W.heap.size := by obtain ⟨m, hm⟩ := k0; exact DataW.trod_lt m _ _ _ hm
  obtain ⟨cs0, w0, f0, n0⟩ := open_list (show Matches Try.prog shXCellS 22 from ⟨59, Try.underlying22, (show Try.prog.cellsOf 59 = 2 by kernel_rfl), by decide, Or.inr ⟨_, Try.underlying59, rfl, (fun i f h => by
    match i, h with
    | 0, h => obtain rfl := Option.some.inj h; exact ⟨rfl, (show Try.prog.cellsOf 3 = 1 by kernel_rfl), Try.underlying3⟩
    | 1, h => obtain rfl := Option.some.inj h; exact ⟨rfl, (show Try.prog.cellsOf 3 = 1 by kernel_rfl), Try.underlying3⟩
    | i + 2, h => simp at h)⟩⟩) h0
  clear hA0 hval0
  refine (walk a0 l0 cap0 cs0 W w0 f0 n0).mono fun e W' ⟨he, bel⟩ => ?_
  subst he
  exact ⟨_, rfl, _, _, _, [], _, [], hW', trodAll_mk1 (shut_bool Try.underlying4 _), (trodAll_cons_mk (Below.trod laidOut (by kernel_rfl) (of_decide_eq_true (by kernel_rfl)) k0 bel lt0) trodAll_mk0), rfl, bel.frame _, fun h => by cases h⟩

theorem over : Rows.fnExactGoodTree2Row.holds Try.pinned (OpenSpec.ofChange Rows.fnExactGoodTree2Spec) :=
  OpenClaim.holds_of_wide 3 Try.f3 rfl rfl rfl rfl rfl rfl rfl ⟨rfl, rfl, rfl, rfl, rfl⟩ rfl rfl rfl rfl rfl (by kernel_rfl) Try.func3 (by kernel_rfl)
    (of_decide_eq_true (by kernel_rfl)) (by unfold Func.isWrapper; first | (rw [if_pos (by decide +kernel)]; kernel_rfl) | (rw [if_neg (by decide +kernel)]; exact ⟨rfl, rfl⟩))
    (fun os started H enc _ => lifted os started H enc)

theorem proved : Rows.FnExactGoodTree2Said :=
  over
#print axioms proved
end Go.Proofs.Ytbjfhcbgghpdaaa.fnExactGoodTree2
