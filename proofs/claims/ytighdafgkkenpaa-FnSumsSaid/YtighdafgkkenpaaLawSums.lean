/-
  Whatever bytes are handed in: sums on words as they stand are the sums of their numbers, for the words that the specification draws from them; the bytes read as before.
-/
import Derived.Test.YtighdafgkkenpaaRows
import Derived.WalkKit
import Derived.ProofKit
import Derived.OpenShut
import Derived.ShutString
import Derived.ChangeOld
import Derived.Below
import Derived.Test.YtighdafgkkenpaaMath
import Derived.Test.YtighdafgkkenpaaWalks
import Derived.Test.YtighdafgkkenpaaSumsAll
import Derived.Test.YtighdafgkkenpaaCur
import Derived.Test.YtighdafgkkenpaaCurWord
namespace Go.Proofs.Ytighdafgkkenpaa.fnSums
open Go.ChangeShapes Go.WideShapes Go.ChangeAt Go.RowKit
open Go.ChangeMaps (open_string shut_string)
open Go.Proofs.Ytighdafgkkenpaa.math
open Go.Proofs.Ytighdafgkkenpaa.walks
open Go.Proofs.Ytighdafgkkenpaa.sums
open Go.Proofs.Ytighdafgkkenpaa.cur
open Go.Proofs.Ytighdafgkkenpaa.cur
set_option linter.unusedVariables false

theorem own : ownKnob Try.prog.godebug = none := by kernel_rfl
theorem laidOut : laidOutB Try.prog = true := by kernel_rfl

/-- WHAT THE WALK IS TOLD OF A SLICE OF INTEGERS THAT CAME IN: it is nil; or it leads to a row of 'cap' cells, the numbers 'zs' (the first 'len' are its elements, the rest its spare room), each fitting its kind. -/
def IsRow (k : IntKind) (w : World) (a : Option Addr) (len cap : Nat) (zs : List Int) : Prop :=
  (a = none ∧ len = 0 ∧ cap = 0 ∧ zs = []) ∨
  ∃ x, a = some x ∧ len ≤ cap ∧ cap ≤ maxLen ∧ zs.length = cap ∧ (∀ i, i < zs.length → w.cell? (x.add i) = some (.int k (zs.getD i 0))) ∧ ∀ n ∈ zs, (Lit.int k n).wf = true

theorem code_of {w : World} {a : Option Addr} {len cap : Nat} {zs : List Int} (h : IsRow .u8 w a len cap zs) : Src w.heap.size a len w := by
  rcases h with ⟨_, rfl, _, _⟩ | ⟨x, rfl, hl, hm, hz, hcell, hwz⟩
  · exact Or.inl rfl
  · obtain ⟨b, off, spot⟩ := x
    by_cases h0 : len = 0
    · exact Or.inl h0
    · have hc := hcell 0 (by omega)
      have hspot : spot = none := by simpa [Addr.add] using World.cell?_spot hc
      subst hspot
      have hb : b < w.heap.size := by simpa [Addr.add] using World.block_lt_of_cell? w _ hc
      refine Or.inr ⟨b, off, rfl, hb, hb, fun i hi => ?_⟩
      have hi' : i < zs.length := by omega
      have e : zs.getD i 0 = zs[i] := by simp [List.getD, hi']
      have hbd := bounds_u8 (hwz zs[i] (List.getElem_mem hi'))
      have ha : (⟨b, off, none⟩ : Addr).add i = ⟨b, off + i, none⟩ := by
        unfold Addr.add
        split
        · rename_i h; subst h; rfl
        · rfl
      have hc1 := hcell i hi'
      rw [e, ha] at hc1
      exact ⟨zs[i], by omega, by omega, hc1⟩

set_option maxRecDepth 100000 in
set_option maxHeartbeats 4000000 in
theorem walk (a0 : Option Addr) (len0 cap0 : Nat) (z0 : List Int) (w : World) (w0 : IsRow .u8 w a0 len0 cap0 z0) :
    Calls Try.prog 3 #[.slice a0 len0 cap0] w fun e w' => e = .returned (.bool true) ∧ Below w.heap.size w w' := by
  by_cases hbig : 1048576 < len0
  · have hb1 : (1048576 : Int) < (len0 : Int) := by omega
    go_enter Try.func3, Try.ntmps3
    go_wp2
    go_ret
    exact ⟨rfl, Below.refl _ _⟩
  have hs1 : (len0 : Int) ≤ 1048576 := by omega
  have hlen : len0 ≤ 1048576 := by omega
  have C : Hid (Src w.heap.size a0 len0 w) := code_of w0
  clear hbig w0
  go_enter Try.func3, Try.ntmps3
  go_wp2_with fail
  refine (drawTwo_any C.out hlen).mono ?_
  rintro e w1 ⟨a, b, rfl, HG⟩
  have G : Hid (Below w.heap.size w w1) := HG
  clear HG C
  cases sa : smallB a
  · skip
    go_wp2_with (first | (go_at_call 5; refine (impl_AddTagged_no0 _ _ sa _).mono ?_; rintro e w' ⟨rfl, rfl⟩) | (go_at_call 6; refine (spec_AddTagged_no0 _ _ sa _).mono ?_; rintro e w' ⟨rfl, rfl⟩) | (go_at_call 7; refine (impl_SubTagged_no0 _ _ sa _).mono ?_; rintro e w' ⟨rfl, rfl⟩) | (go_at_call 8; refine (spec_SubTagged_no0 _ _ sa _).mono ?_; rintro e w' ⟨rfl, rfl⟩) | (go_at_call 9; refine (impl_MulTagged_no0 _ _ sa _).mono ?_; rintro e w' ⟨rfl, rfl⟩) | (go_at_call 10; refine (spec_MulTagged_no0 _ _ sa _).mono ?_; rintro e w' ⟨rfl, rfl⟩) | (go_at_call 11; refine (impl_LessTagged_no0 _ _ sa _).mono ?_; rintro e w' ⟨rfl, rfl⟩) | (go_at_call 12; refine (spec_LessTagged_no0 _ _ sa _).mono ?_; rintro e w' ⟨rfl, rfl⟩) | (go_at_call 13; refine (impl_untagSmall _ _).mono ?_; rintro e w' ⟨rfl, rfl⟩))
    go_ret
    exact ⟨rfl, G.out⟩
  cases sb : smallB b
  · skip
    go_wp2_with (first | (go_at_call 5; refine (impl_AddTagged_no1 _ _ sa sb _).mono ?_; rintro e w' ⟨rfl, rfl⟩) | (go_at_call 6; refine (spec_AddTagged_no1 _ _ sa sb _).mono ?_; rintro e w' ⟨rfl, rfl⟩) | (go_at_call 7; refine (impl_SubTagged_no1 _ _ sa sb _).mono ?_; rintro e w' ⟨rfl, rfl⟩) | (go_at_call 8; refine (spec_SubTagged_no1 _ _ sa sb _).mono ?_; rintro e w' ⟨rfl, rfl⟩) | (go_at_call 9; refine (impl_MulTagged_no1 _ _ sa sb _).mono ?_; rintro e w' ⟨rfl, rfl⟩) | (go_at_call 10; refine (spec_MulTagged_no1 _ _ sa sb _).mono ?_; rintro e w' ⟨rfl, rfl⟩) | (go_at_call 11; refine (impl_LessTagged_no1 _ _ sa sb _).mono ?_; rintro e w' ⟨rfl, rfl⟩) | (go_at_call 12; refine (spec_LessTagged_no1 _ _ sa sb _).mono ?_; rintro e w' ⟨rfl, rfl⟩) | (go_at_call 13; refine (impl_untagSmall _ _).mono ?_; rintro e w' ⟨rfl, rfl⟩))
    go_ret
    exact ⟨rfl, G.out⟩
  obtain ⟨la, ua, _⟩ := smallB_out sa
  obtain ⟨lb, ub, _⟩ := smallB_out sb
  obtain ⟨_, xa, ya⟩ := small_form sa
  obtain ⟨_, xb, yb⟩ := small_form sb
  obtain ⟨m0, m1⟩ := mul_bd xa ya xb yb
  have sub : inB (unt a - unt b) = false ∨ (inB (unt a - unt b) = true ∧ bits .and .i64 (a - b + 1) 65535 = tagW (unt a - unt b)) := by
    cases h : inB (unt a - unt b)
    · exact Or.inl rfl
    · exact Or.inr ⟨rfl, word_sub sa sb h⟩
  have mul : inB (unt a * unt b) = false ∨ (inB (unt a * unt b) = true ∧ smallB (tagW (unt a * unt b)) = true ∧ unt (tagW (unt a * unt b)) = unt a * unt b) := by
    cases h : inB (unt a * unt b)
    · exact Or.inl rfl
    · exact Or.inr ⟨rfl, tag_back h⟩
  have add : (decide (-16384 ≤ unt a + unt b) = false ∧ inB (unt a + unt b) = false) ∨ (-16384 ≤ unt a + unt b ∧ decide (-16384 ≤ unt a + unt b) = true ∧ decide (unt a + unt b ≤ 16383) = false ∧ inB (unt a + unt b) = false) ∨
      (-16384 ≤ unt a + unt b ∧ unt a + unt b ≤ 16383 ∧ decide (-16384 ≤ unt a + unt b) = true ∧ decide (unt a + unt b ≤ 16383) = true ∧ inB (unt a + unt b) = true ∧ bits .and .i64 (a + b - 1) 65535 = tagW (unt a + unt b)) := by
    by_cases h0 : unt a + unt b < -16384
    · exact Or.inl ⟨decide_eq_false (by omega), inB_lt h0⟩
    by_cases h1 : 16383 < unt a + unt b
    · exact Or.inr (Or.inl ⟨by omega, decide_eq_true (by omega), decide_eq_false (by omega), inB_gt h1⟩)
    · exact Or.inr (Or.inr ⟨by omega, by omega, decide_eq_true (by omega), decide_eq_true (by omega), inB_mk (by omega) (by omega), word_add sa sb (inB_mk (by omega) (by omega))⟩)
  rcases add with ⟨p0, p1⟩ | ⟨p4, p0, p1, p2⟩ | ⟨p4, p5, p0, p1, p2, p3⟩ <;> rcases sub with q0 | ⟨q0, q1⟩ <;> rcases mul with r0 | ⟨r0, r1, r2⟩
  all_goals
    go_wp2_with (first | (go_at_call 5; refine (impl_AddTagged_yes _ _ sa sb _).mono ?_; rintro e w' ⟨rfl, rfl⟩) | (go_at_call 6; refine (spec_AddTagged_yes _ _ sa sb _).mono ?_; rintro e w' ⟨rfl, rfl⟩) | (go_at_call 7; refine (impl_SubTagged_yes _ _ sa sb _).mono ?_; rintro e w' ⟨rfl, rfl⟩) | (go_at_call 8; refine (spec_SubTagged_yes _ _ sa sb _).mono ?_; rintro e w' ⟨rfl, rfl⟩) | (go_at_call 9; refine (impl_MulTagged_yes _ _ sa sb _).mono ?_; rintro e w' ⟨rfl, rfl⟩) | (go_at_call 10; refine (spec_MulTagged_yes _ _ sa sb _).mono ?_; rintro e w' ⟨rfl, rfl⟩) | (go_at_call 11; refine (impl_LessTagged_yes _ _ sa sb _).mono ?_; rintro e w' ⟨rfl, rfl⟩) | (go_at_call 12; refine (spec_LessTagged_yes _ _ sa sb _).mono ?_; rintro e w' ⟨rfl, rfl⟩) | (go_at_call 13; refine (impl_untagSmall _ _).mono ?_; rintro e w' ⟨rfl, rfl⟩))
    go_ret
    exact ⟨rfl, G.out⟩

set_option maxRecDepth 100000 in
theorem lifted (os : Os) (started : os.Started) (H : Type) (enc : TypeId × Value → H) :
    ReturnsInHanded {} Try.checked os 3 .any (Rows.fnSumsSpec.pre6 enc Try.prog Try.f3 Rows.fnSumsRow.domain false) (Rows.fnSumsSpec.post enc Try.prog Try.f3 false true false false) := by
  refine returnsInHanded_of_change (C := Try.checked) own started (by kernel_rfl) Try.func3
    (ChangeSpec.witness6 (enc := enc) (C := Try.checked) false ⟨#[], #[.slice none 0 0], []⟩ 8 (by kernel_rfl) (by kernel_rfl) (by kernel_rfl) (by kernel_rfl)) ?_
  intro W base args ds gs before hval0 hW hcnd _
  have hval : ∀ (j : Nat) t v, Try.f3.params[j]? = some t → args[j]? = some v → Value.okWide Try.prog W .any base t v := hval0
  have hW' := hW
  obtain ⟨p, q, hA0, hV, rfl, hfz, hnd⟩ := hW
  have hA : DataW.TrodAll enc Try.prog W 0 (fun _ => true) true Try.f3.params.toList args.toList ds p := hA0
  rw [Try.params3] at hA hval
  obtain ⟨v0, vs0, d0, ds0, p0, q0, hargs, rfl, rfl, h0, r0⟩ := trodAll_cons hA
  obtain ⟨rfl, rfl, rfl⟩ := trodAll_nil r0
  obtain rfl : args = #[v0] := by cases args; simp_all
  obtain ⟨rfl, rfl⟩ := trodVars_none hV
  obtain ⟨a0, len0, cap0, rfl⟩ := okWide_slice Try.underlying22 (hval 0 22 v0 rfl rfl)
  have k0 := h0
  have lt0 : ∀ x ∈ p0, x.block < W.heap.size := by obtain ⟨m, hm⟩ := k0; exact DataW.trod_lt m _ _ _ hm
  obtain ⟨z0, w0⟩ : ∃ zs, IsRow .u8 W a0 len0 cap0 zs := by
    obtain ⟨fuel, hf⟩ := h0
    rcases open_ints Try.underlying22 Try.underlying5 (by kernel_rfl) hf with ⟨hcs, _⟩ | ⟨x, l, c, zs, hcs, _, hl, hm, hz, _, hcell, hwz⟩
    · simp [Value.cells] at hcs
      obtain ⟨rfl, rfl, rfl⟩ := hcs
      exact ⟨[], .inl ⟨rfl, rfl, rfl, rfl⟩⟩
    · simp [Value.cells] at hcs
      obtain ⟨rfl, rfl, rfl⟩ := hcs
      exact ⟨zs, .inr ⟨_, rfl, hl, hm, by simpa using hz, hcell, hwz⟩⟩
  clear hA0 hval0
  refine (walk a0 len0 cap0 z0 W w0).mono fun e W' ⟨he, bel⟩ => ?_
  subst he
  exact ⟨_, rfl, _, _, _, [], _, [], hW', trodAll_mk1 (shut_bool Try.underlying4 _), (trodAll_cons_mk (Below.trod laidOut (by kernel_rfl) (of_decide_eq_true (by kernel_rfl)) k0 bel lt0) trodAll_mk0), rfl, bel.frame _, fun h => by cases h⟩

theorem over : Rows.fnSumsRow.holds Try.pinned (OpenSpec.ofChange Rows.fnSumsSpec) :=
  OpenClaim.holds_of_wide 3 Try.f3 rfl rfl rfl rfl rfl rfl rfl ⟨rfl, rfl, rfl, rfl, rfl⟩ rfl rfl rfl rfl rfl (by kernel_rfl) Try.func3 (by kernel_rfl)
    (of_decide_eq_true (by kernel_rfl)) (by unfold Func.isWrapper; first | (rw [if_pos (by decide +kernel)]; kernel_rfl) | (rw [if_neg (by decide +kernel)]; exact ⟨rfl, rfl⟩))
    (fun os started H enc _ => lifted os started H enc)

theorem proved : Rows.FnSumsSaid := over
#print axioms proved
end Go.Proofs.Ytighdafgkkenpaa.fnSums
