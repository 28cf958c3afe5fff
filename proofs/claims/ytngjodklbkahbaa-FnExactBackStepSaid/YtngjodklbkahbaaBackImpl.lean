/-
  What the program's BackStep answers, at every list of steps and names.
-/
import Derived.RangeFuncNested
import Derived.RangeFuncBound
import Derived.RangeFuncCalls
import Derived.RangeFuncLeaves
import Derived.Shelf.Abstract
import Derived.Shelf.RegionOpen
import Derived.WalkKit
import Derived.OwnWalkIn
import Derived.TacticsInMore
import Derived.LoopNIn
import Derived.LoopIn
import Derived.Test.YtngjodklbkahbaaProg
import Derived.Test.YtngjodklbkahbaaBackward
import Derived.Test.YtngjodklbkahbaaNeedBy
import Derived.Test.YtngjodklbkahbaaSetRise
namespace Go.Proofs.Ytngjodklbkahbaa.walks
open Go.RowKit Go.Shelf Go.Proofs.Ytngjodklbkahbaa.math Go.Proofs.Ytngjodklbkahbaa.ints
set_option linter.unusedVariables false
set_option maxRecDepth 100000
attribute [local go_sem] Oper.semAt_some

/-- The names after the steps of a list of numbers, one behind the other. -/
def backsL (zs : List Int) {len : Nat} (f : Nat → Bool) (pre : List (Fin len)) : Nat → Bool := pre.foldl (fun g i => stepBack false zs i.val g) f
theorem backs_snoc (zs : List Int) {len : Nat} (f : Nat → Bool) (pre : List (Fin len)) (x : Fin len) : backsL zs f (pre ++ [x]) = stepBack false zs x.val (backsL zs f pre) := by simp [backsL]
theorem backs_all (zs : List Int) (len : Nat) (f : Nat → Bool) : ∀ m, m ≤ len → backsL zs f (downTo len m) = backK false zs len f m
  | 0, _ => rfl
  | m + 1, hm => by
    have e := downTo_next (len := len) (q := len - (m + 1)) (by omega)
    rw [show len - (len - (m + 1)) = m + 1 by omega, show len - (len - (m + 1) + 1) = m by omega] at e
    rw [e, backs_snoc, backs_all zs len f m (by omega)]
    show stepBack false zs (len - (m + 1)) _ = stepBack false zs (len - 1 - m) _
    rw [show len - (m + 1) = len - 1 - m by omega]
set_option maxHeartbeats 4000000 in
theorem impl_backstep (a a2 : Option Addr) (len cap len2 cap2 : Nat) (zs ls : List Int) (W : World) (hz : Hid (zs.length = len * 5)) (hlen : len ≤ 1048576) (h : Hid (Ints W a zs)) (hz2 : Hid (ls.length = len2)) (hlen2 : len2 ≤ 1048576) (h2 : Hid (Ints W a2 ls)) :
    Calls Try.prog 8 #[.slice a len cap, .slice a2 len2 cap2] W fun e W' => NamesTold (codeB zs len && namesB ls) (risingTo (backK false zs len (memS ls) len) 8) W e W' := by
  refine (callsIn_wide (n := 6)).1 ?_
  have f1 : Fence.wide.fn 18 := trivial
  have f2 : Fence.wide.fn 19 := trivial
  have f3 : Fence.wide.fn 20 := trivial
  have f4 : Fence.wide.fn 21 := trivial
  have f5 : Fence.wide.fn 22 := trivial
  refine callsIn_of_wp_marks Try.func8 rfl trivial ?_ rfl
  simp only [Try.ntmps8, List.size_toArray, List.length_cons, List.length_nil, Nat.reduceAdd, Nat.reduceSub, Array.replicate_succ, Array.replicate_zero, List.push_toArray, List.append_toArray, List.nil_append, List.cons_append]
  gi_wp2_with fail
  refine (callsIn_wide.2 (impl_steps _ _ _ zs _ hz hlen h)).mono ?_
  rintro e w1 ⟨hA1, hB1⟩
  have HB1 : Hid (Below W.heap.size W w1) := hB1
  have H21 : Hid (Ints w1 a2 ls) := h2.out.kept hB1
  have HA1 : Hid ((codeB zs len = true ∧ ∃ a' cap', e = .returned (.tuple #[.slice a' len cap', .bool true]) ∧ Steps w1 a' zs len) ∨ (codeB zs len = false ∧ e = .returned (.tuple #[.slice none 0 0, .bool false]))) := hA1
  clear hA1 hB1
  obtain ⟨ok1, a', c', rfl, HS1⟩ : ∃ ok1 a' c', e = .returned (.tuple #[.slice a' (if ok1 then len else 0) c', .bool ok1]) ∧ Hid (codeB zs len = ok1 ∧ (ok1 = true → Steps w1 a' zs len)) := by
    rcases HA1.out with ⟨hc, a', c', rfl, hS⟩ | ⟨hc, rfl⟩
    · exact ⟨true, a', c', rfl, hc, fun _ => hS⟩
    · exact ⟨false, none, 0, rfl, hc, fun e => by cases e⟩
  clear HA1
  obtain ⟨sl, hsl⟩ : ∃ sl, Hid (sl = if ok1 then len else 0) := ⟨_, rfl⟩
  rw [← hsl.out]
  gi_wp2_with fail
  refine (callsIn_wide.2 (impl_needed _ _ _ ls _ hz2 hlen2 H21)).mono ?_
  rintro e w2 ⟨hA2, hB2⟩
  have HB2 : Hid (Below w1.heap.size w1 w2) := hB2
  have HA2 : Hid ((namesB ls = true ∧ ∃ mb, e = .returned (.tuple #[.map (some mb), .bool true]) ∧ SetIs w2 mb (memS ls) ∧ w1.heap.size ≤ mb) ∨ (namesB ls = false ∧ e = .returned (.tuple #[.map none, .bool false]))) := hA2
  clear hA2 hB2
  obtain ⟨ok2, m, rfl, HS2⟩ : ∃ ok2 m, e = .returned (.tuple #[.map m, .bool ok2]) ∧ Hid (namesB ls = ok2 ∧ (ok2 = true → ∃ mb, m = some mb ∧ SetIs w2 mb (memS ls) ∧ w1.heap.size ≤ mb)) := by
    rcases HA2.out with ⟨hc, mb, rfl, hS, hm⟩ | ⟨hc, rfl⟩
    · exact ⟨true, some mb, rfl, hc, fun _ => ⟨mb, rfl, hS, hm⟩⟩
    · exact ⟨false, none, rfl, hc, fun e => by cases e⟩
  clear HA2
  have HBW : Hid (Below W.heap.size W w2) := HB1.out.trans (HB2.out.mono HB1.out.size)
  have HNo : Hid ((codeB zs len && namesB ls) = false → ∀ w3, Below w2.heap.size w2 w3 → NamesTold (codeB zs len && namesB ls) (risingTo (backK false zs len (memS ls) len) 8) W (.returned (.tuple #[.slice none 0 0, .bool false])) w3) := fun hf w3 hb => Or.inr ⟨hf, rfl, HBW.out.trans (hb.mono HBW.out.size)⟩
  cases ok1
  · have HR : Hid (∀ w3, Below w2.heap.size w2 w3 → NamesTold (codeB zs len && namesB ls) (risingTo (backK false zs len (memS ls) len) 8) W (.returned (.tuple #[.slice none 0 0, .bool false])) w3) := HNo.out (by rw [HS1.out.1]; rfl)
    gi_wp2
    refine ⟨_, results_tmp2 rfl _ _ _, ?_⟩
    exact HR.out _ (by go_grown)
  cases ok2
  · have HR : Hid (∀ w3, Below w2.heap.size w2 w3 → NamesTold (codeB zs len && namesB ls) (risingTo (backK false zs len (memS ls) len) 8) W (.returned (.tuple #[.slice none 0 0, .bool false])) w3) := HNo.out (by rw [HS2.out.1, Bool.and_false])
    gi_wp2
    refine ⟨_, results_tmp2 rfl _ _ _, ?_⟩
    exact HR.out _ (by go_grown)
  obtain ⟨mb, rfl, hS2, hmb⟩ := HS2.out.2 rfl
  have hsl' : sl = len := hsl.out
  subst hsl'
  have HSt : Hid (Steps w2 a' zs sl) := (HS1.out.2 rfl).kept HB2.out
  have HC : Hid (codeB zs sl = true) := HS1.out.1
  have HN : Hid (namesB ls = true) := HS2.out.1
  have HSet : Hid (SetIs w2 mb (memS ls)) := hS2
  have hmbl : mb < w2.heap.size := hS2.lt
  clear hS2 HS1 HS2 HNo hsl
  gi_wp2_with (gi_at_call 20; refine (backward_in Fence.wide _ trivial rfl _ _ _ _).mono ?_; rintro e w' ⟨rfl, rfl⟩)
  have hWs := HBW.out.size
  have hw1s := HB1.out.size
  have bS := Boxed.new w2 46 (.map (some mb))
  have bN := Boxed.new (w2.alloc (.cells #[.map (some mb)] 46)) 42 (.slice a' sl c')
  rw [World.size_alloc] at bN
  have bS2 := bS.alloc (.cells #[.slice a' sl c'] 42)
  have hX : Below w2.heap.size w2 ((w2.alloc (.cells #[.map (some mb)] 46)).alloc (.cells #[.slice a' sl c'] 42)) := ((Below.refl _ w2).alloc (Nat.le_refl _) _).alloc (by simp) _
  obtain ⟨X, hXe⟩ : ∃ X, Hid (((w2.alloc (.cells #[.map (some mb)] 46)).alloc (.cells #[.slice a' sl c'] 42)) = X) := ⟨_, rfl⟩
  have hXs : X.heap.size = w2.heap.size + 1 + 1 := by rw [← hXe.out]; simp
  rw [hXe.out] at bN bS2 hX ⊢
  have hab : ∀ b o, a' = some ⟨b, o, none⟩ → 0 < sl → b < X.heap.size ∧ b ≠ mb := by
    intro b o e h0
    rcases HSt.out with q | ⟨b', e', hl, hcs⟩
    · omega
    · rw [e] at e'
      simp only [Option.some.injEq, Addr.mk.injEq] at e'
      obtain ⟨rfl, rfl, _⟩ := e'
      refine ⟨by omega, ?_⟩
      rintro rfl
      obtain ⟨es, clock, hbk, _⟩ := HSet.out
      have := hcs 0 h0
      simp [World.cell?, hbk] at this
  refine wpIn_rangeFunc_ownG rfl (by omega) (gf := 30) (lb := #[.pointer (some ⟨w2.heap.size + 1, 0, none⟩)]) rfl trivial (enters_of Try.func30 (by kernel_rfl) rfl)
    (backward_stops Fence.wide 5 trivial rfl (by omega) (w2.heap.size + 1) X.heap.size mb a' sl c' zs hlen X (Nat.le_refl _) (by omega) (by omega) bN.cell (HSt.out.kept hX) hab) keepBut_t (keepBut_b (Nat.le_refl _)) (Below.refl _ _) (fun _ => rfl)
    (fun pre W1 => ((SetIs W1 mb (backsL zs (memS ls) pre) ∧ W1.cell? ⟨w2.heap.size, 0, none⟩ = some (.map (some mb))) ∧ X.heap.size ≤ W1.heap.size) ∧ Below W.heap.size W W1)
    (fun _ _ _ => False)
    (OwnFrom.and (fun s A B row hs hg hr => ⟨⟨hs.1.1.far hg (fun e => by have := (hr _ e.symm).1; omega), cell_kept hs.1.2 hg (fun r e => (hr r e).2)⟩, Nat.le_trans hs.2 hg.size⟩) (ownFrom_below (Nat.le_refl _) (by omega)))
    (fun _ _ _ _ _ hs _ _ => hs)
    ⟨⟨⟨HSet.out.kept hX, bS2.cell⟩, Nat.le_refl _⟩, HBW.out.trans (hX.mono hWs)⟩
    (fun x => { tmps := #[.slice a sl cap, .slice a2 len2 cap2, undef, undef, .slice none 0 0, .bool false, .slice a' sl c', .bool true, .pointer (some ⟨w2.heap.size, 0, none⟩), .bool true, undef, stepAt zs x.val, .tuple #[.slice a' sl c', .bool true], .slice a sl cap, .tuple #[.slice a' sl c', .bool true], .slice a' sl c', .bool true, .tuple #[.map (some mb), .bool true], .slice a2 len2 cap2, .tuple #[.map (some mb), .bool true], .map (some mb), .bool true, .bool true, .bool false, .bool false, .bool true, .bool false, .bool false, .slice a' sl c', .func (.func 30) #[] #[.pointer (some ⟨w2.heap.size + 1, 0, none⟩)], .int .i64 (x.val : Int), stepAt zs x.val, undef, undef, undef, undef, undef], defers := [] }) ?assign ?body ?done ?stop
  case assign =>
    intro l x W1 K hK
    generalize stepAt zs x.val = sv at hK ⊢
    gi_wp2
    exact hK
  case body =>
    rintro l pre x W1 ⟨⟨⟨hs, hc⟩, hsz⟩, hB⟩ _
    have hst : stepB zs x.val = true := (code_out HC.out).2 x.val x.isLt
    have C := impl_strong _ _ _ _ _ mb (backsL zs (memS ls) pre) W1 hst hs
    have HPost : Hid (∀ w', SetIs w' mb (stepBack false zs x.val (backsL zs (memS ls) pre)) → SetIs w' mb (backsL zs (memS ls) (pre ++ [x]))) := fun w' q => by rw [backs_snoc]; exact q
    change Calls _ _ #[.map (some mb), stepAt zs x.val] _ _ at C
    generalize stepAt zs x.val = sv at C ⊢
    gi_wp2_with (gi_at_call 21; refine (CallsIn.inRound l (callsIn_wide.2 C)).mono ?_; rintro e w' ⟨rfl, hS', hG'⟩)
    exact ⟨KeepsFrom.of_grownBy hG' (fun j e => by cases e; omega), ⟨hG'.size, fun k hk hne => hG'.block k (by omega) (by simpa using hne)⟩, ⟨⟨HPost.out _ hS', hG'.cell hc (by simp; omega)⟩, Nat.le_trans hsz hG'.size⟩, hB.grown hG' (by omega) (fun k e => by cases e; omega)⟩
  case done =>
    rintro D ys W1 hD rfl ⟨⟨⟨hs, hc⟩, hsz⟩, hB⟩ hK
    have hDl := (Array.getElem?_eq_some_iff.1 hK).1
    gi_wp2_with (gi_at_call 22; refine (callsIn_wide.2 (impl_rise mb _ _ hs)).mono ?_; rintro e w3 ⟨v, rfl, hO, hB3⟩)
    have hK' : w3.heap[D]? = some (.deferred (some [])) := (hB3.block D hDl).trans hK
    have e1 : listS (backsL zs (memS ls) (downTo sl sl)) = risingTo (backK false zs sl (memS ls) sl) 8 := by
      rw [backs_all zs sl _ sl (Nat.le_refl _)]
      exact listS_names (backK_hi (code_out HC.out).2 (fun i hi => names_hi HN.out hi) sl (Nat.le_refl _))
    rw [e1] at hO
    have hO2 : Go.Proofs.Ytngjodklbkahbaa.ints.Own (w3.putObj D (.deferred none)) W.heap.size v (risingTo (backK false zs sl (memS ls) sl) 8) := ownsRow_putObj (ownsRow_base_a hO hB.size) _ hK' rfl
    have hB4 : Below W.heap.size W (w3.putObj D (.deferred none)) := (hB.trans (hB3.mono hB.size)).trans (belowK_b (w := W) (Nat.le_refl _) w3 D _ _ (by omega) hK' rfl rfl)
    obtain ⟨ra, rc, rfl, hM⟩ := hO2.mine
    refine ⟨by simp, .inl ⟨_, _, rfl, run_takeDeferred hK', ?_⟩⟩
    exact ⟨_, results_tmp2 rfl _ _ _, Or.inl ⟨by rw [HC.out, HN.out]; rfl, ⟨ra, rc, rfl, hM⟩, hB4⟩⟩
  case stop =>
    rintro D c pre W _ _ h _
    exact h.elim
end Go.Proofs.Ytngjodklbkahbaa.walks
