/-
  What the program's layRing answers, at every ring; it makes new memory alone.
-/
import Derived.RangeFuncNested
import Derived.RangeFuncBound
import Derived.RangeFuncCalls
import Derived.RangeFuncLeaves
import Derived.RangeFuncWrites
import Derived.Shelf.Abstract
import Derived.WalkKit
import Derived.OwnWalkIn
import Derived.TacticsInMore
import Derived.LoopNIn
import Derived.LoopIn
import Derived.Test.YthjcgnldlhjjmabProg
import Derived.Test.YthjcgnldlhjjmabLeftMath
import Derived.Test.YthjcgnldlhjjmabInts
import Derived.Test.YthjcgnldlhjjmabOwnMoves
import Derived.Test.YthjcgnldlhjjmabBackInts
namespace Go.Proofs.Ythjcgnldlhjjmab.walks
open Go.RowKit Go.Shelf Go.Proofs.Ythjcgnldlhjjmab.math Go.Proofs.Ythjcgnldlhjjmab.ints
set_option linter.unusedVariables false
set_option maxRecDepth 100000
attribute [local go_sem] Oper.semAt_some

/-- What is free and what is laid, behind the places of a list. -/
def stR (zs : List Int) {len : Nat} (y0 : Int) (pre : List (Fin len)) : Int × List Int := pre.foldl (fun st x => (zs.getD x.val 0, st.2 ++ [zs.getD x.val 0, st.1])) (y0, [y0, 10])
theorem stR_snoc (zs : List Int) {len : Nat} (y0 : Int) (pre : List (Fin len)) (x : Fin len) : stR zs y0 (pre ++ [x]) = (zs.getD x.val 0, (stR zs y0 pre).2 ++ [zs.getD x.val 0, (stR zs y0 pre).1]) := by simp [stR]
theorem stR_all {r zs : List Int} {len : Nat} (hr : r.length = len + 1) (hz : ∀ i, i < len → zs.getD i 0 = r.getD (i + 1) 0) : ∀ c, c ≤ len → stR zs (r.getD 0 0) (downTo len c) = (layC r c, layTo r c)
  | 0, _ => rfl
  | c + 1, hc => by
    have e := downTo_next (len := len) (q := len - (c + 1)) (by omega)
    rw [show len - (len - (c + 1)) = c + 1 by omega, show len - (len - (c + 1) + 1) = c by omega] at e
    rw [e, stR_snoc, stR_all hr hz c (by omega)]
    have e1 : r.length - 1 - c = len - (c + 1) + 1 := by omega
    show (zs.getD (len - (c + 1)) 0, layTo r c ++ [zs.getD (len - (c + 1)) 0, layC r c]) = (r.getD (r.length - 1 - c) 0, layTo r c ++ [r.getD (r.length - 1 - c) 0, layC r c])
    rw [hz _ (by omega), e1]
/-- The loop's memory: the box of what is free, that of what is laid, that of the list, and the laid moves. -/
structure RingI (W X : World) (sl : Value) (f : Int) (m : Nat) (ls : List Int) (v : Value) (W1 : World) : Prop where
  fr : W1.rowIs W.heap.size 3 1 (fun _ => .int .i64 f)
  la : W1.rowIs (W.heap.size + 1 + 1) 26 1 (fun _ => v)
  li : W1.rowIs (W.heap.size + 1 + 1 + 1) 43 1 (fun _ => sl)
  ow : OwnM W1 (W.heap.size + 1) v m ls
  sz : X.heap.size ≤ W1.heap.size
  bel : Below W.heap.size W W1
theorem row_cells {w : World} {g n : Nat} {t : TypeId} {f : Nat → Value} (h : w.rowIs g t n f) : ∃ c, w.heap[g]? = some (.cells c t (0, 0)) := by
  obtain ⟨c, e, _⟩ := h
  exact ⟨c, e⟩
theorem RingI.from {W X W1 W2 : World} {sl v : Value} {f : Int} {m B : Nat} {ls : List Int} {row : Option Nat} (h : RingI W X sl f m ls v W1) (hg : W1.grownBy W2 row) (hr : ∀ r, row = some r → B ≤ r ∧ ∃ o : Obj, W1.heap[r]? = some o ∧ o.isCells = false) (hB : W.heap.size ≤ B) : RingI W X sl f m ls v W2 := by
  have hr2 : ∀ r, row = some r → ∃ o : Obj, W1.heap[r]? = some o ∧ o.isCells = false := fun r e => (hr r e).2
  have key : ∀ {g n : Nat} {t : TypeId} {F : Nat → Value}, W1.rowIs g t n F → W2.rowIs g t n F := fun q => by
    obtain ⟨c, e⟩ := row_cells q
    exact q.of_block (grownBy_keeps_cells hg hr2 e rfl)
  refine ⟨key h.fr, key h.la, key h.li, World.ownsRow.kept h.ow hg ?_, Nat.le_trans h.sz hg.size, h.bel.grown hg h.bel.size (fun r e => Nat.le_trans hB (hr r e).1)⟩
  rcases h.ow.2 with ⟨rfl, _⟩ | ⟨g, c, cur, rfl, _, hb, _⟩
  · exact Or.inl rfl
  · refine Or.inr fun e => ?_
    obtain ⟨o, ho, hc⟩ := hr2 g e.symm
    rw [hb] at ho
    cases ho
    cases hc
theorem own_ne {w : World} {B m g n : Nat} {v : Value} {ls : List Int} {t : TypeId} {f : Nat → Value} (h : OwnM w B v m ls) (q : w.rowIs g t n f) (ht : t ≠ 33) : some g ≠ v.ownBlock := by
  intro e
  rcases h.2 with ⟨rfl, _⟩ | ⟨g', c, cur, rfl, _, hb, _⟩
  · cases e
  · simp [Value.ownBlock] at e
    subst e
    obtain ⟨c', e'⟩ := row_cells q
    rw [hb] at e'
    simp at e'
    exact ht e'.2.symm
theorem own_setRow {w : World} {B m g n i : Nat} {v u : Value} {ls : List Int} {t : TypeId} {f : Nat → Value} (h : OwnM w B v m ls) (q : w.rowIs g t n f) (ht : t ≠ 33) : OwnM (w.setCell ⟨g, i, none⟩ u) B v m ls :=
  World.ownsRow.kept h (row := some g) ⟨rfl, rfl, rfl, by simp [World.setCell], fun k hk hne => Below.heap_setCell _ _ _ _ (by simpa using hne)⟩ (Or.inr (own_ne h q ht).symm)
theorem results_one8 {fn : Func} {t : Tmp} (h : fn.results = #[.tmp t]) (tmps : Array Value) (P : Program) (w : World) : (results fn tmps).run P w = .ok (tmps.getD t undef) w := by
  simp [results, h]
theorem own_form {w : World} {B m : Nat} {v : Value} {ls : List Int} (h : OwnM w B v (m + 1) ls) : ∃ g c, v = .slice (some ⟨g, 0, none⟩) (m + 1) c := by
  rcases h.2 with ⟨_, e⟩ | ⟨g, c, cur, e, _⟩
  · omega
  · exact ⟨g, c, e⟩
theorem own_isCells {w : World} {B m k : Nat} {v : Value} {ls : List Int} {o : Obj} (h : OwnM w B v m ls) (hk : w.heap[k]? = some o) (ho : o.isCells = false) : some k ≠ v.ownBlock := by
  intro e
  rcases h.2 with ⟨rfl, _⟩ | ⟨g, c, cur, rfl, _, hb, _⟩
  · cases e
  · simp [Value.ownBlock] at e
    subst e
    rw [hb] at hk
    cases hk
    cases ho
set_option maxHeartbeats 4000000 in
theorem impl_layring (b off n cap : Nat) (r : List Int) (W : World) (hz : Hid (r.length = n)) (hn2 : 2 ≤ n) (hn10 : n ≤ 10) (hcap : n ≤ cap) (hcm : cap ≤ maxLen) (hb : b < W.heap.size) (h : Hid (∀ i, i < n → W.cell? ⟨b, off + i, none⟩ = some (.int .i64 (r.getD i 0)))) :
    Calls Try.prog 19 #[.slice (some ⟨b, off, none⟩) n cap] W fun e W' => ∃ v, e = .returned v ∧ OwnM W' W.heap.size v (n + 1) (layR r) ∧ Below W.heap.size W W' := by
  unfold maxLen at hcm
  have c0 := h.out 0 (by omega)
  obtain ⟨y0, hy0⟩ : ∃ y0, Hid (r.getD 0 0 = y0) := ⟨_, rfl⟩
  rw [hy0.out, Nat.add_zero] at c0
  have hnI : (2 : Int) ≤ (n : Int) := by omega
  have hcI : (2 : Int) ≤ (cap : Int) := by omega
  have hc1 : ¬ cap = 1 := by omega
  have h1n : 1 ≤ n := by omega
  have hnc : (n : Int) ≤ (cap : Int) := by omega
  refine (callsIn_wide (n := 6)).1 ?_
  have f2 : Fence.wide.fn 26 := trivial
  refine callsIn_of_wp_marks Try.func19 rfl trivial ?_ rfl
  simp only [Try.ntmps19, List.size_toArray, List.length_cons, List.length_nil, Nat.reduceAdd, Nat.reduceSub, Array.replicate_succ, Array.replicate_zero, List.push_toArray, List.append_toArray, List.nil_append, List.cons_append]
  gi_wp2_with (gi_at_call 26; refine (backward_in Fence.wide _ trivial rfl _ _ _ _).mono ?_; rintro e w' ⟨rfl, rfl⟩)
  obtain ⟨zs, hzs⟩ : ∃ zs, Hid (r.drop 1 = zs) := ⟨_, rfl⟩
  have hzl : zs.length = n - 1 := by rw [← hzs.out, List.length_drop, hz.out]
  have HZ : Hid (∀ i, i < n - 1 → zs.getD i 0 = r.getD (i + 1) 0) := fun i hi => by
    rw [← hzs.out]
    simp only [List.getD, List.getElem?_drop]
    rw [Nat.add_comm]
  obtain ⟨sl, hsl⟩ : ∃ sl, Hid ((.slice (some ⟨b, off + 1, none⟩) (n - 1) (cap - 1) : Value) = sl) := ⟨_, rfl⟩
  have bF := (((World.rowIs_alloc W #[.int .i64 y0] 3 (fun _ => .int .i64 y0) (fun i hi => by simp at hi; subst hi; rfl)).alloc (.cells #[.int .i64 y0, .int .i64 10] 33)).alloc (.cells #[.slice (some ⟨W.heap.size + 1, 0, none⟩) 1 1] 26)).alloc (.cells #[.slice (some ⟨b, off + 1, none⟩) (n - 1) (cap - 1)] 43)
  have bL := (World.rowIs_alloc ((W.alloc (.cells #[.int .i64 y0] 3)).alloc (.cells #[.int .i64 y0, .int .i64 10] 33)) #[.slice (some ⟨W.heap.size + 1, 0, none⟩) 1 1] 26 (fun _ => .slice (some ⟨W.heap.size + 1, 0, none⟩) 1 1) (fun i hi => by simp at hi; subst hi; rfl)).alloc (.cells #[.slice (some ⟨b, off + 1, none⟩) (n - 1) (cap - 1)] 43)
  have bI := World.rowIs_alloc (((W.alloc (.cells #[.int .i64 y0] 3)).alloc (.cells #[.int .i64 y0, .int .i64 10] 33)).alloc (.cells #[.slice (some ⟨W.heap.size + 1, 0, none⟩) 1 1] 26)) #[.slice (some ⟨b, off + 1, none⟩) (n - 1) (cap - 1)] 43 (fun _ => .slice (some ⟨b, off + 1, none⟩) (n - 1) (cap - 1)) (fun i hi => by simp at hi; subst hi; rfl)
  have bO : OwnM ((((W.alloc (.cells #[.int .i64 y0] 3)).alloc (.cells #[.int .i64 y0, .int .i64 10] 33)).alloc (.cells #[.slice (some ⟨W.heap.size + 1, 0, none⟩) 1 1] 26)).alloc (.cells #[.slice (some ⟨b, off + 1, none⟩) (n - 1) (cap - 1)] 43)) (W.heap.size + 1) (.slice (some ⟨W.heap.size + 1, 0, none⟩) 1 1) 1 [y0, 10] := by
    have q := World.ownsRow_lit (base := W.heap.size + 1) (e := 33) (size := 2) (W.alloc (.cells #[.int .i64 y0] 3)) #[.int .i64 y0, .int .i64 10] 1 (by simp) (by unfold maxLen; omega) rfl
    simp only [World.size_alloc] at q
    exact World.ownsRow.alloc (World.ownsRow.alloc q _) _
  simp only [World.size_alloc, List.size_toArray, List.length_cons, List.length_nil, Nat.zero_add] at bF bL bI
  have HX3 : Below W.heap.size W ((((W.alloc (.cells #[.int .i64 y0] 3)).alloc (.cells #[.int .i64 y0, .int .i64 10] 33)).alloc (.cells #[.slice (some ⟨W.heap.size + 1, 0, none⟩) 1 1] 26)).alloc (.cells #[.slice (some ⟨b, off + 1, none⟩) (n - 1) (cap - 1)] 43)) := by go_grown
  obtain ⟨X, hX⟩ : ∃ X, Hid (((((W.alloc (.cells #[.int .i64 y0] 3)).alloc (.cells #[.int .i64 y0, .int .i64 10] 33)).alloc (.cells #[.slice (some ⟨W.heap.size + 1, 0, none⟩) 1 1] 26)).alloc (.cells #[.slice (some ⟨b, off + 1, none⟩) (n - 1) (cap - 1)] 43)) = X) := ⟨_, rfl⟩
  have hXs : X.heap.size = W.heap.size + 1 + 1 + 1 + 1 := by rw [← hX.out]; simp
  rw [hX.out] at bF bL bI bO HX3 ⊢
  have hIZ : Ints X (some ⟨b, off + 1, none⟩) zs := Or.inr ⟨b, off + 1, rfl, by omega, fun i hi => by
    rw [HZ.out i (by omega)]
    have := h.out (i + 1) (by omega)
    rw [show off + 1 + i = off + (i + 1) by omega]
    exact (HX3.cell (p := ⟨b, off + (i + 1), none⟩) hb).trans this⟩
  refine wpIn_rangeFunc_ownG rfl (by omega) (gf := 32) (lb := #[.pointer (some ⟨W.heap.size + 1 + 1 + 1, 0, none⟩)]) rfl trivial (enters_of Try.func32 (by kernel_rfl) rfl)
    (backward_stops Fence.wide 5 trivial rfl (by omega) (W.heap.size + 1 + 1 + 1) W.heap.size (some ⟨b, off + 1, none⟩) (n - 1) (cap - 1) zs (by omega) X (by omega) hzl (by simpa using bI.cell (i := 0) (by omega)) hIZ (fun b' o' e _ => by simp only [Option.some.injEq, Addr.mk.injEq] at e; omega)) keepLo_t (keepLo_b (by omega) (by omega)) (Below.refl _ _) (fun _ => rfl)
    (fun pre W1 => ∃ v, RingI W X (.slice (some ⟨b, off + 1, none⟩) (n - 1) (cap - 1)) (stR zs y0 pre).1 (pre.length + 1) (stR zs y0 pre).2 v W1)
    (fun _ _ _ => False)
    (fun s A B row hs hg hr => by obtain ⟨v, hv⟩ := hs; exact ⟨v, hv.from hg hr (by omega)⟩)
    (fun _ _ _ _ _ hs _ _ => hs)
    ⟨_, bF, bL, bI, bO, Nat.le_refl _, HX3⟩
    (fun x => { tmps := #[.slice (some ⟨b, off, none⟩) n cap, undef, .slice none 0 0, .pointer (some ⟨W.heap.size, 0, none⟩), .pointer (some ⟨W.heap.size + 1 + 1, 0, none⟩), undef, .int .i64 (zs.getD x.val 0), .slice (some ⟨b, off, none⟩) n cap, .pointer (some ⟨b, off, none⟩), .int .i64 y0, .int .i64 y0, .agg #[.int .i64 y0, .int .i64 10], .slice (some ⟨W.heap.size + 1, 0, none⟩) 1 1, .slice (some ⟨b, off, none⟩) n cap, .slice (some ⟨b, off + 1, none⟩) (n - 1) (cap - 1), .func (.func 32) #[] #[.pointer (some ⟨W.heap.size + 1 + 1 + 1, 0, none⟩)], .int .i64 (x.val : Int), .int .i64 (zs.getD x.val 0), undef, undef, undef, undef, undef, undef, undef, undef, undef, undef, undef, undef], defers := [] })
    ?assign ?body ?done ?stop
  case assign =>
    intro l x W1 K hK
    generalize zs.getD x.val 0 = sv at hK ⊢
    gi_wp2
    exact hK
  case body =>
    rintro l pre x W1 ⟨v, hI⟩ hpl
    obtain ⟨i0, hi, hz0, hz1, hz2⟩ := move_parts
    obtain ⟨sv, hsv⟩ : ∃ sv, Hid (zs.getD x.val 0 = sv) := ⟨_, rfl⟩
    obtain ⟨fv, hfv⟩ : ∃ fv, Hid ((stR zs y0 pre).1 = fv) := ⟨_, rfl⟩
    obtain ⟨ls, hls⟩ : ∃ ls, Hid ((stR zs y0 pre).2 = ls) := ⟨_, rfl⟩
    rw [hfv.out, hls.out] at hI
    have HS1 : Hid ((stR zs y0 (pre ++ [x])).1 = sv) := by rw [stR_snoc]; exact hsv.out
    have HS2 : Hid ((stR zs y0 (pre ++ [x])).2 = ls ++ [sv, fv]) := by
      rw [stR_snoc]
      show (stR zs y0 pre).2 ++ [zs.getD x.val 0, (stR zs y0 pre).1] = _
      rw [hsv.out, hfv.out, hls.out]
    obtain ⟨g, c, rfl⟩ := own_form hI.ow
    have HI : Hid (RingI W X (.slice (some ⟨b, off + 1, none⟩) (n - 1) (cap - 1)) fv (pre.length + 1) ls (.slice (some ⟨g, 0, none⟩) (pre.length + 1) c) W1) := hI
    have cF := hI.fr.cell (i := 0) (by omega)
    have cL := hI.la.cell (i := 0) (by omega)
    have hFl := hI.fr.lt
    have hLl := hI.la.lt
    have hW1 := hI.sz
    rw [hsv.out]
    clear hI
    gi_wp2_with (first
      | (gi_at_builtin; refine wpListIn_append_own _ rfl _ _ 26 rfl (W.heap.size + 1) 33 i0 (.agg #[.int .i64 0, .int .i64 0]) 2 16 Try.underlying26 hi hz0 hz1 hz2 rfl (by decide) _ (pre.length + 1) (ls.map (Value.int .i64)) rfl (World.ownsRow.alloc HI.out.ow _) ⟨W1.heap.size, 0, none⟩ 1 1 [.int .i64 sv, .int .i64 fv] rfl rfl (new_two _ _ _ _) (two_of _ _) (by unfold maxLen; omega) (by omega) (by simp; omega) ?_)
      | fail)
    intro v2 w2 hown hgrow _
    have hO2 : OwnM w2 (W.heap.size + 1) v2 (pre.length + 1 + 1) (ls ++ [sv, fv]) := by unfold OwnM; simpa using hown
    obtain ⟨g2, c2, rfl⟩ := own_form hO2
    have hs2 := hgrow.size
    simp only [World.size_alloc] at hs2
    have bF2 : w2.rowIs W.heap.size 3 1 (fun _ => .int .i64 fv) := (HI.out.fr.alloc _).of_block (hgrow.block _ (by simp; omega) (own_ne HI.out.ow HI.out.fr (by decide)))
    have bL2 : w2.rowIs (W.heap.size + 1 + 1) 26 1 (fun _ => .slice (some ⟨g, 0, none⟩) (pre.length + 1) c) := (HI.out.la.alloc _).of_block (hgrow.block _ (by simp; omega) (own_ne HI.out.ow HI.out.la (by decide)))
    have bI2 : w2.rowIs (W.heap.size + 1 + 1 + 1) 43 1 (fun _ => .slice (some ⟨b, off + 1, none⟩) (n - 1) (cap - 1)) := (HI.out.li.alloc _).of_block (hgrow.block _ (by have := HI.out.li.lt; simp; omega) (own_ne HI.out.ow HI.out.li (by decide)))
    have HB2 : Hid (Below W.heap.size W w2) := (HI.out.bel.alloc HI.out.bel.size _).grown hgrow (by simp; omega) (fun j hj => by have := (World.ownsRow.lt HI.out.ow j hj).1; omega)
    have HO2 : Hid (OwnM w2 (W.heap.size + 1) (.slice (some ⟨g2, 0, none⟩) (pre.length + 1 + 1) c2) (pre.length + 1 + 1) (ls ++ [sv, fv])) := hO2
    have HCH : Hid (∀ k, k < W1.heap.size → k ≠ W.heap.size → k ≠ W.heap.size + 1 + 1 → some k ≠ (Value.slice (some ⟨g, 0, none⟩) (pre.length + 1) c).ownBlock → ((w2.setCell ⟨W.heap.size + 1 + 1, 0, none⟩ (.slice (some ⟨g2, 0, none⟩) (pre.length + 1 + 1) c2)).setCell ⟨W.heap.size, 0, none⟩ (.int .i64 sv)).heap[k]? = W1.heap[k]?) := by
      show ∀ k, k < W1.heap.size → _
      intro k hk h1 h2 h3
      exact (Below.heap_setCell _ _ _ _ (by simpa using h1)).trans ((Below.heap_setCell _ _ _ _ (by simpa using h2)).trans ((hgrow.block k (by simp; omega) h3).trans (Below.heap_alloc _ _ _ hk)))
    have BF2 : Hid (w2.rowIs W.heap.size 3 1 (fun _ => .int .i64 fv)) := bF2
    have BL2 : Hid (w2.rowIs (W.heap.size + 1 + 1) 26 1 (fun _ => .slice (some ⟨g, 0, none⟩) (pre.length + 1) c)) := bL2
    have BI2 : Hid (w2.rowIs (W.heap.size + 1 + 1 + 1) 43 1 (fun _ => .slice (some ⟨b, off + 1, none⟩) (n - 1) (cap - 1))) := bI2
    have cF2 := bF2.cell (i := 0) (by omega)
    have cL2 := bL2.cell (i := 0) (by omega)
    have zF2 := bF2.frozen 0
    have zL2 := bL2.frozen 0
    have hF2l := bF2.lt
    have hL2l := bL2.lt
    clear hown hgrow hO2 bF2 bL2 bI2 cF cL
    gi_wp2
    refine ⟨⟨?_, fun k o hk ho hoc => ?_⟩, ⟨?_, fun k hk => ?_⟩, .slice (some ⟨g2, 0, none⟩) (pre.length + 1 + 1) c2, ?_⟩
    · simp [World.setCell]; omega
    · have hkl : k < W1.heap.size := (Array.getElem?_eq_some_iff.1 ho).1
      exact (HCH.out k hkl (by omega) (by omega) (own_isCells HI.out.ow ho hoc)).trans ho
    · simp [World.setCell]; omega
    · rcases hk with hk | hk
      · refine HCH.out k (by omega) (by omega) (by omega) (fun e => ?_)
        have := (World.ownsRow.lt HI.out.ow k e.symm).1
        omega
      · subst hk
        exact HCH.out _ (by have := HI.out.li.lt; omega) (by omega) (by omega) (own_ne HI.out.ow HI.out.li (by decide))
    · rw [HS1.out, HS2.out, List.length_append]
      refine ⟨?_, ?_, ?_, ?_, ?_, ?_⟩
      · exact World.rowIs.congr ((BF2.out.setOther (by show W.heap.size ≠ W.heap.size + 1 + 1; omega) _).set 0 (.int .i64 sv)) (fun i hi => by
          have : i = 0 := by omega
          simp [this])
      · exact World.rowIs.congr ((BL2.out.set 0 (.slice (some ⟨g2, 0, none⟩) (pre.length + 1 + 1) c2)).setOther (by show W.heap.size + 1 + 1 ≠ W.heap.size; omega) _) (fun i hi => by
          have : i = 0 := by omega
          simp [this])
      · exact (BI2.out.setOther (by show W.heap.size + 1 + 1 + 1 ≠ W.heap.size + 1 + 1; omega) _).setOther (by show W.heap.size + 1 + 1 + 1 ≠ W.heap.size; omega) _
      · exact own_setRow (own_setRow HO2.out BL2.out (by decide)) (BF2.out.setOther (by show W.heap.size ≠ W.heap.size + 1 + 1; omega) _) (by decide)
      · simp [World.setCell]; omega
      · exact (HB2.out.setCell (by show W.heap.size ≤ W.heap.size + 1 + 1; omega) _).setCell (Nat.le_refl _) _
  case done =>
    rintro D ys W1 hD rfl ⟨v, hI⟩ hK
    obtain ⟨i0, hi, hz0, hz1, hz2⟩ := move_parts
    have hall := stR_all (r := r) (zs := zs) (len := n - 1) (by rw [hz.out]; omega) HZ.out (n - 1) (Nat.le_refl _)
    rw [hy0.out] at hall
    rw [hall] at hI
    obtain ⟨m, hm⟩ : ∃ m, Hid ((downTo (n - 1) (n - 1)).length = m) := ⟨_, rfl⟩
    rw [hm.out] at hI
    have hmn : m + 1 = n := by
      have q := hI.ow.len
      rw [layTo_len] at q
      omega
    obtain ⟨fv, hfv⟩ : ∃ fv, Hid (layC r (n - 1) = fv) := ⟨_, rfl⟩
    obtain ⟨ls, hls⟩ : ∃ ls, Hid (layTo r (n - 1) = ls) := ⟨_, rfl⟩
    have HLR : Hid (layR r = ls ++ [10, fv]) := by
      show layR r = _
      unfold layR
      rw [hz.out, hls.out, hfv.out]
    replace hI : RingI W X (.slice (some ⟨b, off + 1, none⟩) (n - 1) (cap - 1)) fv (m + 1) ls v W1 := by rw [← hfv.out, ← hls.out]; exact hI
    obtain ⟨g, c, rfl⟩ := own_form hI.ow
    have HI : Hid (RingI W X (.slice (some ⟨b, off + 1, none⟩) (n - 1) (cap - 1)) fv (m + 1) ls (.slice (some ⟨g, 0, none⟩) (m + 1) c) W1) := hI
    have cF := hI.fr.cell (i := 0) (by omega)
    have cL := hI.la.cell (i := 0) (by omega)
    have hW1 := hI.sz
    have HMN : Hid (m + 1 = n) := hmn
    have hm10 : m ≤ 10 := by omega
    have HK : Hid (W1.heap[D]? = some (.deferred (some []))) := hK
    clear hI hK hall hmn
    gi_wp2_with (first
      | (gi_at_builtin; refine wpListIn_append_own _ rfl _ _ 26 rfl (W.heap.size + 1) 33 i0 (.agg #[.int .i64 0, .int .i64 0]) 2 16 Try.underlying26 hi hz0 hz1 hz2 rfl (by decide) _ (m + 1) (ls.map (Value.int .i64)) rfl (World.ownsRow.alloc HI.out.ow _) ⟨W1.heap.size, 0, none⟩ 1 1 [.int .i64 10, .int .i64 fv] rfl rfl (new_two _ _ _ _) (two_of _ _) (by unfold maxLen; omega) (by omega) (by simp; omega) ?_)
      | fail)
    intro v2 w2 hown hgrow _
    have HO2 : Hid (OwnM w2 (W.heap.size + 1) v2 (m + 1 + 1) (ls ++ [10, fv])) := by show OwnM _ _ _ _ _; unfold OwnM; simpa using hown
    have HB2 : Hid (Below W.heap.size W w2) := (HI.out.bel.alloc HI.out.bel.size _).grown hgrow (by simp; omega) (fun j hj => by have := (World.ownsRow.lt HI.out.ow j hj).1; omega)
    have hDl : D < W1.heap.size := (Array.getElem?_eq_some_iff.1 HK.out).1
    have HK2 : Hid (w2.heap[D]? = some (.deferred (some []))) := (hgrow.block D (by simp; omega) (own_isCells HI.out.ow HK.out rfl)).trans ((Below.heap_alloc _ _ _ hDl).trans HK.out)
    have hs2 : W1.heap.size ≤ w2.heap.size := by have := hgrow.size; simp only [World.size_alloc] at this; omega
    clear hown hgrow cF cL
    gi_wp2
    refine ⟨by simp, .inl ⟨_, _, rfl, run_takeDeferred HK2.out, ?_⟩⟩
    have hG := grownBy_putObj' w2 D (.deferred none)
    refine ⟨_, results_one8 rfl _ _ _, v2, rfl, ?_, HB2.out.grown hG (by omega) (fun r e => by cases e; omega)⟩
    rw [HLR.out, ← HMN.out]
    exact OwnM.low (World.ownsRow.kept HO2.out hG (Or.inr (own_isCells HO2.out HK2.out rfl).symm)) (by omega)
  case stop =>
    rintro D c pre W _ _ h _
    exact h.elim
end Go.Proofs.Ythjcgnldlhjjmab.walks
