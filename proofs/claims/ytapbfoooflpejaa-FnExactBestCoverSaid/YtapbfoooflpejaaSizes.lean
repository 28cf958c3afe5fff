/-
  What the program's treesUnder, treesUnderInPattern and sizesOf answer, at every list.
-/
import Derived.RangeFuncNested
import Derived.RangeFuncBound
import Derived.RangeFuncCalls
import Derived.RangeFuncLeaves
import Derived.RangeFuncWrites
import Derived.Shelf.Abstract
import Derived.WalkKit
import Derived.OwnWalkIn
import Derived.TacticsInMore
import Derived.LoopNIn
import Derived.LoopIn
import Derived.Deep.RegionHeld3
import Derived.BigRegion
import Derived.Test.YtapbfoooflpejaaProg
import Derived.Test.YtapbfoooflpejaaTreeMath
import Derived.Test.YtapbfoooflpejaaSizeMath
import Derived.Test.YtapbfoooflpejaaTreeBase
import Derived.Test.YtapbfoooflpejaaInts
import Derived.Test.YtapbfoooflpejaaBackInts
namespace Go.Proofs.Ytapbfoooflpejaa.walks
open Go.RowKit Go.Shelf Go.Proofs.Ytapbfoooflpejaa.math Go.Proofs.Ytapbfoooflpejaa.ints
set_option linter.unusedVariables false
set_option maxRecDepth 100000

/-- What treesUnder answers. -/
def undV (o : Option Nat) : Value := match o with
  | none => .tuple #[.int .i64 0, .bool false]
  | some m => .tuple #[.int .i64 (m : Int), .bool true]
theorem impl_under0 (k : Int) (W : World) : Calls Try.prog 46 #[.int .i64 k] W fun e W' => e = .returned (undV (arK false k)) ∧ W' = W := by
  unfold arK
  by_cases e0 : k = 0
  · subst e0
    go_enter Try.func46, Try.ntmps46
    go_wp2
    go_ret2
    exact ⟨rfl, rfl⟩
  rw [if_neg e0]
  by_cases e : k = 1 ∨ k = 2
  · rw [if_pos e]
    rcases e with rfl | rfl
    all_goals
      go_enter Try.func46, Try.ntmps46
      go_wp2
      go_ret2
      exact ⟨rfl, rfl⟩
  rw [if_neg e]
  by_cases e5 : k = 5
  · subst e5
    go_enter Try.func46, Try.ntmps46
    go_wp2
    go_ret2
    exact ⟨rfl, rfl⟩
  rw [if_neg e5]
  by_cases e3 : k = 3 ∨ k = 4
  · rw [if_pos e3]
    rcases e3 with rfl | rfl
    all_goals
      go_enter Try.func46, Try.ntmps46
      go_wp2
      go_ret2
      exact ⟨rfl, rfl⟩
  rw [if_neg e3]
  have d1 : (k == 1) = false := by simp; omega
  have d2 : (k == 2) = false := by simp; omega
  have d3 : (k == 3) = false := by simp; omega
  have d4 : (k == 4) = false := by simp; omega
  have d5 : (k == 5) = false := by simp; omega
  have n1 : ¬ k = 1 := by omega
  have n2 : ¬ k = 2 := by omega
  have n3 : ¬ k = 3 := by omega
  have n4 : ¬ k = 4 := by omega
  clear e e3
  go_enter Try.func46, Try.ntmps46
  go_wp2
  go_ret2
  exact ⟨rfl, rfl⟩
/-- The function that tells how many trees a kind is of. -/
def undF (any : Bool) : Nat := if any then 51 else 46
theorem ar_any {k : Int} (h : k ≠ 0) : arK true k = arK false k := by unfold arK; rw [if_neg h, if_neg h]
theorem undV_form (o : Option Nat) : ∃ m b, undV o = .tuple #[.int .i64 m, .bool b] := by
  cases o with
  | none => exact ⟨_, _, rfl⟩
  | some m => exact ⟨_, _, rfl⟩
theorem impl_under1 (k : Int) (W : World) : Calls Try.prog 51 #[.int .i64 k] W fun e W' => e = .returned (undV (arK true k)) ∧ W' = W := by
  by_cases e0 : k = 0
  · subst e0
    go_enter Try.func51, Try.ntmps51
    go_wp2
    go_ret2
    exact ⟨rfl, rfl⟩
  rw [ar_any e0]
  have d0 : (k == 0) = false := by simpa using e0
  obtain ⟨m, b, hv⟩ := undV_form (arK false k)
  rw [hv]
  go_enter Try.func51, Try.ntmps51
  go_wp2_with (go_at_call 46; refine (impl_under0 _ _).mono ?_; rw [hv]; rintro e w' ⟨rfl, rfl⟩)
  go_ret2
  exact ⟨rfl, rfl⟩
theorem impl_under (any : Bool) (k : Int) (W : World) : Calls Try.prog (undF any) #[.int .i64 k] W fun e W' => e = .returned (undV (arK any k)) ∧ W' = W := by
  cases any
  · exact impl_under0 k W
  · exact impl_under1 k W
attribute [local go_sem] Oper.semAt_some
/-- The loop's memory. -/
structure SizI (W X : World) (sl fv : Value) (len : Nat) (s : Nat → Nat) (W1 : World) : Prop where
  kb : W1.rowIs W.heap.size 22 1 (fun _ => sl)
  ub : W1.rowIs (W.heap.size + 1) 64 1 (fun _ => fv)
  r0 : W1.rowIs (W.heap.size + 1 + 1) 22 1 (fun _ => .slice none 0 0)
  r1 : W1.rowIs (W.heap.size + 1 + 1 + 1) 4 1 (fun _ => .bool false)
  sz : W1.rowIs (W.heap.size + 1 + 1 + 1 + 1) 3 len (fun i => .int .i64 (s i : Int))
  sb : W1.rowIs (W.heap.size + 1 + 1 + 1 + 1 + 1) 22 1 (fun _ => .slice (some ⟨W.heap.size + 1 + 1 + 1 + 1, 0, none⟩) len len)
  bb : W1.rowIs (W.heap.size + 1 + 1 + 1 + 1 + 1 + 1) 22 1 (fun _ => sl)
  size : X.heap.size ≤ W1.heap.size
  bel : Below W.heap.size W W1
theorem row_cells9 {w : World} {g n : Nat} {t : TypeId} {f : Nat → Value} (h : w.rowIs g t n f) : ∃ c, w.heap[g]? = some (.cells c t (0, 0)) := by
  obtain ⟨c, e, _⟩ := h
  exact ⟨c, e⟩
theorem row_from {A B : World} {g n : Nat} {t : TypeId} {f : Nat → Value} {row : Option Nat} (q : A.rowIs g t n f) (hg : A.grownBy B row) (hr : ∀ r, row = some r → ∃ o : Obj, A.heap[r]? = some o ∧ o.isCells = false) : B.rowIs g t n f := by
  obtain ⟨c, e⟩ := row_cells9 q
  exact q.of_block (grownBy_keeps_cells hg hr e rfl)
theorem SizI.from {W X W1 W2 : World} {sl fv : Value} {len B : Nat} {s : Nat → Nat} {row : Option Nat} (h : SizI W X sl fv len s W1) (hg : W1.grownBy W2 row) (hr : ∀ r, row = some r → B ≤ r ∧ ∃ o : Obj, W1.heap[r]? = some o ∧ o.isCells = false) (hB : W.heap.size ≤ B) : SizI W X sl fv len s W2 := by
  have hr2 : ∀ r, row = some r → ∃ o : Obj, W1.heap[r]? = some o ∧ o.isCells = false := fun r e => (hr r e).2
  exact ⟨row_from h.kb hg hr2, row_from h.ub hg hr2, row_from h.r0 hg hr2, row_from h.r1 hg hr2, row_from h.sz hg hr2, row_from h.sb hg hr2, row_from h.bb hg hr2, Nat.le_trans h.size hg.size, h.bel.grown hg h.bel.size (fun r e => Nat.le_trans hB (hr r e).1)⟩
/-- What a call of sizesOf answers. -/
def SizeAns (any : Bool) (zs : List Int) (W : World) (e : Ending) (W' : World) : Prop := ∃ v, e = .returned (.tuple #[v, .bool (wholeB any zs)]) ∧ (∃ a l c, v = .slice a l c) ∧ (wholeB any zs = true → ∃ g, v = .slice (some ⟨g, 0, none⟩) zs.length zs.length ∧ W.heap.size ≤ g ∧ W'.rowIs g 3 zs.length (fun i => .int .i64 (szT any zs i : Int))) ∧ Below W.heap.size W W'
theorem one_load {P : Program} {w : World} {g : Nat} {t : TypeId} {v : Value} {d : TypeDesc} (hu : P.underlying t = some d) (hd : (match d with | .struct _ | .array _ _ => true | _ => false) = false) (hc : w.cell? ⟨g, 0, none⟩ = some v) : (loadVar t ⟨g, 0, none⟩).run P w = .ok v w := by
  have hagg : (isAgg t).run P w = .ok false w := by
    unfold isAgg
    rw [Sem.run_bind, run_underlying hu w]
    cases d <;> simp_all
  simp [loadVar, Sem.run_bind, hagg, go_sem, hc]
theorem results_two9 {P : Program} {fn : Func} {p q : Tmp} {t u : TypeId} (h : fn.results = #[.cell p t, .cell q u]) (tmps : Array Value) (w : World) (g g' : Nat) (x y : Value) (hp : tmps.getD p undef = .pointer (some ⟨g, 0, none⟩)) (hq : tmps.getD q undef = .pointer (some ⟨g', 0, none⟩))
    (hx : (loadVar t ⟨g, 0, none⟩).run P w = .ok x w) (hy : (loadVar u ⟨g', 0, none⟩).run P w = .ok y w) : (results fn tmps).run P w = .ok (.tuple #[x, y]) w := by
  simp only [Array.getD_eq_getD_getElem?] at hp hq
  simp [results, h, hp, hq, asAddr, hx, hy]
set_option maxHeartbeats 4000000 in
theorem impl_sizes0 (a : Option Addr) (len cap : Nat) (zs : List Int) (W : World) (hz : Hid (zs.length = len)) (hlen : len ≤ 1048576) (h : Hid (Ints W a zs)) (hab : Hid (∀ b o, a = some ⟨b, o, none⟩ → 0 < len → b < W.heap.size)) :
    Calls Try.prog 45 #[.slice a len cap, .func (.func 46) #[] #[]] W fun e W' => SizeAns false zs W e W' := by
  have hmk := run_make_row' (P := Try.prog) 22 3 (.int .i64 0) 8 Try.underlying22 row_info rfl .i64 .i64 len (by omega) (by omega)
  refine (callsIn_wide (n := 6)).1 ?_
  have f2 : Fence.wide.fn 39 := trivial
  refine callsIn_of_wp_marks Try.func45 rfl trivial ?_ rfl
  simp only [Try.ntmps45, List.size_toArray, List.length_cons, List.length_nil, Nat.reduceAdd, Nat.reduceSub, Array.replicate_succ, Array.replicate_zero, List.push_toArray, List.append_toArray, List.nil_append, List.cons_append]
  gi_wp2_with (gi_at_call 39; refine (backward_in Fence.wide _ trivial rfl _ _ _ _).mono ?_; rintro e w' ⟨rfl, rfl⟩)
  have HX : SizI W (((((((W.alloc (.cells #[.slice a len cap] 22)).alloc (.cells #[.func (.func 46) #[] #[]] 64)).alloc (.cells #[.slice none 0 0] 22)).alloc (.cells #[.bool false] 4)).alloc (.cells (madeCells #[.int .i64 0] len) 3)).alloc (.cells #[.slice (some ⟨W.heap.size + 1 + 1 + 1 + 1, 0, none⟩) len len] 22)).alloc (.cells #[.slice a len cap] 22)) (.slice a len cap) (.func (.func 46) #[] #[]) len (fun _ => 0) (((((((W.alloc (.cells #[.slice a len cap] 22)).alloc (.cells #[.func (.func 46) #[] #[]] 64)).alloc (.cells #[.slice none 0 0] 22)).alloc (.cells #[.bool false] 4)).alloc (.cells (madeCells #[.int .i64 0] len) 3)).alloc (.cells #[.slice (some ⟨W.heap.size + 1 + 1 + 1 + 1, 0, none⟩) len len] 22)).alloc (.cells #[.slice a len cap] 22)) := by
    have one : ∀ (w : World) (v : Value) (t : TypeId), (w.alloc (.cells #[v] t)).rowIs w.heap.size t 1 (fun _ => v) := fun w v t => World.rowIs_alloc w #[v] t (fun _ => v) (fun i hi => by simp at hi; subst hi; rfl)
    have b0 := ((((((one W (.slice a len cap) 22).alloc (.cells #[.func (.func 46) #[] #[]] 64)).alloc (.cells #[.slice none 0 0] 22)).alloc (.cells #[.bool false] 4)).alloc (.cells (madeCells #[.int .i64 0] len) 3)).alloc (.cells #[.slice (some ⟨W.heap.size + 1 + 1 + 1 + 1, 0, none⟩) len len] 22)).alloc (.cells #[.slice a len cap] 22)
    have b1 := (((((one (W.alloc (.cells #[.slice a len cap] 22)) (.func (.func 46) #[] #[]) 64).alloc (.cells #[.slice none 0 0] 22)).alloc (.cells #[.bool false] 4)).alloc (.cells (madeCells #[.int .i64 0] len) 3)).alloc (.cells #[.slice (some ⟨W.heap.size + 1 + 1 + 1 + 1, 0, none⟩) len len] 22)).alloc (.cells #[.slice a len cap] 22)
    have b2 := ((((one ((W.alloc (.cells #[.slice a len cap] 22)).alloc (.cells #[.func (.func 46) #[] #[]] 64)) (.slice none 0 0) 22).alloc (.cells #[.bool false] 4)).alloc (.cells (madeCells #[.int .i64 0] len) 3)).alloc (.cells #[.slice (some ⟨W.heap.size + 1 + 1 + 1 + 1, 0, none⟩) len len] 22)).alloc (.cells #[.slice a len cap] 22)
    have b3 := (((one (((W.alloc (.cells #[.slice a len cap] 22)).alloc (.cells #[.func (.func 46) #[] #[]] 64)).alloc (.cells #[.slice none 0 0] 22)) (.bool false) 4).alloc (.cells (madeCells #[.int .i64 0] len) 3)).alloc (.cells #[.slice (some ⟨W.heap.size + 1 + 1 + 1 + 1, 0, none⟩) len len] 22)).alloc (.cells #[.slice a len cap] 22)
    have b4 := ((World.rowIs_made ((((W.alloc (.cells #[.slice a len cap] 22)).alloc (.cells #[.func (.func 46) #[] #[]] 64)).alloc (.cells #[.slice none 0 0] 22)).alloc (.cells #[.bool false] 4)) (.int .i64 0) len 3).alloc (.cells #[.slice (some ⟨W.heap.size + 1 + 1 + 1 + 1, 0, none⟩) len len] 22)).alloc (.cells #[.slice a len cap] 22)
    have b5 := (one (((((W.alloc (.cells #[.slice a len cap] 22)).alloc (.cells #[.func (.func 46) #[] #[]] 64)).alloc (.cells #[.slice none 0 0] 22)).alloc (.cells #[.bool false] 4)).alloc (.cells (madeCells #[.int .i64 0] len) 3)) (.slice (some ⟨W.heap.size + 1 + 1 + 1 + 1, 0, none⟩) len len) 22).alloc (.cells #[.slice a len cap] 22)
    have b6 := one ((((((W.alloc (.cells #[.slice a len cap] 22)).alloc (.cells #[.func (.func 46) #[] #[]] 64)).alloc (.cells #[.slice none 0 0] 22)).alloc (.cells #[.bool false] 4)).alloc (.cells (madeCells #[.int .i64 0] len) 3)).alloc (.cells #[.slice (some ⟨W.heap.size + 1 + 1 + 1 + 1, 0, none⟩) len len] 22)) (.slice a len cap) 22
    simp only [World.size_alloc] at b0 b1 b2 b3 b4 b5 b6
    exact ⟨b0, b1, b2, b3, b4.congr (fun i hi => rfl), b5, b6, Nat.le_refl _, by go_grown⟩
  obtain ⟨X, hX⟩ : ∃ X, Hid (((((((W.alloc (.cells #[.slice a len cap] 22)).alloc (.cells #[.func (.func 46) #[] #[]] 64)).alloc (.cells #[.slice none 0 0] 22)).alloc (.cells #[.bool false] 4)).alloc (.cells (madeCells #[.int .i64 0] len) 3)).alloc (.cells #[.slice (some ⟨W.heap.size + 1 + 1 + 1 + 1, 0, none⟩) len len] 22)).alloc (.cells #[.slice a len cap] 22) = X) := ⟨_, rfl⟩
  have hXs : X.heap.size = W.heap.size + 1 + 1 + 1 + 1 + 1 + 1 + 1 := by rw [← hX.out]; simp
  rw [hX.out] at HX ⊢
  clear hmk
  have hIZ : Ints X a zs := h.out.kept HX.bel
  refine wpIn_rangeFunc_ownG rfl (by omega) (gf := 48) (lb := #[.pointer (some ⟨W.heap.size + 1 + 1 + 1 + 1 + 1 + 1, 0, none⟩)]) rfl trivial (enters_of Try.func48 (by kernel_rfl) rfl)
    (backward_stops Fence.wide 5 trivial rfl (by omega) (W.heap.size + 1 + 1 + 1 + 1 + 1 + 1) W.heap.size a len cap zs (by omega) X (by omega) hz.out (by simpa using HX.bb.cell (i := 0) (by omega)) hIZ hab.out) keepLo_t (keepLo_b (by omega) (by omega)) (Below.refl _ _) (fun _ => rfl)
    (fun pre W1 => ∃ s, foldZ false zs pre = some s ∧ InZ len s ∧ SizI W X (.slice a len cap) (.func (.func 46) #[] #[]) len s W1)
    (fun c pre W1 => c = .ret ∧ foldZ false zs pre = none ∧ W1.rowIs (W.heap.size + 1 + 1) 22 1 (fun _ => .slice none 0 0) ∧ W1.rowIs (W.heap.size + 1 + 1 + 1) 4 1 (fun _ => .bool false) ∧ X.heap.size ≤ W1.heap.size ∧ Below W.heap.size W W1)
    (fun s A B row hs hg hr => by obtain ⟨v, h1, h2, hv⟩ := hs; exact ⟨v, h1, h2, hv.from hg hr (by omega)⟩)
    (fun c s A B row hs hg hr => by
      obtain ⟨h1, h2, h3, h4, h5, h6⟩ := hs
      exact ⟨h1, h2, row_from h3 hg (fun r e => (hr r e).2), row_from h4 hg (fun r e => (hr r e).2), Nat.le_trans h5 hg.size, h6.grown hg h6.size (fun r e => Nat.le_trans (by omega) (hr r e).1)⟩)
    ⟨_, rfl, fun i hi => by show i + 0 ≤ len; omega, HX⟩
    (fun x => { tmps := #[Value.slice a len cap, .func (.func 46) #[] #[], .pointer (some ⟨W.heap.size, 0, none⟩), .pointer (some ⟨W.heap.size + 1, 0, none⟩), .pointer (some ⟨W.heap.size + 1 + 1, 0, none⟩), .pointer (some ⟨W.heap.size + 1 + 1 + 1, 0, none⟩), .pointer (some ⟨W.heap.size + 1 + 1 + 1 + 1 + 1, 0, none⟩), .int .i64 (x.val : Int), .int .i64 (zs.getD x.val 0), undef, undef, undef, .slice a len cap, .int .i64 (len : Int), .slice (some ⟨W.heap.size + 1 + 1 + 1 + 1, 0, none⟩) len len, .slice a len cap, .func (.func 48) #[] #[.pointer (some ⟨W.heap.size + 1 + 1 + 1 + 1 + 1 + 1, 0, none⟩)], .int .i64 (x.val : Int), .int .i64 (zs.getD x.val 0), undef, undef, undef, undef, undef, undef, undef, undef, undef, undef, undef, undef, undef, undef, undef, undef, undef, undef, undef, undef, undef, undef, undef, undef, undef, undef, undef, undef, undef, undef, undef, undef, undef, undef, undef, undef, undef, undef, undef, undef, undef, undef], defers := [] })
    ?assign ?body ?done ?stop
  case assign =>
    intro l x W1 K hK
    generalize zs.getD x.val 0 = sv at hK ⊢
    gi_wp2
    exact hK
  case body =>
    rintro l pre x W1 ⟨s, hs, hin, hI⟩ hpl
    obtain ⟨sv, hsv⟩ : ∃ sv, Hid (zs.getD x.val 0 = sv) := ⟨_, rfl⟩
    have HI : Hid (SizI W X (.slice a len cap) (.func (.func 46) #[] #[]) len s W1) := hI
    have cK := hI.kb.cell (i := 0) (by omega)
    have cU := hI.ub.cell (i := 0) (by omega)
    have c0 := hI.r0.cell (i := 0) (by omega)
    have c1 := hI.r1.cell (i := 0) (by omega)
    have z0 := hI.r0.frozen 0
    have z1 := hI.r1.frozen 0
    have cS := hI.sb.cell (i := 0) (by omega)
    have hW1 := hI.size
    have hxl : x.val < len := x.isLt
    have hxI : (x.val : Int) < (len : Int) := by omega
    have HST : Hid (foldZ false zs (pre ++ [x]) = (arK false sv).bind fun m => (goZ s len m (x.val + 1)).map fun e => updZ s x.val (e - x.val)) := by
      show _ = _
      rw [fold_snoc_some hs]
      unfold stepZ
      rw [hsv.out, hz.out]
    rw [hsv.out]
    clear hI
    cases hA : arK false sv with
    | none =>
      have HF : Hid (foldZ false zs (pre ++ [x]) = none) := by show _ = _; rw [HST.out, hA]; rfl
      gi_wp2_with fail
      refine ⟨trivial, (CallsIn.inRound l (callsIn_wide.2 (impl_under0 _ _))).mono ?_⟩
      rw [hA]
      rintro e w' ⟨rfl, hw⟩
      rw [hw]
      clear hw w'
      simp only [undV]
      gi_wp2
      refine ⟨⟨by simp [World.setCell], fun q o hq ho hoc => ?_⟩, rfl, HF.out, ?_, ?_, ?_, ?_⟩
      · exact (Below.heap_setCell _ _ _ _ (by simp; omega)).trans ((Below.heap_setCell _ _ _ _ (by simp; omega)).trans ho)
      · exact World.rowIs.congr ((HI.out.r0.set 0 (.slice none 0 0)).setOther (by show W.heap.size + 1 + 1 ≠ W.heap.size + 1 + 1 + 1; omega) _) (fun i hi => by simp)
      · exact World.rowIs.congr ((HI.out.r1.setOther (by show W.heap.size + 1 + 1 + 1 ≠ W.heap.size + 1 + 1; omega) _).set 0 (.bool false)) (fun i hi => by simp)
      · simpa [World.setCell] using HI.out.size
      · exact (HI.out.bel.setCell (by show W.heap.size ≤ W.heap.size + 1 + 1; omega) _).setCell (by show W.heap.size ≤ W.heap.size + 1 + 1 + 1; omega) _
    | some m =>
      have hm2 := (arK_some hA).2.1
      have hm2I : (m : Int) ≤ 2 := by omega
      have HM : Hid (undV (some m) = .tuple #[.int .i64 (m : Int), .bool true]) := rfl
      gi_wp2_with fail
      refine ⟨trivial, (CallsIn.inRound l (callsIn_wide.2 (impl_under0 _ _))).mono ?_⟩
      rw [hA, HM.out]
      rintro e w' ⟨rfl, hw⟩
      rw [hw]
      clear hw w'
      gi_wp2
      gi_loopw [11, 30] (fun ve vj wr => ∃ e j : Nat, j ≤ m ∧ x.val < e ∧ e ≤ len ∧ ve = .int .i64 (e : Int) ∧ vj = .int .i64 (j : Int) ∧ Hid (goZ s len m (x.val + 1) = goZ s len (m - j) e) ∧ wr = W1) (fun _ vj _ => m - (intOf vj).toNat)
      case atStart => exact ⟨x.val + 1, 0, Nat.zero_le _, by omega, by omega, by go_num, rfl, rfl, rfl⟩
      case round =>
        obtain ⟨e, j, hj, hxe, hel, rfl, rfl, HG, hwr⟩ := hrel
        rw [hwr]
        clear hwr wr
        by_cases hjm : j < m
        · by_cases hee : e = len
          · have HF : Hid (foldZ false zs (pre ++ [x]) = none) := by
              show _ = _
              rw [HST.out, hA, Option.bind_some, HG.out, show m - j = (m - j - 1) + 1 by omega, hee]
              simp [goZ]
            have heI : (e : Int) = (len : Int) := by omega
            gi_wp2
            refine ⟨⟨by simp [World.setCell], fun q o hq ho hoc => ?_⟩, rfl, HF.out, ?_, ?_, ?_, ?_⟩
            · exact (Below.heap_setCell _ _ _ _ (by simp; omega)).trans ((Below.heap_setCell _ _ _ _ (by simp; omega)).trans ho)
            · exact World.rowIs.congr ((HI.out.r0.set 0 (.slice none 0 0)).setOther (by show W.heap.size + 1 + 1 ≠ W.heap.size + 1 + 1 + 1; omega) _) (fun i hi => by simp)
            · exact World.rowIs.congr ((HI.out.r1.setOther (by show W.heap.size + 1 + 1 + 1 ≠ W.heap.size + 1 + 1; omega) _).set 0 (.bool false)) (fun i hi => by simp)
            · simpa [World.setCell] using HI.out.size
            · exact (HI.out.bel.setCell (by show W.heap.size ≤ W.heap.size + 1 + 1; omega) _).setCell (by show W.heap.size ≤ W.heap.size + 1 + 1 + 1; omega) _
          · have helt : e < len := by omega
            have heltI : (e : Int) < (len : Int) := by omega
            have cE := HI.out.sz.cell helt
            have d1 : ((e : Int) == (len : Int)) = false := by simp; omega
            have d2 : decide ((e : Int) = (len : Int)) = false := decide_eq_false (by omega)
            have hes := hin e helt
            have HG' : Hid (goZ s len m (x.val + 1) = goZ s len (m - (j + 1)) (e + s e)) := by
              show _ = _
              rw [HG.out, show m - j = (m - (j + 1)) + 1 by omega]
              conv => lhs; unfold goZ
              rw [if_neg hee]
            gi_wp2
            go_roundw
            case rel => exact ⟨e + s e, j + 1, by omega, by omega, by omega, by go_num, by go_num, HG', by first | rfl | trivial⟩
            case measure => simp [intOf]; omega
        · have HF : Hid (foldZ false zs (pre ++ [x]) = some (updZ s x.val (e - x.val))) := by
            show _ = _
            rw [HST.out, hA, Option.bind_some, HG.out, show m - j = 0 by omega]
            rfl
          obtain ⟨d, hd⟩ : ∃ d : Nat, Hid (e = x.val + d) := ⟨e - x.val, by show e = _; omega⟩
          have hdI : (e : Int) - (x.val : Int) = (d : Int) := by have := hd.out; omega
          have cX := HI.out.sz.cell hxl
          have zX := HI.out.sz.frozen x.val
          gi_wp2
          refine ⟨⟨by simp [World.setCell], fun q o hq ho hoc => ?_⟩, ⟨by simp [World.setCell], fun q hq => ?_⟩, _, HF.out, ?_, ?_⟩
          · exact (Below.heap_setCell _ _ _ _ (by simp; omega)).trans ho
          · exact Below.heap_setCell _ _ _ _ (by simp; omega)
          · intro i hi
            by_cases q : i = x.val
            · subst q; rw [updZ_same]; omega
            · rw [updZ_other _ _ q]; exact hin i hi
          · refine ⟨HI.out.kb.setOther (by show W.heap.size ≠ W.heap.size + 1 + 1 + 1 + 1; omega) _, HI.out.ub.setOther (by show W.heap.size + 1 ≠ W.heap.size + 1 + 1 + 1 + 1; omega) _, HI.out.r0.setOther (by show W.heap.size + 1 + 1 ≠ W.heap.size + 1 + 1 + 1 + 1; omega) _, HI.out.r1.setOther (by show W.heap.size + 1 + 1 + 1 ≠ W.heap.size + 1 + 1 + 1 + 1; omega) _, ?_, HI.out.sb.setOther (by show W.heap.size + 1 + 1 + 1 + 1 + 1 ≠ W.heap.size + 1 + 1 + 1 + 1; omega) _, HI.out.bb.setOther (by show W.heap.size + 1 + 1 + 1 + 1 + 1 + 1 ≠ W.heap.size + 1 + 1 + 1 + 1; omega) _, by simpa [World.setCell] using HI.out.size, HI.out.bel.setCell (by show W.heap.size ≤ W.heap.size + 1 + 1 + 1 + 1; omega) _⟩
            refine World.rowIs.congr (HI.out.sz.set x.val (.int .i64 (d : Int))) (fun i hi => ?_)
            by_cases q : i = x.val
            · subst q; rw [updZ_same, if_pos rfl]; have := hd.out; congr 1; omega
            · rw [updZ_other _ _ q, if_neg q]
  case done =>
    rintro D ys W1 hD rfl ⟨s, hs, hin, hI⟩ hK
    have HI : Hid (SizI W X (.slice a len cap) (.func (.func 46) #[] #[]) len s W1) := hI
    have HS : Hid (∀ i, i < len → skipL false (zs.drop i) 1 = some (s i) ∧ s i = szT false zs i) := by
      have e := hz.out
      subst e
      exact fun i hi => fold_done hs i hi
    have HK : Hid (W1.heap[D]? = some (.deferred (some []))) := hK
    have hDl : D < W1.heap.size := (Array.getElem?_eq_some_iff.1 hK).1
    have c0 := hI.r0.cell (i := 0) (by omega)
    have c1 := hI.r1.cell (i := 0) (by omega)
    have z0 := hI.r0.frozen 0
    have z1 := hI.r1.frozen 0
    have cS := hI.sb.cell (i := 0) (by omega)
    have hW1 := hI.size
    clear hI hK hs
    have fin : ∀ (W1 : World), SizI W X (.slice a len cap) (.func (.func 46) #[] #[]) len s W1 → W1.heap[D]? = some (.deferred (some [])) → ∀ b : Bool, wholeB false zs = b → (loadVar 22 ⟨W.heap.size + 1 + 1, 0, none⟩).run Try.prog (((W1.setCell ⟨W.heap.size + 1 + 1, 0, none⟩ (.slice (some ⟨W.heap.size + 1 + 1 + 1 + 1, 0, none⟩) len len)).setCell ⟨W.heap.size + 1 + 1 + 1, 0, none⟩ (.bool b)).putObj D (.deferred none)) = .ok (.slice (some ⟨W.heap.size + 1 + 1 + 1 + 1, 0, none⟩) len len) (((W1.setCell ⟨W.heap.size + 1 + 1, 0, none⟩ (.slice (some ⟨W.heap.size + 1 + 1 + 1 + 1, 0, none⟩) len len)).setCell ⟨W.heap.size + 1 + 1 + 1, 0, none⟩ (.bool b)).putObj D (.deferred none)) ∧ (loadVar 4 ⟨W.heap.size + 1 + 1 + 1, 0, none⟩).run Try.prog (((W1.setCell ⟨W.heap.size + 1 + 1, 0, none⟩ (.slice (some ⟨W.heap.size + 1 + 1 + 1 + 1, 0, none⟩) len len)).setCell ⟨W.heap.size + 1 + 1 + 1, 0, none⟩ (.bool b)).putObj D (.deferred none)) = .ok (.bool b) (((W1.setCell ⟨W.heap.size + 1 + 1, 0, none⟩ (.slice (some ⟨W.heap.size + 1 + 1 + 1 + 1, 0, none⟩) len len)).setCell ⟨W.heap.size + 1 + 1 + 1, 0, none⟩ (.bool b)).putObj D (.deferred none)) ∧ SizeAns false zs W (.returned (.tuple #[.slice (some ⟨W.heap.size + 1 + 1 + 1 + 1, 0, none⟩) len len, .bool b])) (((W1.setCell ⟨W.heap.size + 1 + 1, 0, none⟩ (.slice (some ⟨W.heap.size + 1 + 1 + 1 + 1, 0, none⟩) len len)).setCell ⟨W.heap.size + 1 + 1 + 1, 0, none⟩ (.bool b)).putObj D (.deferred none)) := by
      intro W1 hI hK b hb
      have HI : Hid (SizI W X (.slice a len cap) (.func (.func 46) #[] #[]) len s W1) := hI
      have HK : Hid (W1.heap[D]? = some (.deferred (some []))) := hK
      have kD : ((W1.setCell ⟨W.heap.size + 1 + 1, 0, none⟩ (.slice (some ⟨W.heap.size + 1 + 1 + 1 + 1, 0, none⟩) len len)).setCell ⟨W.heap.size + 1 + 1 + 1, 0, none⟩ (.bool b)).heap[D]? = some (.deferred (some [])) := (Below.heap_setCell _ _ _ _ (by simp; omega)).trans ((Below.heap_setCell _ _ _ _ (by simp; omega)).trans HK.out)
      have hG := grownBy_putObj' ((W1.setCell ⟨W.heap.size + 1 + 1, 0, none⟩ (.slice (some ⟨W.heap.size + 1 + 1 + 1 + 1, 0, none⟩) len len)).setCell ⟨W.heap.size + 1 + 1 + 1, 0, none⟩ (.bool b)) D (.deferred none)
      have hr : ∀ r, some D = some r → ∃ o : Obj, ((W1.setCell ⟨W.heap.size + 1 + 1, 0, none⟩ (.slice (some ⟨W.heap.size + 1 + 1 + 1 + 1, 0, none⟩) len len)).setCell ⟨W.heap.size + 1 + 1 + 1, 0, none⟩ (.bool b)).heap[r]? = some o ∧ o.isCells = false := fun r e => by cases e; exact ⟨_, kD, rfl⟩
      have q0 := row_from ((HI.out.r0.set 0 (.slice (some ⟨W.heap.size + 1 + 1 + 1 + 1, 0, none⟩) len len)).setOther (by show W.heap.size + 1 + 1 ≠ W.heap.size + 1 + 1 + 1; omega) (.bool b) (a := ⟨W.heap.size + 1 + 1 + 1, 0, none⟩)) hG hr
      have q1 := row_from ((HI.out.r1.setOther (by show W.heap.size + 1 + 1 + 1 ≠ W.heap.size + 1 + 1; omega) (.slice (some ⟨W.heap.size + 1 + 1 + 1 + 1, 0, none⟩) len len) (a := ⟨W.heap.size + 1 + 1, 0, none⟩)).set 0 (.bool b)) hG hr
      have q2 := row_from ((HI.out.sz.setOther (by show W.heap.size + 1 + 1 + 1 + 1 ≠ W.heap.size + 1 + 1; omega) (.slice (some ⟨W.heap.size + 1 + 1 + 1 + 1, 0, none⟩) len len) (a := ⟨W.heap.size + 1 + 1, 0, none⟩)).setOther (by show W.heap.size + 1 + 1 + 1 + 1 ≠ W.heap.size + 1 + 1 + 1; omega) (.bool b) (a := ⟨W.heap.size + 1 + 1 + 1, 0, none⟩)) hG hr
      have q3 : Below W.heap.size W ((W1.setCell ⟨W.heap.size + 1 + 1, 0, none⟩ (.slice (some ⟨W.heap.size + 1 + 1 + 1 + 1, 0, none⟩) len len)).setCell ⟨W.heap.size + 1 + 1 + 1, 0, none⟩ (.bool b)) := (HI.out.bel.setCell (by show W.heap.size ≤ W.heap.size + 1 + 1; omega) _).setCell (by show W.heap.size ≤ W.heap.size + 1 + 1 + 1; omega) _
      refine ⟨one_load Try.underlying22 rfl (by simpa using q0.cell (i := 0) (by omega)), one_load Try.underlying4 rfl (by simpa using q1.cell (i := 0) (by omega)), _, by rw [hb], ⟨_, _, _, rfl⟩, fun hw => ⟨W.heap.size + 1 + 1 + 1 + 1, by rw [hz.out], by omega, ?_⟩, q3.grown hG q3.size (fun r e => by cases e; omega)⟩
      rw [hz.out]
      exact q2.congr (fun i hi => by rw [(HS.out i hi).2])
    by_cases h0 : len = 0
    · have HW : Hid (wholeB false zs = false) := by
        show _ = _
        unfold wholeB
        rw [hz.out, h0]
        rfl
      subst h0
      have e0 : ((0 : Nat) : Int) = 0 := rfl
      gi_wp2
      refine wpIn_wide.2 ?_
      go_region
      gi_wp2
      refine ⟨by simp, .inl ⟨_, _, rfl, run_takeDeferred ((Below.heap_setCell _ _ _ _ (by simp; omega)).trans ((Below.heap_setCell _ _ _ _ (by simp; omega)).trans HK.out)), ?_⟩⟩
      have F := fin W1.drew ⟨HI.out.kb, HI.out.ub, HI.out.r0, HI.out.r1, HI.out.sz, HI.out.sb, HI.out.bb, HI.out.size, HI.out.bel.drew⟩ HK.out false HW.out
      exact ⟨_, results_two9 rfl _ _ _ _ _ _ rfl rfl F.1 F.2.1, F.2.2⟩
    · have h0I : 0 < (len : Int) := by omega
      have h0N : 0 < len := by omega
      have dg : decide ((len : Int) > 0) = true := decide_eq_true (by omega)
      have dg2 : decide (0 < (len : Int)) = true := decide_eq_true (by omega)
      have dg3 : decide (0 < len) = true := decide_eq_true (by omega)
      have cZ := HI.out.sz.cell h0N
      have HW : Hid (wholeB false zs = decide (s 0 = len)) := by
        show _ = _
        unfold wholeB
        have e := (HS.out 0 h0N).1
        rw [List.drop_zero] at e
        rw [hz.out, e, decide_eq_true h0N]
        simp
      clear h0
      obtain ⟨s0, hs0⟩ : ∃ s0, Hid (s 0 = s0) := ⟨_, rfl⟩
      rw [hs0.out] at cZ HW
      by_cases hq : s0 = len
      · have HW2 : wholeB false zs = true := by rw [HW.out]; exact decide_eq_true hq
        have hqI : (s0 : Int) = (len : Int) := by omega
        gi_wp2
        refine wpIn_wide.2 ?_
        go_region_held3 (fun w' => w'.cell? ⟨W.heap.size + 1 + 1 + 1 + 1 + 1, 0, none⟩ = some (.slice (some ⟨W.heap.size + 1 + 1 + 1 + 1, 0, none⟩) len len) ∧ w'.cell? ⟨W.heap.size + 1 + 1 + 1 + 1, 0, none⟩ = some (.int .i64 (s0 : Int))) (first | assumption | go_keep | (refine ⟨?_, ?_⟩ <;> go_simp)) (fail)
        gi_wp2
        refine ⟨by simp, .inl ⟨_, _, rfl, run_takeDeferred ((Below.heap_setCell _ _ _ _ (by simp; omega)).trans ((Below.heap_setCell _ _ _ _ (by simp; omega)).trans HK.out)), ?_⟩⟩
        have F := fin W1.drew ⟨HI.out.kb, HI.out.ub, HI.out.r0, HI.out.r1, HI.out.sz, HI.out.sb, HI.out.bb, HI.out.size, HI.out.bel.drew⟩ HK.out true HW2
        exact ⟨_, results_two9 rfl _ _ _ _ _ _ rfl rfl F.1 F.2.1, F.2.2⟩
      · have HW2 : wholeB false zs = false := by rw [HW.out]; exact decide_eq_false hq
        have d1 : ((s0 : Int) == (len : Int)) = false := by simp; omega
        have d2 : decide ((s0 : Int) = (len : Int)) = false := decide_eq_false (by omega)
        have hqI : ¬ (s0 : Int) = (len : Int) := by omega
        gi_wp2
        refine wpIn_wide.2 ?_
        go_region_held3 (fun w' => w'.cell? ⟨W.heap.size + 1 + 1 + 1 + 1 + 1, 0, none⟩ = some (.slice (some ⟨W.heap.size + 1 + 1 + 1 + 1, 0, none⟩) len len) ∧ w'.cell? ⟨W.heap.size + 1 + 1 + 1 + 1, 0, none⟩ = some (.int .i64 (s0 : Int))) (first | assumption | go_keep | (refine ⟨?_, ?_⟩ <;> go_simp)) (fail)
        gi_wp2
        refine ⟨by simp, .inl ⟨_, _, rfl, run_takeDeferred ((Below.heap_setCell _ _ _ _ (by simp; omega)).trans ((Below.heap_setCell _ _ _ _ (by simp; omega)).trans HK.out)), ?_⟩⟩
        have F := fin W1.drew ⟨HI.out.kb, HI.out.ub, HI.out.r0, HI.out.r1, HI.out.sz, HI.out.sb, HI.out.bb, HI.out.size, HI.out.bel.drew⟩ HK.out false HW2
        exact ⟨_, results_two9 rfl _ _ _ _ _ _ rfl rfl F.1 F.2.1, F.2.2⟩
  case stop =>
    rintro D c pre W1 hD ⟨k, hk, rfl⟩ ⟨rfl, hf, r0, r1, hW1, hb⟩ hK
    have HW : wholeB false zs = false := by
      have e := hz.out
      subst e
      exact fold_stop hk hf
    gi_wp2
    have hG := grownBy_putObj' W1 D (.deferred none)
    have hr : ∀ r, some D = some r → ∃ o : Obj, W1.heap[r]? = some o ∧ o.isCells = false := fun r e => by cases e; exact ⟨_, hK, rfl⟩
    have q0 := row_from r0 hG hr
    have q1 := row_from r1 hG hr
    refine ⟨by simp, .inl ⟨_, _, rfl, run_takeDeferred hK, ?_⟩⟩
    refine ⟨_, results_two9 rfl _ _ (W.heap.size + 1 + 1) (W.heap.size + 1 + 1 + 1) (.slice none 0 0) (.bool false) rfl rfl (one_load Try.underlying22 rfl (by simpa using q0.cell (i := 0) (by omega))) (one_load Try.underlying4 rfl (by simpa using q1.cell (i := 0) (by omega))), _, by rw [HW], ⟨_, _, _, rfl⟩, fun hw => ?_, hb.grown hG hb.size (fun r e => by cases e; omega)⟩
    rw [HW] at hw
    cases hw
set_option maxHeartbeats 4000000 in
theorem impl_sizes1 (a : Option Addr) (len cap : Nat) (zs : List Int) (W : World) (hz : Hid (zs.length = len)) (hlen : len ≤ 1048576) (h : Hid (Ints W a zs)) (hab : Hid (∀ b o, a = some ⟨b, o, none⟩ → 0 < len → b < W.heap.size)) :
    Calls Try.prog 45 #[.slice a len cap, .func (.func 51) #[] #[]] W fun e W' => SizeAns true zs W e W' := by
  have hmk := run_make_row' (P := Try.prog) 22 3 (.int .i64 0) 8 Try.underlying22 row_info rfl .i64 .i64 len (by omega) (by omega)
  refine (callsIn_wide (n := 6)).1 ?_
  have f2 : Fence.wide.fn 39 := trivial
  refine callsIn_of_wp_marks Try.func45 rfl trivial ?_ rfl
  simp only [Try.ntmps45, List.size_toArray, List.length_cons, List.length_nil, Nat.reduceAdd, Nat.reduceSub, Array.replicate_succ, Array.replicate_zero, List.push_toArray, List.append_toArray, List.nil_append, List.cons_append]
  gi_wp2_with (gi_at_call 39; refine (backward_in Fence.wide _ trivial rfl _ _ _ _).mono ?_; rintro e w' ⟨rfl, rfl⟩)
  have HX : SizI W (((((((W.alloc (.cells #[.slice a len cap] 22)).alloc (.cells #[.func (.func 51) #[] #[]] 64)).alloc (.cells #[.slice none 0 0] 22)).alloc (.cells #[.bool false] 4)).alloc (.cells (madeCells #[.int .i64 0] len) 3)).alloc (.cells #[.slice (some ⟨W.heap.size + 1 + 1 + 1 + 1, 0, none⟩) len len] 22)).alloc (.cells #[.slice a len cap] 22)) (.slice a len cap) (.func (.func 51) #[] #[]) len (fun _ => 0) (((((((W.alloc (.cells #[.slice a len cap] 22)).alloc (.cells #[.func (.func 51) #[] #[]] 64)).alloc (.cells #[.slice none 0 0] 22)).alloc (.cells #[.bool false] 4)).alloc (.cells (madeCells #[.int .i64 0] len) 3)).alloc (.cells #[.slice (some ⟨W.heap.size + 1 + 1 + 1 + 1, 0, none⟩) len len] 22)).alloc (.cells #[.slice a len cap] 22)) := by
    have one : ∀ (w : World) (v : Value) (t : TypeId), (w.alloc (.cells #[v] t)).rowIs w.heap.size t 1 (fun _ => v) := fun w v t => World.rowIs_alloc w #[v] t (fun _ => v) (fun i hi => by simp at hi; subst hi; rfl)
    have b0 := ((((((one W (.slice a len cap) 22).alloc (.cells #[.func (.func 51) #[] #[]] 64)).alloc (.cells #[.slice none 0 0] 22)).alloc (.cells #[.bool false] 4)).alloc (.cells (madeCells #[.int .i64 0] len) 3)).alloc (.cells #[.slice (some ⟨W.heap.size + 1 + 1 + 1 + 1, 0, none⟩) len len] 22)).alloc (.cells #[.slice a len cap] 22)
    have b1 := (((((one (W.alloc (.cells #[.slice a len cap] 22)) (.func (.func 51) #[] #[]) 64).alloc (.cells #[.slice none 0 0] 22)).alloc (.cells #[.bool false] 4)).alloc (.cells (madeCells #[.int .i64 0] len) 3)).alloc (.cells #[.slice (some ⟨W.heap.size + 1 + 1 + 1 + 1, 0, none⟩) len len] 22)).alloc (.cells #[.slice a len cap] 22)
    have b2 := ((((one ((W.alloc (.cells #[.slice a len cap] 22)).alloc (.cells #[.func (.func 51) #[] #[]] 64)) (.slice none 0 0) 22).alloc (.cells #[.bool false] 4)).alloc (.cells (madeCells #[.int .i64 0] len) 3)).alloc (.cells #[.slice (some ⟨W.heap.size + 1 + 1 + 1 + 1, 0, none⟩) len len] 22)).alloc (.cells #[.slice a len cap] 22)
    have b3 := (((one (((W.alloc (.cells #[.slice a len cap] 22)).alloc (.cells #[.func (.func 51) #[] #[]] 64)).alloc (.cells #[.slice none 0 0] 22)) (.bool false) 4).alloc (.cells (madeCells #[.int .i64 0] len) 3)).alloc (.cells #[.slice (some ⟨W.heap.size + 1 + 1 + 1 + 1, 0, none⟩) len len] 22)).alloc (.cells #[.slice a len cap] 22)
    have b4 := ((World.rowIs_made ((((W.alloc (.cells #[.slice a len cap] 22)).alloc (.cells #[.func (.func 51) #[] #[]] 64)).alloc (.cells #[.slice none 0 0] 22)).alloc (.cells #[.bool false] 4)) (.int .i64 0) len 3).alloc (.cells #[.slice (some ⟨W.heap.size + 1 + 1 + 1 + 1, 0, none⟩) len len] 22)).alloc (.cells #[.slice a len cap] 22)
    have b5 := (one (((((W.alloc (.cells #[.slice a len cap] 22)).alloc (.cells #[.func (.func 51) #[] #[]] 64)).alloc (.cells #[.slice none 0 0] 22)).alloc (.cells #[.bool false] 4)).alloc (.cells (madeCells #[.int .i64 0] len) 3)) (.slice (some ⟨W.heap.size + 1 + 1 + 1 + 1, 0, none⟩) len len) 22).alloc (.cells #[.slice a len cap] 22)
    have b6 := one ((((((W.alloc (.cells #[.slice a len cap] 22)).alloc (.cells #[.func (.func 51) #[] #[]] 64)).alloc (.cells #[.slice none 0 0] 22)).alloc (.cells #[.bool false] 4)).alloc (.cells (madeCells #[.int .i64 0] len) 3)).alloc (.cells #[.slice (some ⟨W.heap.size + 1 + 1 + 1 + 1, 0, none⟩) len len] 22)) (.slice a len cap) 22
    simp only [World.size_alloc] at b0 b1 b2 b3 b4 b5 b6
    exact ⟨b0, b1, b2, b3, b4.congr (fun i hi => rfl), b5, b6, Nat.le_refl _, by go_grown⟩
  obtain ⟨X, hX⟩ : ∃ X, Hid (((((((W.alloc (.cells #[.slice a len cap] 22)).alloc (.cells #[.func (.func 51) #[] #[]] 64)).alloc (.cells #[.slice none 0 0] 22)).alloc (.cells #[.bool false] 4)).alloc (.cells (madeCells #[.int .i64 0] len) 3)).alloc (.cells #[.slice (some ⟨W.heap.size + 1 + 1 + 1 + 1, 0, none⟩) len len] 22)).alloc (.cells #[.slice a len cap] 22) = X) := ⟨_, rfl⟩
  have hXs : X.heap.size = W.heap.size + 1 + 1 + 1 + 1 + 1 + 1 + 1 := by rw [← hX.out]; simp
  rw [hX.out] at HX ⊢
  clear hmk
  have hIZ : Ints X a zs := h.out.kept HX.bel
  refine wpIn_rangeFunc_ownG rfl (by omega) (gf := 48) (lb := #[.pointer (some ⟨W.heap.size + 1 + 1 + 1 + 1 + 1 + 1, 0, none⟩)]) rfl trivial (enters_of Try.func48 (by kernel_rfl) rfl)
    (backward_stops Fence.wide 5 trivial rfl (by omega) (W.heap.size + 1 + 1 + 1 + 1 + 1 + 1) W.heap.size a len cap zs (by omega) X (by omega) hz.out (by simpa using HX.bb.cell (i := 0) (by omega)) hIZ hab.out) keepLo_t (keepLo_b (by omega) (by omega)) (Below.refl _ _) (fun _ => rfl)
    (fun pre W1 => ∃ s, foldZ true zs pre = some s ∧ InZ len s ∧ SizI W X (.slice a len cap) (.func (.func 51) #[] #[]) len s W1)
    (fun c pre W1 => c = .ret ∧ foldZ true zs pre = none ∧ W1.rowIs (W.heap.size + 1 + 1) 22 1 (fun _ => .slice none 0 0) ∧ W1.rowIs (W.heap.size + 1 + 1 + 1) 4 1 (fun _ => .bool false) ∧ X.heap.size ≤ W1.heap.size ∧ Below W.heap.size W W1)
    (fun s A B row hs hg hr => by obtain ⟨v, h1, h2, hv⟩ := hs; exact ⟨v, h1, h2, hv.from hg hr (by omega)⟩)
    (fun c s A B row hs hg hr => by
      obtain ⟨h1, h2, h3, h4, h5, h6⟩ := hs
      exact ⟨h1, h2, row_from h3 hg (fun r e => (hr r e).2), row_from h4 hg (fun r e => (hr r e).2), Nat.le_trans h5 hg.size, h6.grown hg h6.size (fun r e => Nat.le_trans (by omega) (hr r e).1)⟩)
    ⟨_, rfl, fun i hi => by show i + 0 ≤ len; omega, HX⟩
    (fun x => { tmps := #[Value.slice a len cap, .func (.func 51) #[] #[], .pointer (some ⟨W.heap.size, 0, none⟩), .pointer (some ⟨W.heap.size + 1, 0, none⟩), .pointer (some ⟨W.heap.size + 1 + 1, 0, none⟩), .pointer (some ⟨W.heap.size + 1 + 1 + 1, 0, none⟩), .pointer (some ⟨W.heap.size + 1 + 1 + 1 + 1 + 1, 0, none⟩), .int .i64 (x.val : Int), .int .i64 (zs.getD x.val 0), undef, undef, undef, .slice a len cap, .int .i64 (len : Int), .slice (some ⟨W.heap.size + 1 + 1 + 1 + 1, 0, none⟩) len len, .slice a len cap, .func (.func 48) #[] #[.pointer (some ⟨W.heap.size + 1 + 1 + 1 + 1 + 1 + 1, 0, none⟩)], .int .i64 (x.val : Int), .int .i64 (zs.getD x.val 0), undef, undef, undef, undef, undef, undef, undef, undef, undef, undef, undef, undef, undef, undef, undef, undef, undef, undef, undef, undef, undef, undef, undef, undef, undef, undef, undef, undef, undef, undef, undef, undef, undef, undef, undef, undef, undef, undef, undef, undef, undef, undef], defers := [] })
    ?assign ?body ?done ?stop
  case assign =>
    intro l x W1 K hK
    generalize zs.getD x.val 0 = sv at hK ⊢
    gi_wp2
    exact hK
  case body =>
    rintro l pre x W1 ⟨s, hs, hin, hI⟩ hpl
    obtain ⟨sv, hsv⟩ : ∃ sv, Hid (zs.getD x.val 0 = sv) := ⟨_, rfl⟩
    have HI : Hid (SizI W X (.slice a len cap) (.func (.func 51) #[] #[]) len s W1) := hI
    have cK := hI.kb.cell (i := 0) (by omega)
    have cU := hI.ub.cell (i := 0) (by omega)
    have c0 := hI.r0.cell (i := 0) (by omega)
    have c1 := hI.r1.cell (i := 0) (by omega)
    have z0 := hI.r0.frozen 0
    have z1 := hI.r1.frozen 0
    have cS := hI.sb.cell (i := 0) (by omega)
    have hW1 := hI.size
    have hxl : x.val < len := x.isLt
    have hxI : (x.val : Int) < (len : Int) := by omega
    have HST : Hid (foldZ true zs (pre ++ [x]) = (arK true sv).bind fun m => (goZ s len m (x.val + 1)).map fun e => updZ s x.val (e - x.val)) := by
      show _ = _
      rw [fold_snoc_some hs]
      unfold stepZ
      rw [hsv.out, hz.out]
    rw [hsv.out]
    clear hI
    cases hA : arK true sv with
    | none =>
      have HF : Hid (foldZ true zs (pre ++ [x]) = none) := by show _ = _; rw [HST.out, hA]; rfl
      gi_wp2_with fail
      refine ⟨trivial, (CallsIn.inRound l (callsIn_wide.2 (impl_under1 _ _))).mono ?_⟩
      rw [hA]
      rintro e w' ⟨rfl, hw⟩
      rw [hw]
      clear hw w'
      simp only [undV]
      gi_wp2
      refine ⟨⟨by simp [World.setCell], fun q o hq ho hoc => ?_⟩, rfl, HF.out, ?_, ?_, ?_, ?_⟩
      · exact (Below.heap_setCell _ _ _ _ (by simp; omega)).trans ((Below.heap_setCell _ _ _ _ (by simp; omega)).trans ho)
      · exact World.rowIs.congr ((HI.out.r0.set 0 (.slice none 0 0)).setOther (by show W.heap.size + 1 + 1 ≠ W.heap.size + 1 + 1 + 1; omega) _) (fun i hi => by simp)
      · exact World.rowIs.congr ((HI.out.r1.setOther (by show W.heap.size + 1 + 1 + 1 ≠ W.heap.size + 1 + 1; omega) _).set 0 (.bool false)) (fun i hi => by simp)
      · simpa [World.setCell] using HI.out.size
      · exact (HI.out.bel.setCell (by show W.heap.size ≤ W.heap.size + 1 + 1; omega) _).setCell (by show W.heap.size ≤ W.heap.size + 1 + 1 + 1; omega) _
    | some m =>
      have hm2 := (arK_some hA).2.1
      have hm2I : (m : Int) ≤ 2 := by omega
      have HM : Hid (undV (some m) = .tuple #[.int .i64 (m : Int), .bool true]) := rfl
      gi_wp2_with fail
      refine ⟨trivial, (CallsIn.inRound l (callsIn_wide.2 (impl_under1 _ _))).mono ?_⟩
      rw [hA, HM.out]
      rintro e w' ⟨rfl, hw⟩
      rw [hw]
      clear hw w'
      gi_wp2
      gi_loopw [11, 30] (fun ve vj wr => ∃ e j : Nat, j ≤ m ∧ x.val < e ∧ e ≤ len ∧ ve = .int .i64 (e : Int) ∧ vj = .int .i64 (j : Int) ∧ Hid (goZ s len m (x.val + 1) = goZ s len (m - j) e) ∧ wr = W1) (fun _ vj _ => m - (intOf vj).toNat)
      case atStart => exact ⟨x.val + 1, 0, Nat.zero_le _, by omega, by omega, by go_num, rfl, rfl, rfl⟩
      case round =>
        obtain ⟨e, j, hj, hxe, hel, rfl, rfl, HG, hwr⟩ := hrel
        rw [hwr]
        clear hwr wr
        by_cases hjm : j < m
        · by_cases hee : e = len
          · have HF : Hid (foldZ true zs (pre ++ [x]) = none) := by
              show _ = _
              rw [HST.out, hA, Option.bind_some, HG.out, show m - j = (m - j - 1) + 1 by omega, hee]
              simp [goZ]
            have heI : (e : Int) = (len : Int) := by omega
            gi_wp2
            refine ⟨⟨by simp [World.setCell], fun q o hq ho hoc => ?_⟩, rfl, HF.out, ?_, ?_, ?_, ?_⟩
            · exact (Below.heap_setCell _ _ _ _ (by simp; omega)).trans ((Below.heap_setCell _ _ _ _ (by simp; omega)).trans ho)
            · exact World.rowIs.congr ((HI.out.r0.set 0 (.slice none 0 0)).setOther (by show W.heap.size + 1 + 1 ≠ W.heap.size + 1 + 1 + 1; omega) _) (fun i hi => by simp)
            · exact World.rowIs.congr ((HI.out.r1.setOther (by show W.heap.size + 1 + 1 + 1 ≠ W.heap.size + 1 + 1; omega) _).set 0 (.bool false)) (fun i hi => by simp)
            · simpa [World.setCell] using HI.out.size
            · exact (HI.out.bel.setCell (by show W.heap.size ≤ W.heap.size + 1 + 1; omega) _).setCell (by show W.heap.size ≤ W.heap.size + 1 + 1 + 1; omega) _
          · have helt : e < len := by omega
            have heltI : (e : Int) < (len : Int) := by omega
            have cE := HI.out.sz.cell helt
            have d1 : ((e : Int) == (len : Int)) = false := by simp; omega
            have d2 : decide ((e : Int) = (len : Int)) = false := decide_eq_false (by omega)
            have hes := hin e helt
            have HG' : Hid (goZ s len m (x.val + 1) = goZ s len (m - (j + 1)) (e + s e)) := by
              show _ = _
              rw [HG.out, show m - j = (m - (j + 1)) + 1 by omega]
              conv => lhs; unfold goZ
              rw [if_neg hee]
            gi_wp2
            go_roundw
            case rel => exact ⟨e + s e, j + 1, by omega, by omega, by omega, by go_num, by go_num, HG', by first | rfl | trivial⟩
            case measure => simp [intOf]; omega
        · have HF : Hid (foldZ true zs (pre ++ [x]) = some (updZ s x.val (e - x.val))) := by
            show _ = _
            rw [HST.out, hA, Option.bind_some, HG.out, show m - j = 0 by omega]
            rfl
          obtain ⟨d, hd⟩ : ∃ d : Nat, Hid (e = x.val + d) := ⟨e - x.val, by show e = _; omega⟩
          have hdI : (e : Int) - (x.val : Int) = (d : Int) := by have := hd.out; omega
          have cX := HI.out.sz.cell hxl
          have zX := HI.out.sz.frozen x.val
          gi_wp2
          refine ⟨⟨by simp [World.setCell], fun q o hq ho hoc => ?_⟩, ⟨by simp [World.setCell], fun q hq => ?_⟩, _, HF.out, ?_, ?_⟩
          · exact (Below.heap_setCell _ _ _ _ (by simp; omega)).trans ho
          · exact Below.heap_setCell _ _ _ _ (by simp; omega)
          · intro i hi
            by_cases q : i = x.val
            · subst q; rw [updZ_same]; omega
            · rw [updZ_other _ _ q]; exact hin i hi
          · refine ⟨HI.out.kb.setOther (by show W.heap.size ≠ W.heap.size + 1 + 1 + 1 + 1; omega) _, HI.out.ub.setOther (by show W.heap.size + 1 ≠ W.heap.size + 1 + 1 + 1 + 1; omega) _, HI.out.r0.setOther (by show W.heap.size + 1 + 1 ≠ W.heap.size + 1 + 1 + 1 + 1; omega) _, HI.out.r1.setOther (by show W.heap.size + 1 + 1 + 1 ≠ W.heap.size + 1 + 1 + 1 + 1; omega) _, ?_, HI.out.sb.setOther (by show W.heap.size + 1 + 1 + 1 + 1 + 1 ≠ W.heap.size + 1 + 1 + 1 + 1; omega) _, HI.out.bb.setOther (by show W.heap.size + 1 + 1 + 1 + 1 + 1 + 1 ≠ W.heap.size + 1 + 1 + 1 + 1; omega) _, by simpa [World.setCell] using HI.out.size, HI.out.bel.setCell (by show W.heap.size ≤ W.heap.size + 1 + 1 + 1 + 1; omega) _⟩
            refine World.rowIs.congr (HI.out.sz.set x.val (.int .i64 (d : Int))) (fun i hi => ?_)
            by_cases q : i = x.val
            · subst q; rw [updZ_same, if_pos rfl]; have := hd.out; congr 1; omega
            · rw [updZ_other _ _ q, if_neg q]
  case done =>
    rintro D ys W1 hD rfl ⟨s, hs, hin, hI⟩ hK
    have HI : Hid (SizI W X (.slice a len cap) (.func (.func 51) #[] #[]) len s W1) := hI
    have HS : Hid (∀ i, i < len → skipL true (zs.drop i) 1 = some (s i) ∧ s i = szT true zs i) := by
      have e := hz.out
      subst e
      exact fun i hi => fold_done hs i hi
    have HK : Hid (W1.heap[D]? = some (.deferred (some []))) := hK
    have hDl : D < W1.heap.size := (Array.getElem?_eq_some_iff.1 hK).1
    have c0 := hI.r0.cell (i := 0) (by omega)
    have c1 := hI.r1.cell (i := 0) (by omega)
    have z0 := hI.r0.frozen 0
    have z1 := hI.r1.frozen 0
    have cS := hI.sb.cell (i := 0) (by omega)
    have hW1 := hI.size
    clear hI hK hs
    have fin : ∀ (W1 : World), SizI W X (.slice a len cap) (.func (.func 51) #[] #[]) len s W1 → W1.heap[D]? = some (.deferred (some [])) → ∀ b : Bool, wholeB true zs = b → (loadVar 22 ⟨W.heap.size + 1 + 1, 0, none⟩).run Try.prog (((W1.setCell ⟨W.heap.size + 1 + 1, 0, none⟩ (.slice (some ⟨W.heap.size + 1 + 1 + 1 + 1, 0, none⟩) len len)).setCell ⟨W.heap.size + 1 + 1 + 1, 0, none⟩ (.bool b)).putObj D (.deferred none)) = .ok (.slice (some ⟨W.heap.size + 1 + 1 + 1 + 1, 0, none⟩) len len) (((W1.setCell ⟨W.heap.size + 1 + 1, 0, none⟩ (.slice (some ⟨W.heap.size + 1 + 1 + 1 + 1, 0, none⟩) len len)).setCell ⟨W.heap.size + 1 + 1 + 1, 0, none⟩ (.bool b)).putObj D (.deferred none)) ∧ (loadVar 4 ⟨W.heap.size + 1 + 1 + 1, 0, none⟩).run Try.prog (((W1.setCell ⟨W.heap.size + 1 + 1, 0, none⟩ (.slice (some ⟨W.heap.size + 1 + 1 + 1 + 1, 0, none⟩) len len)).setCell ⟨W.heap.size + 1 + 1 + 1, 0, none⟩ (.bool b)).putObj D (.deferred none)) = .ok (.bool b) (((W1.setCell ⟨W.heap.size + 1 + 1, 0, none⟩ (.slice (some ⟨W.heap.size + 1 + 1 + 1 + 1, 0, none⟩) len len)).setCell ⟨W.heap.size + 1 + 1 + 1, 0, none⟩ (.bool b)).putObj D (.deferred none)) ∧ SizeAns true zs W (.returned (.tuple #[.slice (some ⟨W.heap.size + 1 + 1 + 1 + 1, 0, none⟩) len len, .bool b])) (((W1.setCell ⟨W.heap.size + 1 + 1, 0, none⟩ (.slice (some ⟨W.heap.size + 1 + 1 + 1 + 1, 0, none⟩) len len)).setCell ⟨W.heap.size + 1 + 1 + 1, 0, none⟩ (.bool b)).putObj D (.deferred none)) := by
      intro W1 hI hK b hb
      have HI : Hid (SizI W X (.slice a len cap) (.func (.func 51) #[] #[]) len s W1) := hI
      have HK : Hid (W1.heap[D]? = some (.deferred (some []))) := hK
      have kD : ((W1.setCell ⟨W.heap.size + 1 + 1, 0, none⟩ (.slice (some ⟨W.heap.size + 1 + 1 + 1 + 1, 0, none⟩) len len)).setCell ⟨W.heap.size + 1 + 1 + 1, 0, none⟩ (.bool b)).heap[D]? = some (.deferred (some [])) := (Below.heap_setCell _ _ _ _ (by simp; omega)).trans ((Below.heap_setCell _ _ _ _ (by simp; omega)).trans HK.out)
      have hG := grownBy_putObj' ((W1.setCell ⟨W.heap.size + 1 + 1, 0, none⟩ (.slice (some ⟨W.heap.size + 1 + 1 + 1 + 1, 0, none⟩) len len)).setCell ⟨W.heap.size + 1 + 1 + 1, 0, none⟩ (.bool b)) D (.deferred none)
      have hr : ∀ r, some D = some r → ∃ o : Obj, ((W1.setCell ⟨W.heap.size + 1 + 1, 0, none⟩ (.slice (some ⟨W.heap.size + 1 + 1 + 1 + 1, 0, none⟩) len len)).setCell ⟨W.heap.size + 1 + 1 + 1, 0, none⟩ (.bool b)).heap[r]? = some o ∧ o.isCells = false := fun r e => by cases e; exact ⟨_, kD, rfl⟩
      have q0 := row_from ((HI.out.r0.set 0 (.slice (some ⟨W.heap.size + 1 + 1 + 1 + 1, 0, none⟩) len len)).setOther (by show W.heap.size + 1 + 1 ≠ W.heap.size + 1 + 1 + 1; omega) (.bool b) (a := ⟨W.heap.size + 1 + 1 + 1, 0, none⟩)) hG hr
      have q1 := row_from ((HI.out.r1.setOther (by show W.heap.size + 1 + 1 + 1 ≠ W.heap.size + 1 + 1; omega) (.slice (some ⟨W.heap.size + 1 + 1 + 1 + 1, 0, none⟩) len len) (a := ⟨W.heap.size + 1 + 1, 0, none⟩)).set 0 (.bool b)) hG hr
      have q2 := row_from ((HI.out.sz.setOther (by show W.heap.size + 1 + 1 + 1 + 1 ≠ W.heap.size + 1 + 1; omega) (.slice (some ⟨W.heap.size + 1 + 1 + 1 + 1, 0, none⟩) len len) (a := ⟨W.heap.size + 1 + 1, 0, none⟩)).setOther (by show W.heap.size + 1 + 1 + 1 + 1 ≠ W.heap.size + 1 + 1 + 1; omega) (.bool b) (a := ⟨W.heap.size + 1 + 1 + 1, 0, none⟩)) hG hr
      have q3 : Below W.heap.size W ((W1.setCell ⟨W.heap.size + 1 + 1, 0, none⟩ (.slice (some ⟨W.heap.size + 1 + 1 + 1 + 1, 0, none⟩) len len)).setCell ⟨W.heap.size + 1 + 1 + 1, 0, none⟩ (.bool b)) := (HI.out.bel.setCell (by show W.heap.size ≤ W.heap.size + 1 + 1; omega) _).setCell (by show W.heap.size ≤ W.heap.size + 1 + 1 + 1; omega) _
      refine ⟨one_load Try.underlying22 rfl (by simpa using q0.cell (i := 0) (by omega)), one_load Try.underlying4 rfl (by simpa using q1.cell (i := 0) (by omega)), _, by rw [hb], ⟨_, _, _, rfl⟩, fun hw => ⟨W.heap.size + 1 + 1 + 1 + 1, by rw [hz.out], by omega, ?_⟩, q3.grown hG q3.size (fun r e => by cases e; omega)⟩
      rw [hz.out]
      exact q2.congr (fun i hi => by rw [(HS.out i hi).2])
    by_cases h0 : len = 0
    · have HW : Hid (wholeB true zs = false) := by
        show _ = _
        unfold wholeB
        rw [hz.out, h0]
        rfl
      subst h0
      have e0 : ((0 : Nat) : Int) = 0 := rfl
      gi_wp2
      refine wpIn_wide.2 ?_
      go_region
      gi_wp2
      refine ⟨by simp, .inl ⟨_, _, rfl, run_takeDeferred ((Below.heap_setCell _ _ _ _ (by simp; omega)).trans ((Below.heap_setCell _ _ _ _ (by simp; omega)).trans HK.out)), ?_⟩⟩
      have F := fin W1.drew ⟨HI.out.kb, HI.out.ub, HI.out.r0, HI.out.r1, HI.out.sz, HI.out.sb, HI.out.bb, HI.out.size, HI.out.bel.drew⟩ HK.out false HW.out
      exact ⟨_, results_two9 rfl _ _ _ _ _ _ rfl rfl F.1 F.2.1, F.2.2⟩
    · have h0I : 0 < (len : Int) := by omega
      have h0N : 0 < len := by omega
      have dg : decide ((len : Int) > 0) = true := decide_eq_true (by omega)
      have dg2 : decide (0 < (len : Int)) = true := decide_eq_true (by omega)
      have dg3 : decide (0 < len) = true := decide_eq_true (by omega)
      have cZ := HI.out.sz.cell h0N
      have HW : Hid (wholeB true zs = decide (s 0 = len)) := by
        show _ = _
        unfold wholeB
        have e := (HS.out 0 h0N).1
        rw [List.drop_zero] at e
        rw [hz.out, e, decide_eq_true h0N]
        simp
      clear h0
      obtain ⟨s0, hs0⟩ : ∃ s0, Hid (s 0 = s0) := ⟨_, rfl⟩
      rw [hs0.out] at cZ HW
      by_cases hq : s0 = len
      · have HW2 : wholeB true zs = true := by rw [HW.out]; exact decide_eq_true hq
        have hqI : (s0 : Int) = (len : Int) := by omega
        gi_wp2
        refine wpIn_wide.2 ?_
        go_region_held3 (fun w' => w'.cell? ⟨W.heap.size + 1 + 1 + 1 + 1 + 1, 0, none⟩ = some (.slice (some ⟨W.heap.size + 1 + 1 + 1 + 1, 0, none⟩) len len) ∧ w'.cell? ⟨W.heap.size + 1 + 1 + 1 + 1, 0, none⟩ = some (.int .i64 (s0 : Int))) (first | assumption | go_keep | (refine ⟨?_, ?_⟩ <;> go_simp)) (fail)
        gi_wp2
        refine ⟨by simp, .inl ⟨_, _, rfl, run_takeDeferred ((Below.heap_setCell _ _ _ _ (by simp; omega)).trans ((Below.heap_setCell _ _ _ _ (by simp; omega)).trans HK.out)), ?_⟩⟩
        have F := fin W1.drew ⟨HI.out.kb, HI.out.ub, HI.out.r0, HI.out.r1, HI.out.sz, HI.out.sb, HI.out.bb, HI.out.size, HI.out.bel.drew⟩ HK.out true HW2
        exact ⟨_, results_two9 rfl _ _ _ _ _ _ rfl rfl F.1 F.2.1, F.2.2⟩
      · have HW2 : wholeB true zs = false := by rw [HW.out]; exact decide_eq_false hq
        have d1 : ((s0 : Int) == (len : Int)) = false := by simp; omega
        have d2 : decide ((s0 : Int) = (len : Int)) = false := decide_eq_false (by omega)
        have hqI : ¬ (s0 : Int) = (len : Int) := by omega
        gi_wp2
        refine wpIn_wide.2 ?_
        go_region_held3 (fun w' => w'.cell? ⟨W.heap.size + 1 + 1 + 1 + 1 + 1, 0, none⟩ = some (.slice (some ⟨W.heap.size + 1 + 1 + 1 + 1, 0, none⟩) len len) ∧ w'.cell? ⟨W.heap.size + 1 + 1 + 1 + 1, 0, none⟩ = some (.int .i64 (s0 : Int))) (first | assumption | go_keep | (refine ⟨?_, ?_⟩ <;> go_simp)) (fail)
        gi_wp2
        refine ⟨by simp, .inl ⟨_, _, rfl, run_takeDeferred ((Below.heap_setCell _ _ _ _ (by simp; omega)).trans ((Below.heap_setCell _ _ _ _ (by simp; omega)).trans HK.out)), ?_⟩⟩
        have F := fin W1.drew ⟨HI.out.kb, HI.out.ub, HI.out.r0, HI.out.r1, HI.out.sz, HI.out.sb, HI.out.bb, HI.out.size, HI.out.bel.drew⟩ HK.out false HW2
        exact ⟨_, results_two9 rfl _ _ _ _ _ _ rfl rfl F.1 F.2.1, F.2.2⟩
  case stop =>
    rintro D c pre W1 hD ⟨k, hk, rfl⟩ ⟨rfl, hf, r0, r1, hW1, hb⟩ hK
    have HW : wholeB true zs = false := by
      have e := hz.out
      subst e
      exact fold_stop hk hf
    gi_wp2
    have hG := grownBy_putObj' W1 D (.deferred none)
    have hr : ∀ r, some D = some r → ∃ o : Obj, W1.heap[r]? = some o ∧ o.isCells = false := fun r e => by cases e; exact ⟨_, hK, rfl⟩
    have q0 := row_from r0 hG hr
    have q1 := row_from r1 hG hr
    refine ⟨by simp, .inl ⟨_, _, rfl, run_takeDeferred hK, ?_⟩⟩
    refine ⟨_, results_two9 rfl _ _ (W.heap.size + 1 + 1) (W.heap.size + 1 + 1 + 1) (.slice none 0 0) (.bool false) rfl rfl (one_load Try.underlying22 rfl (by simpa using q0.cell (i := 0) (by omega))) (one_load Try.underlying4 rfl (by simpa using q1.cell (i := 0) (by omega))), _, by rw [HW], ⟨_, _, _, rfl⟩, fun hw => ?_, hb.grown hG hb.size (fun r e => by cases e; omega)⟩
    rw [HW] at hw
    cases hw
end Go.Proofs.Ytapbfoooflpejaa.walks
