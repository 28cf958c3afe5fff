/-
  What the program's ranksOf answers, at all good tasks; it makes new memory alone.
-/
import Derived.RangeFuncNested
import Derived.RangeFuncBound
import Derived.RangeFuncCalls
import Derived.RangeFuncLeaves
import Derived.RangeFuncWrites
import Derived.Shelf.Abstract
import Derived.WalkKit
import Derived.OwnWalkIn
import Derived.TacticsInMore
import Derived.LoopNIn
import Derived.LoopIn
import Derived.Deep.RegionHeld3
import Derived.Test.YtfgfhmfdkglhoaaProg
import Derived.Test.YtfgfhmfdkglhoaaTaskMath
import Derived.Test.YtfgfhmfdkglhoaaRankMath
import Derived.Test.YtfgfhmfdkglhoaaInts
import Derived.Test.YtfgfhmfdkglhoaaPats
import Derived.Test.YtfgfhmfdkglhoaaBackTasks
import Derived.Test.YtfgfhmfdkglhoaaRoundRegion
namespace Go.Proofs.Ytfgfhmfdkglhoaa.walks
open Go.RowKit Go.Shelf Go.Proofs.Ytfgfhmfdkglhoaa.math Go.Proofs.Ytfgfhmfdkglhoaa.ints
set_option linter.unusedVariables false
set_option linter.unusedSimpArgs false
set_option maxRecDepth 100000
attribute [local go_sem] Oper.semAt_some

/-- The loop's memory: the ranks, their box, the list's box. -/
structure RankI (W X : World) (sl : Value) (n : Nat) (s : Nat → Int) (W1 : World) : Prop where
  rk : W1.rowIs W.heap.size 3 n (fun i => .int .i64 (s i))
  rb : W1.rowIs (W.heap.size + 1) 23 1 (fun _ => .slice (some ⟨W.heap.size, 0, none⟩) n n)
  bb : W1.rowIs (W.heap.size + 1 + 1) 27 1 (fun _ => sl)
  size : X.heap.size ≤ W1.heap.size
  bel : Below W.heap.size W W1
theorem row_cells10 {w : World} {g n : Nat} {t : TypeId} {f : Nat → Value} (h : w.rowIs g t n f) : ∃ c, w.heap[g]? = some (.cells c t (0, 0)) := by
  obtain ⟨c, e, _⟩ := h
  exact ⟨c, e⟩
theorem row_from10 {A B : World} {g n : Nat} {t : TypeId} {f : Nat → Value} {row : Option Nat} (q : A.rowIs g t n f) (hg : A.grownBy B row) (hr : ∀ r, row = some r → ∃ o : Obj, A.heap[r]? = some o ∧ o.isCells = false) : B.rowIs g t n f := by
  obtain ⟨c, e⟩ := row_cells10 q
  exact q.of_block (grownBy_keeps_cells hg hr e rfl)
theorem RankI.from {W X W1 W2 : World} {sl : Value} {n B : Nat} {s : Nat → Int} {row : Option Nat} (h : RankI W X sl n s W1) (hg : W1.grownBy W2 row) (hr : ∀ r, row = some r → B ≤ r ∧ ∃ o : Obj, W1.heap[r]? = some o ∧ o.isCells = false) (hB : W.heap.size ≤ B) : RankI W X sl n s W2 := by
  have hr2 : ∀ r, row = some r → ∃ o : Obj, W1.heap[r]? = some o ∧ o.isCells = false := fun r e => (hr r e).2
  exact ⟨row_from10 h.rk hg hr2, row_from10 h.rb hg hr2, row_from10 h.bb hg hr2, Nat.le_trans h.size hg.size, h.bel.grown hg h.bel.size (fun r e => Nat.le_trans hB (hr r e).1)⟩
theorem RankI.drew {W X W1 : World} {sl : Value} {n : Nat} {s : Nat → Int} (h : RankI W X sl n s W1) : RankI W X sl n s W1.drew := ⟨h.rk, h.rb, h.bb, h.size, h.bel.drew⟩
theorem RankI.set {W X W1 : World} {sl : Value} {n i : Nat} {s s' : Nat → Int} {v : Int} (h : RankI W X sl n s W1) (hs : ∀ j, s' j = if j = i then v else s j) : RankI W X sl n s' (W1.setCell ⟨W.heap.size, i, none⟩ (.int .i64 v)) :=
  ⟨World.rowIs.congr (h.rk.set i (.int .i64 v)) (fun j hj => by rw [hs j]; split <;> rfl), h.rb.setOther (by show W.heap.size + 1 ≠ W.heap.size; omega) _, h.bb.setOther (by show W.heap.size + 1 + 1 ≠ W.heap.size; omega) _, by simpa [World.setCell] using h.size, h.bel.setCell (Nat.le_refl _) _⟩
/-- One task's box. -/
def TaskBox (A : Nat → Option Addr × Nat) (f : Nat → Pv) (g x : Nat) (w : World) : Prop := w.rowIs g 46 2 (fun i => if i = 0 then .int .i64 (f x).c else .slice (A x).1 (f x).zs.length (A x).2)
theorem results_one10 {fn : Func} {t : Tmp} (h : fn.results = #[.tmp t]) (tmps : Array Value) (P : Program) (w : World) : (results fn tmps).run P w = .ok (tmps.getD t undef) w := by
  simp [results, h]
/-- Nothing below, nor the list's box, nor what is no cells, has turned. -/
structure KeptB (n₁ Bs B : Nat) (W1 W2 : World) : Prop where
  kp : KeepLo n₁ Bs W1 W2
  kf : KeepsFrom B W1 W2
theorem KeptB.refl (n₁ Bs B : Nat) (W : World) : KeptB n₁ Bs B W W := ⟨KeepLo.refl _ _ _, KeepsFrom.refl _ _⟩
theorem KeptB.drew {n₁ Bs B : Nat} {W1 W2 : World} (h : KeptB n₁ Bs B W1 W2) : KeptB n₁ Bs B W1 W2.drew := ⟨⟨h.kp.size, h.kp.block⟩, ⟨h.kf.size, h.kf.same⟩⟩
theorem KeptB.set {n₁ Bs B i : Nat} {v : Value} {W1 W2 : World} (h : KeptB n₁ Bs B W1 W2) (h1 : n₁ ≠ Bs) (hB : n₁ < B) : KeptB n₁ Bs B W1 (W2.setCell ⟨n₁, i, none⟩ v) :=
  ⟨⟨by simpa [World.setCell] using h.kp.size, fun k hk => (Below.heap_setCell _ _ _ _ (by simp; omega)).trans (h.kp.block k hk)⟩, ⟨by simpa [World.setCell] using h.kf.size, fun k o hk ho hoc => (Below.heap_setCell _ _ _ _ (by simp; omega)).trans (h.kf.same k o hk ho hoc)⟩⟩
set_option maxHeartbeats 8000000 in
theorem impl_ranks (a : Option Addr) (n cap : Nat) (f : Nat → Pv) (W : World) (hn : n ≤ 12) (hg : Hid (∀ k, k < n → taskB (f k) k = true)) (hlen : Hid (∀ k, k < n → (f k).zs.length ≤ 1048576)) (h : Hid (Pats W a n f)) :
    Calls Try.prog 33 #[.slice a n cap] W fun e W' => e = .returned (.slice (some ⟨W.heap.size, 0, none⟩) n n) ∧ W'.rowIs W.heap.size 3 n (fun i => .int .i64 (rankV f n i)) ∧ Below W.heap.size W W' := by
  obtain ⟨A, HA⟩ : ∃ A, Hid ((n = 0 ∨ ∃ b o, a = some ⟨b, o, none⟩ ∧ b < W.heap.size ∧ ∀ i, i < n * 2 → W.cell? ⟨b, o + i, none⟩ = some (cellP A f i)) ∧ ∀ k, k < n → Ints W (A k).1 (f k).zs) := by
    rcases h.out with e | ⟨b, o, A, e, hb, hc, hi⟩
    · exact ⟨noPA, Or.inl e, fun k hk => by omega⟩
    · exact ⟨A, Or.inr ⟨b, o, e, hb, hc⟩, hi⟩
  have hmk := run_make_row' (P := Try.prog) 23 3 (.int .i64 0) 8 Try.underlying23 row_info rfl .i64 .i64 n (by omega) (by omega)
  refine (callsIn_wide (n := 6)).1 ?_
  have f2 : Fence.wide.fn 50 := trivial
  refine callsIn_of_wp_marks Try.func33 rfl trivial ?_ rfl
  simp only [Try.ntmps33, List.size_toArray, List.length_cons, List.length_nil, Nat.reduceAdd, Nat.reduceSub, Array.replicate_succ, Array.replicate_zero, List.push_toArray, List.append_toArray, List.nil_append, List.cons_append]
  gi_wp2_with (gi_at_call 50; refine (backward_in Fence.wide _ trivial rfl _ _ _ _).mono ?_; rintro e w' ⟨rfl, rfl⟩)
  have HX : RankI W (((W.alloc (.cells (madeCells #[.int .i64 0] n) 3)).alloc (.cells #[.slice (some ⟨W.heap.size, 0, none⟩) n n] 23)).alloc (.cells #[.slice a n cap] 27)) (.slice a n cap) n (foldR (n := n) f []) (((W.alloc (.cells (madeCells #[.int .i64 0] n) 3)).alloc (.cells #[.slice (some ⟨W.heap.size, 0, none⟩) n n] 23)).alloc (.cells #[.slice a n cap] 27)) := by
    have one : ∀ (w : World) (v : Value) (t : TypeId), (w.alloc (.cells #[v] t)).rowIs w.heap.size t 1 (fun _ => v) := fun w v t => World.rowIs_alloc w #[v] t (fun _ => v) (fun i hi => by simp at hi; subst hi; rfl)
    have b0 := ((World.rowIs_made W (.int .i64 0) n 3).alloc (.cells #[.slice (some ⟨W.heap.size, 0, none⟩) n n] 23)).alloc (.cells #[.slice a n cap] 27)
    have b1 := (one (W.alloc (.cells (madeCells #[.int .i64 0] n) 3)) (.slice (some ⟨W.heap.size, 0, none⟩) n n) 23).alloc (.cells #[.slice a n cap] 27)
    have b2 := one ((W.alloc (.cells (madeCells #[.int .i64 0] n) 3)).alloc (.cells #[.slice (some ⟨W.heap.size, 0, none⟩) n n] 23)) (.slice a n cap) 27
    simp only [World.size_alloc] at b0 b1 b2
    exact ⟨b0.congr (fun i hi => rfl), b1, b2, Nat.le_refl _, by go_grown⟩
  obtain ⟨X, hX⟩ : ∃ X, Hid ((((W.alloc (.cells (madeCells #[.int .i64 0] n) 3)).alloc (.cells #[.slice (some ⟨W.heap.size, 0, none⟩) n n] 23)).alloc (.cells #[.slice a n cap] 27)) = X) := ⟨_, rfl⟩
  have hXs : X.heap.size = W.heap.size + 1 + 1 + 1 := by rw [← hX.out]; simp
  rw [hX.out] at HX ⊢
  clear hmk
  refine wpIn_rangeFunc_ownH rfl (by omega) (gf := 56) (lb := #[.pointer (some ⟨W.heap.size + 1 + 1, 0, none⟩)]) rfl trivial (enters_of Try.func56 (by kernel_rfl) rfl)
    (backward_stops Fence.wide 5 trivial rfl (by omega) (W.heap.size + 1 + 1) W.heap.size a n cap A f (by omega) X (by omega) (by omega) (by simpa using HX.bb.cell (i := 0) (by omega)) (by
      rcases HA.out.1 with e | ⟨b, o, e, hb, hc⟩
      · exact Or.inl e
      · exact Or.inr ⟨b, o, e, hb, fun i hi => (HX.bel.cell (p := ⟨b, o + i, none⟩) hb).trans (hc i hi)⟩)) keepLo_t (keepLo_b (by omega) (by omega)) (Below.refl _ _) (fun _ => rfl)
    (fun pre W1 => RankI W X (.slice a n cap) n (foldR f pre) W1)
    (fun _ _ _ => False)
    (fun s A B row hs hg hr => hs.from hg hr (by omega))
    (fun _ _ _ _ _ hs _ _ => hs)
    HX
    (fun x a' W1 => ∃ g, X.heap.size ≤ g ∧ a' = { tmps := #[Value.slice a n cap, undef, .slice none 0 0, .pointer (some ⟨W.heap.size + 1, 0, none⟩), .int .i64 (x.val : Int), .pointer (some ⟨g, 0, none⟩), undef, undef, .slice a n cap, .int .i64 (n : Int), .slice (some ⟨W.heap.size, 0, none⟩) n n, .slice a n cap, .func (.func 56) #[] #[.pointer (some ⟨W.heap.size + 1 + 1, 0, none⟩)], .int .i64 (x.val : Int), taskV A f x.val, undef, undef, undef, undef, undef, undef, undef, undef, undef, undef, undef, undef, undef, undef, undef, undef, undef, undef, undef, undef, undef, undef, undef, undef, undef, undef, undef, undef, undef], defers := [] } ∧ TaskBox A f g x.val W1)
    (fun x a' s W1 W2 row hs hg hr => by
      obtain ⟨g, h1, h2, h3⟩ := hs
      exact ⟨g, h1, h2, row_from10 h3 hg (fun r e => (hr r e).2)⟩)
    ?assign ?body ?done ?stop
  case assign =>
    intro l pre x W1 K hI hK
    have hsz := hI.size
    have HI : Hid (RankI W X (.slice a n cap) n (foldR f pre) W1) := hI
    obtain ⟨tv, htv⟩ : ∃ tv, Hid (taskV A f x.val = tv) := ⟨_, rfl⟩
    have HK : Hid (K { tmps := #[Value.slice a n cap, undef, .slice none 0 0, .pointer (some ⟨W.heap.size + 1, 0, none⟩), .int .i64 (x.val : Int), .pointer (some ⟨W1.heap.size, 0, none⟩), undef, undef, .slice a n cap, .int .i64 (n : Int), .slice (some ⟨W.heap.size, 0, none⟩) n n, .slice a n cap, .func (.func 56) #[] #[.pointer (some ⟨W.heap.size + 1 + 1, 0, none⟩)], .int .i64 (x.val : Int), taskV A f x.val, undef, undef, undef, undef, undef, undef, undef, undef, undef, undef, undef, undef, undef, undef, undef, undef, undef, undef, undef, undef, undef, undef, undef, undef, undef, undef, undef, undef, undef], defers := [] } (W1.alloc (.cells #[.int .i64 (f x.val).c, .slice (A x.val).1 (f x.val).zs.length (A x.val).2] 46))) := by
      refine hK _ _ ⟨by simp, fun k o hk ho hoc => ?_⟩ ⟨by simp, fun k hk => ?_⟩ ?_ ⟨W1.heap.size, by omega, rfl, ?_⟩
      · exact (Below.heap_alloc _ _ _ (Array.getElem?_eq_some_iff.1 ho).1).trans ho
      · exact Below.heap_alloc _ _ _ (by omega)
      · exact ⟨hI.rk.alloc _, hI.rb.alloc _, hI.bb.alloc _, by simp; omega, hI.bel.alloc hI.bel.size _⟩
      · exact World.rowIs_alloc W1 #[.int .i64 (f x.val).c, .slice (A x.val).1 (f x.val).zs.length (A x.val).2] 46 _ (fun i hi => by
          simp at hi
          rcases (show i = 0 ∨ i = 1 by omega) with rfl | rfl <;> rfl)
    clear hK hI
    unfold taskV at HK ⊢
    generalize (f x.val).c = pc at HK ⊢
    generalize (f x.val).zs.length = pl at HK ⊢
    generalize (A x.val).1 = pa at HK ⊢
    generalize (A x.val).2 = pp at HK ⊢
    gi_wp2
    exact HK.out
  case body =>
    rintro l pre x a' W1 _ _ hI ⟨g, hgX, rfl, hT⟩ hpl
    have hxl : x.val < n := x.isLt
    have hxI : (x.val : Int) < (n : Int) := by omega
    have ht := task_out (hg.out x.val hxl)
    have hbd : Hid (∀ i, 0 ≤ foldR f pre i ∧ foldR f pre i ≤ 220) := fun i => by have := foldR_bound hg.out pre i; omega
    have HST : Hid (foldR f (pre ++ [x]) = stepR (foldR f pre) x.val (f x.val)) := foldR_snoc _ _ _
    have HIn : Hid (Ints W (A x.val).1 (f x.val).zs) := HA.out.2 x.val hxl
    have HL := hlen.out x.val hxl
    have hsz := hI.size
    obtain ⟨s, hs⟩ : ∃ s, Hid (foldR f pre = s) := ⟨_, rfl⟩
    rw [hs.out] at hI hbd HST
    unfold TaskBox at hT
    generalize taskV A f x.val = tv
    obtain ⟨p, hp⟩ : ∃ p, Hid (f x.val = p) := ⟨_, rfl⟩
    obtain ⟨pa, hpa⟩ : ∃ pa, Hid ((A x.val).1 = pa) := ⟨_, rfl⟩
    obtain ⟨pp, hpp⟩ : ∃ pp, Hid ((A x.val).2 = pp) := ⟨_, rfl⟩
    rw [hp.out] at ht HST HIn HL hT
    rw [hpa.out] at HIn hT
    rw [hpp.out] at hT
    obtain ⟨L, HZ⟩ : ∃ L, Hid (p.zs.length = L) := ⟨_, rfl⟩
    rw [HZ.out] at HL hT
    obtain ⟨t0, t1, hrise⟩ := ht
    have HR : Hid (RiseTo p.zs (x.val : Int) p.zs.length) := hrise
    clear hrise
    obtain ⟨xv, hxv⟩ : ∃ xv, Hid (x.val = xv) := ⟨_, rfl⟩
    rw [hxv.out] at hxl hxI HST HR ⊢
    have HI : Hid (RankI W X (.slice a n cap) n s W1) := hI
    have HT : Hid (W1.rowIs g 46 2 (fun i => if i = 0 then .int .i64 p.c else .slice pa L pp)) := hT
    have cB := hI.rb.cell (i := 0) (by omega)
    have cR := hI.rk.cell hxl
    have zR := hI.rk.frozen xv
    have cT : W1.cell? ⟨g, 0, none⟩ = some (.int .i64 p.c) := by simpa using hT.cell (i := 0) (by omega)
    have cT1 : W1.cell? ⟨g, 1, none⟩ = some (.slice pa L pp) := by simpa using hT.cell (i := 1) (by omega)
    obtain ⟨sx, hsx⟩ : ∃ sx, Hid (s xv = sx) := ⟨_, rfl⟩
    have hbx := hbd.out xv
    rw [hsx.out] at cR hbx
    obtain ⟨b0, b1⟩ := hbx
    have hgW : g ≠ W.heap.size := by omega
    have hgW2 : W.heap.size ≠ g := by omega
    have hBW : W.heap.size + 1 ≠ W.heap.size := by omega
    clear hI hT
    gi_wp2
    refine region_round (S := (fun w' => w'.cell? ⟨W.heap.size + 1, 0, none⟩ = some (.slice (some ⟨W.heap.size, 0, none⟩) n n) ∧ w'.cell? ⟨g, 0, none⟩ = some (.int .i64 p.c))) (by kernel_rfl) (by kernel_rfl) ?_ (fun hHeld => ?_)
    · (try dsimp only); (first | assumption | (refine ⟨?_, ?_⟩ <;> first | assumption | go_simp) | go_keep)
    refine wpAnyH_take (i := 0) (v := ?v1) rfl (by kernel_rfl) (by kernel_rfl) (by kernel_rfl) (fun _ _ _ h => h) (Or.inl ⟨by rfl, ?hy1⟩) (by assumption) ?_
    case hy1 => (intro w hSw; (try dsimp only at hSw); go_simp; try with_reducible rfl)
    try simp only [Act.put, List.setIfInBounds_toArray, List.set_cons_zero, List.set_cons_succ]
    refine wpAnyH_take (i := 1) (v := ?v2) rfl (by kernel_rfl) (by kernel_rfl) (by kernel_rfl) (fun _ _ _ h => h) (Or.inl ⟨by rfl, ?hy2⟩) (by assumption) ?_
    case hy2 => (intro w hSw; (try dsimp only at hSw); go_simp; try with_reducible rfl)
    try simp only [Act.put, List.setIfInBounds_toArray, List.set_cons_zero, List.set_cons_succ]
    refine wpAnyH_take (i := 2) (v := ?v3) rfl (by kernel_rfl) (by kernel_rfl) (by kernel_rfl) (fun _ _ _ h => h) (Or.inl ⟨by rfl, ?hy3⟩) (by assumption) ?_
    case hy3 => (intro w hSw; (try dsimp only at hSw); go_simp; try with_reducible rfl)
    try simp only [Act.put, List.setIfInBounds_toArray, List.set_cons_zero, List.set_cons_succ]
    refine wpAnyH_take (i := 4) (v := ?v4) rfl (by kernel_rfl) (by kernel_rfl) (by kernel_rfl) (fun _ _ _ h => h) (Or.inl ⟨by rfl, ?hy4⟩) (by assumption) ?_
    case hy4 => (intro w hSw; (try dsimp only at hSw); go_simp; try with_reducible rfl)
    try simp only [Act.put, List.setIfInBounds_toArray, List.set_cons_zero, List.set_cons_succ]
    refine wpAnyH_take (i := 5) (v := ?v5) rfl (by kernel_rfl) (by kernel_rfl) (by kernel_rfl) (fun _ _ _ h => h) (Or.inl ⟨by rfl, ?hy5⟩) (by assumption) ?_
    case hy5 => (intro w hSw; (try dsimp only at hSw); go_simp; try with_reducible rfl)
    try simp only [Act.put, List.setIfInBounds_toArray, List.set_cons_zero, List.set_cons_succ]
    refine wpAnyH_ready (rs := [3]) (by kernel_rfl) (by simp) ?_
    refine AllReadyH.cons rfl (fun K hK => ?_) AllReadyH.nil
    go_simp
    refine hK.out _ _ ?_ (fun hHeld => ?_)
    · (try dsimp only); (first | assumption | (refine ⟨?_, ?_⟩ <;> first | assumption | go_simp) | go_keep)
    clear hK K
    try simp only [Act.put, List.setIfInBounds_toArray, List.set_cons_zero, List.set_cons_succ]
    refine wpAnyH_take (i := 6) (v := ?v6) rfl (by kernel_rfl) (by kernel_rfl) (by kernel_rfl) (fun _ _ _ h => h) (Or.inl ⟨by rfl, ?hy6⟩) (by assumption) ?_
    case hy6 => (intro w hSw; (try dsimp only at hSw); go_simp; try with_reducible rfl)
    try simp only [Act.put, List.setIfInBounds_toArray, List.set_cons_zero, List.set_cons_succ]
    refine wpAnyH_take (i := 7) (v := ?v7) rfl (by kernel_rfl) (by kernel_rfl) (by kernel_rfl) (fun _ _ _ h => h) (Or.inl ⟨by rfl, ?hy7⟩) (by assumption) ?_
    case hy7 => (intro w hSw; (try dsimp only at hSw); go_simp; try with_reducible rfl)
    try simp only [Act.put, List.setIfInBounds_toArray, List.set_cons_zero, List.set_cons_succ]
    refine wpAnyH_ready (rs := [8]) (by kernel_rfl) (by simp) ?_
    refine AllReadyH.cons rfl (fun K hK => ?_) AllReadyH.nil
    go_simp
    refine hK.out _ _ ?_ (fun hHeld => ?_)
    · (try dsimp only); (first | assumption | (refine ⟨?_, ?_⟩ <;> first | assumption | go_simp) | go_keep)
    clear hK K
    try simp only [Act.put, List.setIfInBounds_toArray, List.set_cons_zero, List.set_cons_succ]
    refine wpAnyH_done (by kernel_rfl) ?_ _
    refine Norm.normal ?_
    clear hHeld
    clear cB cR zR
    gi_wp2
    have HI2 : Hid (RankI W X (.slice a n cap) n (midR s xv p 0) ((W1.setCell ⟨W.heap.size, xv, none⟩ (.int .i64 (sx + p.c))).drew)) := (HI.out.set (fun j => by rw [midR_zero, hsx.out])).drew
    have HT2 : Hid (((W1.setCell ⟨W.heap.size, xv, none⟩ (.int .i64 (sx + p.c))).drew).rowIs g 46 2 (fun i => if i = 0 then .int .i64 p.c else .slice pa L pp)) := World.rowIs.setOther (w := W1) HT.out (by show g ≠ W.heap.size; omega) _
    have HK2 : Hid (KeptB W.heap.size (W.heap.size + 1 + 1) X.heap.size W1 ((W1.setCell ⟨W.heap.size, xv, none⟩ (.int .i64 (sx + p.c))).drew)) := ((KeptB.refl _ _ _ _).set (by omega) (by omega)).drew
    generalize (W1.setCell ⟨W.heap.size, xv, none⟩ (.int .i64 (sx + p.c))).drew = W2 at HI2 HT2 HK2 ⊢
    clear cT HT cT1
    gi_loopw [26] (fun vj wr => ∃ j : Nat, j ≤ L ∧ vj = .int .i64 (j : Int) ∧ Hid (RankI W X (.slice a n cap) n (midR s xv p j) wr) ∧ Hid (KeptB W.heap.size (W.heap.size + 1 + 1) X.heap.size W1 wr)) (fun vj _ => L - (intOf vj).toNat)
    case atStart => exact ⟨0, Nat.zero_le _, rfl, HI2, HK2⟩
    case round =>
      obtain ⟨j, hj, rfl, HI3, HK3⟩ := hrel
      by_cases hjL : j < L
      rotate_left
      · have HE : Hid (midR s xv p j = foldR f (pre ++ [x])) := by show _ = _; rw [HST.out, show j = L by omega, ← HZ.out]; rfl
        gi_wp2
        exact ⟨HK3.out.kf, HK3.out.kp, by show RankI W X (.slice a n cap) n (foldR f (pre ++ [x])) wr; rw [← HE.out]; exact HI3.out⟩
      have hjI : (j : Int) < (L : Int) := by omega
      obtain ⟨b, off, ha, hc⟩ := HIn.out.at HI3.out.bel (k := j) (by rw [HZ.out]; exact hjL)
      subst ha
      have hr := HR.out j (by rw [HZ.out]; exact hjL)
      obtain ⟨z, hz⟩ : ∃ z : Nat, Hid (p.zs.getD j 0 = (z : Int)) := ⟨(p.zs.getD j 0).toNat, by show _ = _; omega⟩
      rw [hz.out] at hc hr
      have hzx : z < xv := by omega
      have hzn : z < n := by omega
      have hzI : (z : Int) < (n : Int) := by omega
      have HN : Hid (∀ i, midR s xv p (j + 1) i = if i = z then max (midR s xv p j z) (midR s xv p j xv) else midR s xv p j i) := midR_next hz.out (by omega)
      have mb := midR_bound (s := s) (x := xv) (p := p) hbd.out (by omega) t1 j z
      have mbx := midR_bound (s := s) (x := xv) (p := p) hbd.out (by omega) t1 j xv
      have cB := HI3.out.rb.cell (i := 0) (by omega)
      have cZ := HI3.out.rk.cell hzn
      have zZ := HI3.out.rk.frozen z
      have cX := HI3.out.rk.cell hxl
      obtain ⟨mz, hmz⟩ : ∃ mz, Hid (midR s xv p j z = mz) := ⟨_, rfl⟩
      obtain ⟨mx, hmx⟩ : ∃ mx, Hid (midR s xv p j xv = mx) := ⟨_, rfl⟩
      rw [hmz.out] at cZ HN mb
      rw [hmx.out] at cX HN mbx
      have hzne : ¬ z = xv := by omega
      have hzne2 : ¬ xv = z := by omega
      have HN2 : Hid (∀ i, midR s xv p (j + 1) i = if i = z then (if mz < mx then mx else mz) else midR s xv p j i) := by
        show ∀ i, _ = _
        intro i
        rw [HN.out i]
        by_cases q : i = z
        · rw [if_pos q, if_pos q]; split <;> omega
        · rw [if_neg q, if_neg q]
      clear HN
      gi_wp2
      refine region_round (S := (fun w' => w'.cell? ⟨W.heap.size + 1, 0, none⟩ = some (.slice (some ⟨W.heap.size, 0, none⟩) n n) ∧ w'.cell? ⟨W.heap.size, xv, none⟩ = some (.int .i64 mx))) (by kernel_rfl) (by kernel_rfl) ?_ (fun hHeld => ?_)
      · (try dsimp only); (first | assumption | (refine ⟨?_, ?_⟩ <;> first | assumption | go_simp) | go_keep)
      refine wpAnyH_take (i := 0) (v := ?v8) rfl (by kernel_rfl) (by kernel_rfl) (by kernel_rfl) (fun _ _ _ h => h) (Or.inl ⟨by rfl, ?hy8⟩) (by assumption) ?_
      case hy8 => (intro w hSw; (try dsimp only at hSw); go_simp; try with_reducible rfl)
      try simp only [Act.put, List.setIfInBounds_toArray, List.set_cons_zero, List.set_cons_succ]
      refine wpAnyH_take (i := 1) (v := ?v9) rfl (by kernel_rfl) (by kernel_rfl) (by kernel_rfl) (fun _ _ _ h => h) (Or.inl ⟨by rfl, ?hy9⟩) (by assumption) ?_
      case hy9 => (intro w hSw; (try dsimp only at hSw); go_simp; try with_reducible rfl)
      try simp only [Act.put, List.setIfInBounds_toArray, List.set_cons_zero, List.set_cons_succ]
      refine wpAnyH_take (i := 2) (v := ?v10) rfl (by kernel_rfl) (by kernel_rfl) (by kernel_rfl) (fun _ _ _ h => h) (Or.inl ⟨by rfl, ?hy10⟩) (by assumption) ?_
      case hy10 => (intro w hSw; (try dsimp only at hSw); go_simp; try with_reducible rfl)
      try simp only [Act.put, List.setIfInBounds_toArray, List.set_cons_zero, List.set_cons_succ]
      refine wpAnyH_take (i := 3) (v := ?v11) rfl (by kernel_rfl) (by kernel_rfl) (by kernel_rfl) (fun _ _ _ h => h) (Or.inl ⟨by rfl, ?hy11⟩) (by assumption) ?_
      case hy11 => (intro w hSw; (try dsimp only at hSw); go_simp; try with_reducible rfl)
      try simp only [Act.put, List.setIfInBounds_toArray, List.set_cons_zero, List.set_cons_succ]
      refine wpAnyH_take (i := 4) (v := ?v12) rfl (by kernel_rfl) (by kernel_rfl) (by kernel_rfl) (fun _ _ _ h => h) (Or.inl ⟨by rfl, ?hy12⟩) (by assumption) ?_
      case hy12 => (intro w hSw; (try dsimp only at hSw); go_simp; try with_reducible rfl)
      try simp only [Act.put, List.setIfInBounds_toArray, List.set_cons_zero, List.set_cons_succ]
      refine wpAnyH_take (i := 6) (v := ?v13) rfl (by kernel_rfl) (by kernel_rfl) (by kernel_rfl) (fun _ _ _ h => h) (Or.inl ⟨by rfl, ?hy13⟩) (by assumption) ?_
      case hy13 => (intro w hSw; (try dsimp only at hSw); go_simp; try with_reducible rfl)
      try simp only [Act.put, List.setIfInBounds_toArray, List.set_cons_zero, List.set_cons_succ]
      refine wpAnyH_take (i := 7) (v := ?v14) rfl (by kernel_rfl) (by kernel_rfl) (by kernel_rfl) (fun _ _ _ h => h) (Or.inl ⟨by rfl, ?hy14⟩) (by assumption) ?_
      case hy14 => (intro w hSw; (try dsimp only at hSw); go_simp; try with_reducible rfl)
      try simp only [Act.put, List.setIfInBounds_toArray, List.set_cons_zero, List.set_cons_succ]
      refine wpAnyH_take (i := 8) (v := ?v15) rfl (by kernel_rfl) (by kernel_rfl) (by kernel_rfl) (fun _ _ _ h => h) (Or.inl ⟨by rfl, ?hy15⟩) (by assumption) ?_
      case hy15 => (intro w hSw; (try dsimp only at hSw); go_simp; try with_reducible rfl)
      try simp only [Act.put, List.setIfInBounds_toArray, List.set_cons_zero, List.set_cons_succ]
      refine wpAnyH_take (i := 9) (v := ?v16) rfl (by kernel_rfl) (by kernel_rfl) (by kernel_rfl) (fun _ _ _ h => h) (Or.inl ⟨by rfl, ?hy16⟩) (by assumption) ?_
      case hy16 => (intro w hSw; (try dsimp only at hSw); go_simp; try with_reducible rfl)
      try simp only [Act.put, List.setIfInBounds_toArray, List.set_cons_zero, List.set_cons_succ]
      refine wpAnyH_ready (rs := [5]) (by kernel_rfl) (by simp) ?_
      refine AllReadyH.cons rfl (fun K hK => ?_) AllReadyH.nil
      go_simp
      refine hK.out _ _ ?_ (fun hHeld => ?_)
      · (try dsimp only); (first | assumption | (refine ⟨?_, ?_⟩ <;> first | assumption | go_simp) | go_keep)
      clear hK K
      try simp only [Act.put, List.setIfInBounds_toArray, List.set_cons_zero, List.set_cons_succ]
      refine wpAnyH_ready (rs := [10]) (by kernel_rfl) (by simp) ?_
      refine AllReadyH.cons rfl (fun K hK => ?_) AllReadyH.nil
      go_simp
      refine hK.out _ _ ?_ (fun hHeld => ?_)
      · (try dsimp only); (first | assumption | (refine ⟨?_, ?_⟩ <;> first | assumption | go_simp) | go_keep)
      clear hK K
      try simp only [Act.put, List.setIfInBounds_toArray, List.set_cons_zero, List.set_cons_succ]
      refine wpAnyH_take (i := 11) (v := ?v17) rfl (by kernel_rfl) (by kernel_rfl) (by kernel_rfl) (fun _ _ _ h => h) (Or.inl ⟨by rfl, ?hy17⟩) (by assumption) ?_
      case hy17 => (intro w hSw; (try dsimp only at hSw); go_simp; try with_reducible rfl)
      try simp only [Act.put, List.setIfInBounds_toArray, List.set_cons_zero, List.set_cons_succ]
      refine wpAnyH_ready (rs := [12]) (by kernel_rfl) (by simp) ?_
      refine AllReadyH.cons rfl (fun K hK => ?_) AllReadyH.nil
      go_simp
      refine hK.out _ _ ?_ (fun hHeld => ?_)
      · (try dsimp only); (first | assumption | (refine ⟨?_, ?_⟩ <;> first | assumption | go_simp) | go_keep)
      clear hK K
      try simp only [Act.put, List.setIfInBounds_toArray, List.set_cons_zero, List.set_cons_succ]
      refine wpAnyH_done (by kernel_rfl) ?_ _
      refine Norm.normal ?_
      clear hHeld
      gi_wp2
      go_roundw
      case rel => exact ⟨j + 1, by omega, by go_num, (HI3.out.set HN2.out).drew, (HK3.out.set (by omega) (by omega)).drew⟩
      case measure => simp [intOf]; omega
  case done =>
    rintro D ys W1 hD rfl hI hK
    rw [downF_all] at hI
    have HI : Hid (RankI W X (.slice a n cap) n (rankV f n) W1) := hI
    have cB := hI.rb.cell (i := 0) (by omega)
    have HK : Hid (W1.heap[D]? = some (.deferred (some []))) := hK
    clear hI hK
    gi_wp2
    refine ⟨by simp, .inl ⟨_, _, rfl, run_takeDeferred HK.out, ?_⟩⟩
    have hG := grownBy_putObj' W1 D (.deferred none)
    have hr : ∀ r, some D = some r → ∃ o : Obj, W1.heap[r]? = some o ∧ o.isCells = false := fun r e => by cases e; exact ⟨_, HK.out, rfl⟩
    exact ⟨_, results_one10 rfl _ _ _, rfl, row_from10 HI.out.rk hG hr, HI.out.bel.grown hG HI.out.bel.size (fun r e => by cases e; omega)⟩
  case stop =>
    rintro D c pre W _ _ h _
    exact h.elim
end Go.Proofs.Ytfgfhmfdkglhoaa.walks
