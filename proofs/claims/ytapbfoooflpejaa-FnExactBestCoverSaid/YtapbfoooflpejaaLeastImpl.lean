/-
  What the program's leastCovers answers; it makes new memory alone.
-/
import Derived.RangeFuncNested
import Derived.RangeFuncBound
import Derived.RangeFuncCalls
import Derived.RangeFuncLeaves
import Derived.RangeFuncWrites
import Derived.Shelf.Abstract
import Derived.WalkKit
import Derived.OwnWalkIn
import Derived.TacticsInMore
import Derived.LoopNIn
import Derived.LoopIn
import Derived.Test.YtapbfoooflpejaaProg
import Derived.Test.YtapbfoooflpejaaBestMath
import Derived.Test.YtapbfoooflpejaaBackInts
import Derived.Test.YtapbfoooflpejaaCostBy
namespace Go.Proofs.Ytapbfoooflpejaa.walks
open Go.RowKit Go.Shelf Go.Proofs.Ytapbfoooflpejaa.math Go.Proofs.Ytapbfoooflpejaa.ints
set_option linter.unusedVariables false
set_option maxRecDepth 100000
attribute [local go_sem] Oper.semAt_some

/-- One cell of what is known. -/
def cellB (s : Bs) (i : Nat) : Value := if i % 2 = 0 then .int .i64 ((s (i / 2)).1 : Int) else .int .i64 (s (i / 2)).2
theorem cellB_p (s : Bs) (k : Nat) : cellB s (k * 2) = .int .i64 ((s k).1 : Int) := by unfold cellB; rw [if_pos (by omega), show k * 2 / 2 = k by omega]
theorem cellB_c (s : Bs) (k : Nat) : cellB s (k * 2 + 1) = .int .i64 (s k).2 := by unfold cellB; rw [if_neg (by omega), show (k * 2 + 1) / 2 = k by omega]
/-- The loop's memory. -/
structure LeastI (W X : World) (tb to tl tc sb : Nat) (gv : Option Addr) (n gc : Nat) (s : Bs) (W1 : World) : Prop where
  cb : W1.rowIs W.heap.size 56 3 (fun i => if i = 0 then .slice (some ⟨tb, to, none⟩) tl tc else if i = 1 then .slice (some ⟨sb, 0, none⟩) tl tl else .slice gv n gc)
  row : W1.rowIs (W.heap.size + 1) 63 (tl * 2) (cellB s)
  lb : W1.rowIs (W.heap.size + 1 + 1) 59 1 (fun _ => .slice (some ⟨W.heap.size + 1, 0, none⟩) tl tl)
  bb : W1.rowIs (W.heap.size + 1 + 1 + 1) 22 1 (fun _ => .slice (some ⟨tb, to, none⟩) tl tc)
  size : X.heap.size ≤ W1.heap.size
  bel : Below W.heap.size W W1
theorem row_cellsL {w : World} {g n : Nat} {t : TypeId} {f : Nat → Value} (h : w.rowIs g t n f) : ∃ c, w.heap[g]? = some (.cells c t (0, 0)) := by
  obtain ⟨c, e, _⟩ := h
  exact ⟨c, e⟩
theorem row_fromL {A B : World} {g n : Nat} {t : TypeId} {f : Nat → Value} {row : Option Nat} (q : A.rowIs g t n f) (hg : A.grownBy B row) (hr : ∀ r, row = some r → ∃ o : Obj, A.heap[r]? = some o ∧ o.isCells = false) : B.rowIs g t n f := by
  obtain ⟨c, e⟩ := row_cellsL q
  exact q.of_block (grownBy_keeps_cells hg hr e rfl)
theorem LeastI.from {W X W1 W2 : World} {tb to tl tc sb : Nat} {gv : Option Addr} {n gc B : Nat} {s : Bs} {row : Option Nat} (h : LeastI W X tb to tl tc sb gv n gc s W1) (hg : W1.grownBy W2 row) (hr : ∀ r, row = some r → B ≤ r ∧ ∃ o : Obj, W1.heap[r]? = some o ∧ o.isCells = false) (hB : W.heap.size ≤ B) : LeastI W X tb to tl tc sb gv n gc s W2 := by
  have hr2 : ∀ r, row = some r → ∃ o : Obj, W1.heap[r]? = some o ∧ o.isCells = false := fun r e => (hr r e).2
  exact ⟨row_fromL h.cb hg hr2, row_fromL h.row hg hr2, row_fromL h.lb hg hr2, row_fromL h.bb hg hr2, Nat.le_trans h.size hg.size, h.bel.grown hg h.bel.size (fun r e => Nat.le_trans hB (hr r e).1)⟩
theorem LeastI.kept {W X W1 W2 : World} {tb to tl tc sb : Nat} {gv : Option Addr} {n gc : Nat} {s : Bs} (h : LeastI W X tb to tl tc sb gv n gc s W1) (hb : Below W1.heap.size W1 W2) : LeastI W X tb to tl tc sb gv n gc s W2 :=
  ⟨h.cb.of_block (hb.block _ h.cb.lt), h.row.of_block (hb.block _ h.row.lt), h.lb.of_block (hb.block _ h.lb.lt), h.bb.of_block (hb.block _ h.bb.lt), Nat.le_trans h.size hb.size, h.bel.trans (hb.mono h.bel.size)⟩
theorem LeastI.set {W X W1 : World} {tb to tl tc sb : Nat} {gv : Option Addr} {n gc a k : Nat} {c : Int} {s : Bs} (h : LeastI W X tb to tl tc sb gv n gc s W1) : LeastI W X tb to tl tc sb gv n gc (updB s a (k, c)) ((W1.setCell ⟨W.heap.size + 1, a * 2, none⟩ (.int .i64 (k : Int))).setCell ⟨W.heap.size + 1, a * 2 + 1, none⟩ (.int .i64 c)) := by
  refine ⟨(h.cb.setOther (by show W.heap.size ≠ W.heap.size + 1; omega) _).setOther (by show W.heap.size ≠ W.heap.size + 1; omega) _, ?_, (h.lb.setOther (by show W.heap.size + 1 + 1 ≠ W.heap.size + 1; omega) _).setOther (by show W.heap.size + 1 + 1 ≠ W.heap.size + 1; omega) _, (h.bb.setOther (by show W.heap.size + 1 + 1 + 1 ≠ W.heap.size + 1; omega) _).setOther (by show W.heap.size + 1 + 1 + 1 ≠ W.heap.size + 1; omega) _, by simpa [World.setCell] using h.size, (h.bel.setCell (by show W.heap.size ≤ W.heap.size + 1; omega) _).setCell (by show W.heap.size ≤ W.heap.size + 1; omega) _⟩
  refine World.rowIs.congr ((h.row.set (a * 2) (.int .i64 (k : Int))).set (a * 2 + 1) (.int .i64 c)) (fun i hi => ?_)
  by_cases e1 : i = a * 2 + 1
  · rw [if_pos e1, e1, cellB_c, updB_same]
  · rw [if_neg e1]
    by_cases e2 : i = a * 2
    · rw [if_pos e2, e2, cellB_p, updB_same]
    · rw [if_neg e2]
      unfold cellB
      rw [updB_other _ _ (by omega)]
theorem LeastI.least {W X W1 : World} {tb to tl tc sb : Nat} {gv : Option Addr} {n gc : Nat} {s : Bs} (h : LeastI W X tb to tl tc sb gv n gc s W1) : LeastIn W1 (W.heap.size + 1) tl s :=
  ⟨h.row.lt, fun i hi => ⟨by rw [h.row.cell (i := i * 2) (by omega), cellB_p], by rw [h.row.cell (i := i * 2 + 1) (by omega), cellB_c]⟩⟩
/-- Nothing below, nor the list's box, nor what is no cells, has turned. -/
structure KeptL (n₁ Bs B : Nat) (W1 W2 : World) : Prop where
  kp : KeepLo n₁ Bs W1 W2
  kf : KeepsFrom B W1 W2
theorem KeptL.refl (n₁ Bs B : Nat) (W : World) : KeptL n₁ Bs B W W := ⟨KeepLo.refl _ _ _, KeepsFrom.refl _ _⟩
theorem KeptL.below {n₁ Bs B : Nat} {W1 W2 W3 : World} (h : KeptL n₁ Bs B W1 W2) (hb : Below W2.heap.size W2 W3) (h1 : n₁ ≤ W2.heap.size) (h2 : Bs < W2.heap.size) : KeptL n₁ Bs B W1 W3 :=
  ⟨⟨Nat.le_trans h.kp.size hb.size, fun k hk => (hb.block k (by omega)).trans (h.kp.block k hk)⟩, ⟨Nat.le_trans h.kf.size hb.size, fun k o hk ho hoc => (hb.block k (by have := h.kf.same k o hk ho hoc; exact (Array.getElem?_eq_some_iff.1 this).1)).trans (h.kf.same k o hk ho hoc)⟩⟩
theorem KeptL.set {n₁ Bs B i g : Nat} {v : Value} {W1 W2 : World} (h : KeptL n₁ Bs B W1 W2) (h1 : n₁ ≤ g) (h2 : g ≠ Bs) (hB : g < B) : KeptL n₁ Bs B W1 (W2.setCell ⟨g, i, none⟩ v) :=
  ⟨⟨by simpa [World.setCell] using h.kp.size, fun k hk => (Below.heap_setCell _ _ _ _ (by simp; omega)).trans (h.kp.block k hk)⟩, ⟨by simpa [World.setCell] using h.kf.size, fun k o hk ho hoc => (Below.heap_setCell _ _ _ _ (by simp; omega)).trans (h.kf.same k o hk ho hoc)⟩⟩
theorem results_oneL {fn : Func} {t : Tmp} (h : fn.results = #[.tmp t]) (tmps : Array Value) (P : Program) (w : World) : (results fn tmps).run P w = .ok (tmps.getD t undef) w := by
  simp [results, h]
theorem least_info : (Try.prog.info? 63).map (fun i => (i.zero, i.size, i.bytes)) = some (some (.agg #[.int .i64 0, .int .i64 0]), 2, 16) := by kernel_rfl
theorem least_made (n i : Nat) (hi : i < n) : (madeCells #[.int .i64 0, .int .i64 0] n)[i]? = some (cellB (fun _ => (0, 0)) i) := by
  have h : i % 2 < 2 := Nat.mod_lt _ (by decide)
  simp only [madeCells, Array.getElem?_map, Array.getElem?_range, hi, if_true, Option.map_some, cellB]
  generalize i % 2 = j at h
  congr 1
  match j, h with
  | 0, _ => rfl
  | 1, _ => rfl
  | j + 2, h => omega
/-- What is known at the end. -/
def leastS (t : List Int) (f : Nat → Pv) (n : Nat) : Bs := foldB t f n (downTo t.length t.length)
set_option maxHeartbeats 8000000 in
theorem impl_least (t : List Int) (tl tb to tc sb : Nat) (gv : Option Addr) (n gc : Nat) (f : Nat → Pv) (G : Nat → Nat) (W : World) (hz : Hid (t.length = tl)) (ht : Hid (TreeIn W t tb to tc sb 0 t.length)) (hT : Hid (TilesM W gv n f G)) (hg : Hid (GoodPs f n)) (hn : n ≤ 12) :
    Calls Try.prog 26 #[.agg #[.slice (some ⟨tb, to, none⟩) tl tc, .slice (some ⟨sb, 0, none⟩) tl tl, .slice gv n gc]] W fun e W' => e = .returned (.slice (some ⟨W.heap.size + 1, 0, none⟩) tl tl) ∧ W'.rowIs (W.heap.size + 1) 63 (tl * 2) (cellB (leastS t f n)) ∧ Below W.heap.size W W' := by
  have hw := ht.out.whole
  have ht40 : tl ≤ 40 := by have := ht.out.le; have := hz.out; omega
  have htt : tb < W.heap.size := ht.out.tlt
  have HLS : Hid (leastS t f n = foldB t f n (downTo tl tl)) := by show _ = _; unfold leastS; rw [hz.out]
  have HBD : Hid (∀ pre : List (Fin tl), Bnd t (foldB t f n pre)) := fun pre => foldB_bnd hz.out hw (by rw [hz.out]; exact ht40) hg.out pre
  have HRB : Hid (∀ (s : Bs) a k, Bnd t s → a < tl → k ≤ n → Bnd t (roundB t f a s k)) := fun s a k q1 q2 q3 => roundB_bnd hw (by rw [hz.out]; exact ht40) hg.out (by rw [hz.out]; exact q2) q1 k q3
  have hIT : Ints W (some ⟨tb, to, none⟩) t := Or.inr ⟨tb, to, rfl, htt, ht.out.kind⟩
  obtain ⟨i0, hi, hz0, hz1, hz2⟩ := info_parts least_info
  have hmk : ∀ w : World, (Instr.makeSlice 59 (.int .i64 (tl : Int)) (.int .i64 (tl : Int))).run Try.prog w = .ok (.slice (some ⟨w.heap.size, 0, none⟩) tl tl) (w.alloc (.cells (madeCells #[.int .i64 0, .int .i64 0] (tl * 2)) 63)) := by
    intro w
    have hr := run_make (P := Try.prog) w 59 63 i0 _ Try.underlying59 hi hz0 .i64 .i64 (tl : Int) (tl : Int) (by omega) (Int.le_refl _) (by rw [hz2]; omega) (by omega)
    simp only [Int.toNat_natCast] at hr
    rw [hr, hz1]; rfl
  clear hi hz0 hz1 hz2
  refine (callsIn_wide (n := 6)).1 ?_
  have f2 : Fence.wide.fn 39 := trivial
  refine callsIn_of_wp_marks Try.func26 rfl trivial ?_ rfl
  simp only [Try.ntmps26, List.size_toArray, List.length_cons, List.length_nil, Nat.reduceAdd, Nat.reduceSub, Array.replicate_succ, Array.replicate_zero, List.push_toArray, List.append_toArray, List.nil_append, List.cons_append]
  gi_wp2_with (gi_at_call 39; refine (backward_in Fence.wide _ trivial rfl _ _ _ _).mono ?_; rintro e w' ⟨rfl, rfl⟩)
  have HX : LeastI W ((((W.alloc (.cells #[.slice (some ⟨tb, to, none⟩) tl tc, .slice (some ⟨sb, 0, none⟩) tl tl, .slice gv n gc] 56)).alloc (.cells (madeCells #[.int .i64 0, .int .i64 0] (tl * 2)) 63)).alloc (.cells #[.slice (some ⟨W.heap.size + 1, 0, none⟩) tl tl] 59)).alloc (.cells #[.slice (some ⟨tb, to, none⟩) tl tc] 22)) tb to tl tc sb gv n gc (foldB (len := tl) t f n []) ((((W.alloc (.cells #[.slice (some ⟨tb, to, none⟩) tl tc, .slice (some ⟨sb, 0, none⟩) tl tl, .slice gv n gc] 56)).alloc (.cells (madeCells #[.int .i64 0, .int .i64 0] (tl * 2)) 63)).alloc (.cells #[.slice (some ⟨W.heap.size + 1, 0, none⟩) tl tl] 59)).alloc (.cells #[.slice (some ⟨tb, to, none⟩) tl tc] 22)) := by
    have one : ∀ (w : World) (v : Value) (t : TypeId), (w.alloc (.cells #[v] t)).rowIs w.heap.size t 1 (fun _ => v) := fun w v t => World.rowIs_alloc w #[v] t (fun _ => v) (fun i hi => by simp at hi; subst hi; rfl)
    have b0 := (((World.rowIs_alloc W #[.slice (some ⟨tb, to, none⟩) tl tc, .slice (some ⟨sb, 0, none⟩) tl tl, .slice gv n gc] 56 (fun i => if i = 0 then .slice (some ⟨tb, to, none⟩) tl tc else if i = 1 then .slice (some ⟨sb, 0, none⟩) tl tl else .slice gv n gc) (fun i hi => by
      simp at hi
      rcases (show i = 0 ∨ i = 1 ∨ i = 2 by omega) with rfl | rfl | rfl <;> rfl)).alloc (.cells (madeCells #[.int .i64 0, .int .i64 0] (tl * 2)) 63)).alloc (.cells #[.slice (some ⟨W.heap.size + 1, 0, none⟩) tl tl] 59)).alloc (.cells #[.slice (some ⟨tb, to, none⟩) tl tc] 22)
    have b1 := ((World.rowIs_alloc (W.alloc (.cells #[.slice (some ⟨tb, to, none⟩) tl tc, .slice (some ⟨sb, 0, none⟩) tl tl, .slice gv n gc] 56)) (madeCells #[.int .i64 0, .int .i64 0] (tl * 2)) 63 (cellB (fun _ => (0, 0))) (fun i hi => least_made _ i (by rw [size_madeCells] at hi; exact hi))).alloc (.cells #[.slice (some ⟨W.heap.size + 1, 0, none⟩) tl tl] 59)).alloc (.cells #[.slice (some ⟨tb, to, none⟩) tl tc] 22)
    have b2 := (one ((W.alloc (.cells #[.slice (some ⟨tb, to, none⟩) tl tc, .slice (some ⟨sb, 0, none⟩) tl tl, .slice gv n gc] 56)).alloc (.cells (madeCells #[.int .i64 0, .int .i64 0] (tl * 2)) 63)) (.slice (some ⟨W.heap.size + 1, 0, none⟩) tl tl) 59).alloc (.cells #[.slice (some ⟨tb, to, none⟩) tl tc] 22)
    have b3 := one (((W.alloc (.cells #[.slice (some ⟨tb, to, none⟩) tl tc, .slice (some ⟨sb, 0, none⟩) tl tl, .slice gv n gc] 56)).alloc (.cells (madeCells #[.int .i64 0, .int .i64 0] (tl * 2)) 63)).alloc (.cells #[.slice (some ⟨W.heap.size + 1, 0, none⟩) tl tl] 59)) (.slice (some ⟨tb, to, none⟩) tl tc) 22
    simp only [World.size_alloc, size_madeCells, List.size_toArray, List.length_cons, List.length_nil, Nat.zero_add] at b0 b1 b2 b3
    exact ⟨b0, b1, b2, b3, Nat.le_refl _, by go_grown⟩
  obtain ⟨X, hX⟩ : ∃ X, Hid (((((W.alloc (.cells #[.slice (some ⟨tb, to, none⟩) tl tc, .slice (some ⟨sb, 0, none⟩) tl tl, .slice gv n gc] 56)).alloc (.cells (madeCells #[.int .i64 0, .int .i64 0] (tl * 2)) 63)).alloc (.cells #[.slice (some ⟨W.heap.size + 1, 0, none⟩) tl tl] 59)).alloc (.cells #[.slice (some ⟨tb, to, none⟩) tl tc] 22)) = X) := ⟨_, rfl⟩
  have hXs : X.heap.size = W.heap.size + 1 + 1 + 1 + 1 := by rw [← hX.out]; simp
  rw [hX.out] at HX ⊢
  clear hmk
  refine wpIn_rangeFunc_ownG rfl (by omega) (gf := 48) (lb := #[.pointer (some ⟨W.heap.size + 1 + 1 + 1, 0, none⟩)]) rfl trivial (enters_of Try.func48 (by kernel_rfl) rfl)
    (backward_stops Fence.wide 5 trivial rfl (by omega) (W.heap.size + 1 + 1 + 1) W.heap.size (some ⟨tb, to, none⟩) tl tc t (by omega) X (by omega) hz.out (by simpa using HX.bb.cell (i := 0) (by omega)) (hIT.kept HX.bel) (fun b o e _ => by simp only [Option.some.injEq, Addr.mk.injEq] at e; omega)) keepLo_t (keepLo_b (by omega) (by omega)) (Below.refl _ _) (fun _ => rfl)
    (fun pre W1 => LeastI W X tb to tl tc sb gv n gc (foldB t f n pre) W1)
    (fun _ _ _ => False)
    (fun s A B row hs hg hr => hs.from hg hr (by omega))
    (fun _ _ _ _ _ hs _ _ => hs)
    HX
    (fun x => { tmps := #[.agg #[.slice (some ⟨tb, to, none⟩) tl tc, .slice (some ⟨sb, 0, none⟩) tl tl, .slice gv n gc], .pointer (some ⟨W.heap.size, 0, none⟩), .slice none 0 0, .pointer (some ⟨W.heap.size + 1 + 1, 0, none⟩), .int .i64 (x.val : Int), undef, undef, undef, .pointer (some ⟨W.heap.size, 0, none⟩), .pointer (some ⟨W.heap.size, 0, none⟩), .slice (some ⟨tb, to, none⟩) tl tc, .int .i64 (tl : Int), .slice (some ⟨W.heap.size + 1, 0, none⟩) tl tl, .pointer (some ⟨W.heap.size, 0, none⟩), .pointer (some ⟨W.heap.size, 0, none⟩), .slice (some ⟨tb, to, none⟩) tl tc, .func (.func 48) #[] #[.pointer (some ⟨W.heap.size + 1 + 1 + 1, 0, none⟩)], .int .i64 (x.val : Int), .int .i64 (t.getD x.val 0), undef, undef, undef, undef, undef, undef, undef, undef, undef, undef, undef, undef, undef, undef, undef, undef, undef, undef, undef, undef, undef, undef, undef, undef, undef, undef, undef, undef, undef, undef, undef, undef, undef, undef, undef, undef, undef, undef, undef, undef], defers := [] })
    ?assign ?body ?done ?stop
  case assign =>
    intro l x W1 K hK
    generalize t.getD x.val 0 = sv at hK ⊢
    gi_wp2
    exact hK
  case body =>
    rintro l pre x W1 hI hpl
    have hxl : x.val < tl := x.isLt
    have HBP : Hid (Bnd t (foldB t f n pre)) := HBD.out pre
    have HST : Hid (foldB t f n (pre ++ [x]) = roundB t f x.val (foldB t f n pre) n) := foldB_snoc _ _ _ _ _
    generalize t.getD x.val 0 = sv
    obtain ⟨s, hs⟩ : ∃ s, Hid (foldB t f n pre = s) := ⟨_, rfl⟩
    rw [hs.out] at hI HBP HST
    obtain ⟨a, hxa⟩ : ∃ a, Hid (x.val = a) := ⟨_, rfl⟩
    rw [hxa.out] at hxl HST ⊢
    have hxI : (a : Int) < (tl : Int) := by omega
    have HI : Hid (LeastI W X tb to tl tc sb gv n gc s W1) := hI
    have hsz := hI.size
    have cC2 := hI.cb.cell (i := 2) (by omega)
    simp only [show ¬ (2 : Nat) = 0 by decide, show ¬ (2 : Nat) = 1 by decide, if_false] at cC2
    clear hI
    gi_wp2
    gi_loopw [22] (fun vk wr => ∃ k : Nat, k ≤ n ∧ vk = .int .i64 (k : Int) ∧ Hid (LeastI W X tb to tl tc sb gv n gc (roundB t f a s k) wr) ∧ Hid (KeptL W.heap.size (W.heap.size + 1 + 1 + 1) X.heap.size W1 wr)) (fun vk _ => n - (intOf vk).toNat)
    case atStart => exact ⟨0, Nat.zero_le _, rfl, HI, KeptL.refl _ _ _ _⟩
    case round =>
      obtain ⟨k, hk, rfl, HI3, HK3⟩ := hrel
      by_cases hkn : k < n
      rotate_left
      · have HE : Hid (roundB t f a s k = foldB t f n (pre ++ [x])) := by show _ = _; rw [HST.out, show k = n by omega]
        gi_wp2
        exact ⟨HK3.out.kf, HK3.out.kp, by show LeastI W X tb to tl tc sb gv n gc (foldB t f n (pre ++ [x])) wr; rw [← HE.out]; exact HI3.out⟩
      have hknI : (k : Int) < (n : Int) := by omega
      have HBK : Hid (Bnd t (roundB t f a s k)) := HRB.out s a k HBP.out hxl (by omega)
      have HRN : Hid (∀ o, costB t f (roundB t f a s k) k a = o → roundB t f a s (k + 1) = takeB (roundB t f a s k) a k o) := fun o ho => by rw [← ho]; rfl
      obtain ⟨sk, hsk⟩ : ∃ sk, Hid (roundB t f a s k = sk) := ⟨_, rfl⟩
      rw [hsk.out] at HI3 HBK HRN
      have c0 := HI3.out.cb.cell (i := 0) (by omega)
      have c1 := HI3.out.cb.cell (i := 1) (by omega)
      have c2 := HI3.out.cb.cell (i := 2) (by omega)
      have cL := HI3.out.lb.cell (i := 0) (by omega)
      simp only [show ¬ (1 : Nat) = 0 by decide, show ¬ (2 : Nat) = 0 by decide, show ¬ (2 : Nat) = 1 by decide, if_false, if_true] at c0 c1 c2
      have HBW : Hid (Below W.heap.size W wr) := HI3.out.bel
      have HLE : Hid (LeastIn wr (W.heap.size + 1) tl sk) := HI3.out.least
      have hwr := HI3.out.size
      gi_wp2_with fail
      refine ⟨trivial, (CallsIn.inRound l (callsIn_wide.2 (impl_costby t tl tb to tc sb gv n gc f G k a (W.heap.size + 1) sk _ hz (ht.out.kept HBW.out) (hT.out.kept HBW.out) hg hn hkn hxl HLE HBK))).mono ?_⟩
      rintro e w2 ⟨rfl, hB⟩
      have HI4 : Hid (LeastI W X tb to tl tc sb gv n gc sk w2) := HI3.out.kept hB
      have HK4 : Hid (KeptL W.heap.size (W.heap.size + 1 + 1 + 1) X.heap.size W1 w2) := HK3.out.below hB (by omega) (by omega)
      have cL2 := HI4.out.lb.cell (i := 0) (by omega)
      have d0 := (HI4.out.least.2 a hxl).2
      have d1 := (HI4.out.least.2 a hxl).1
      have z0 := HI4.out.row.frozen (a * 2)
      have z1 := HI4.out.row.frozen (a * 2 + 1)
      have hs2 := HI4.out.size
      clear hB HI3 HK3 c0 c1 c2 cL HLE
      cases hcb : costB t f sk k a with
      | none =>
        have HN : Hid (roundB t f a s (k + 1) = sk) := (HRN.out _ hcb).trans (takeB_none _ _ _)
        have eN : (Option.isSome (none : Option Int)) = false := rfl
        rw [eN]
        gi_wp2
        go_roundw
        case rel => exact ⟨k + 1, by omega, by go_num, by show LeastI _ _ _ _ _ _ _ _ _ _ _ _; rw [HN.out]; exact HI4.out, HK4⟩
        case measure => simp [intOf]; omega
      | some c =>
        have eS : (Option.isSome (some c)) = true := rfl
        have eG : (some c).getD 0 = c := rfl
        rw [eS, eG]
        have HY : Hid ((sk a).2 = 0 ∨ c < (sk a).2 → roundB t f a s (k + 1) = updB sk a (k, c)) := fun q => (HRN.out _ hcb).trans (takeB_yes q)
        have HNO : Hid ((sk a).2 ≠ 0 → (sk a).2 ≤ c → roundB t f a s (k + 1) = sk) := fun q1 q2 => (HRN.out _ hcb).trans (takeB_no q1 q2)
        obtain ⟨sa, hsa⟩ : ∃ sa, Hid ((sk a).2 = sa) := ⟨_, rfl⟩
        obtain ⟨pa, hpa⟩ : ∃ pa, Hid ((sk a).1 = pa) := ⟨_, rfl⟩
        rw [hsa.out] at d0 HY HNO
        rw [hpa.out] at d1
        by_cases e0 : sa = 0
        · have HN := HY.out (Or.inl e0)
          have HN2 : Hid (roundB t f a s (k + 1) = updB sk a (k, c)) := HN
          subst e0
          clear HN hcb
          gi_wp2
          go_roundw
          case rel => exact ⟨k + 1, by omega, by go_num, by show LeastI _ _ _ _ _ _ _ _ _ _ _ _; rw [HN2.out]; exact HI4.out.set, (HK4.out.set (by omega) (by omega) (by omega)).set (by omega) (by omega) (by omega)⟩
          case measure => simp [intOf]; omega
        have e1 : (sa == 0) = false := by simpa using e0
        have e2 : decide (sa = 0) = false := decide_eq_false e0
        by_cases q : c < sa
        · have HN := HY.out (Or.inr q)
          have HN2 : Hid (roundB t f a s (k + 1) = updB sk a (k, c)) := HN
          have dq : decide (c < sa) = true := decide_eq_true q
          clear HN hcb
          gi_wp2
          go_roundw
          case rel => exact ⟨k + 1, by omega, by go_num, by show LeastI _ _ _ _ _ _ _ _ _ _ _ _; rw [HN2.out]; exact HI4.out.set, (HK4.out.set (by omega) (by omega) (by omega)).set (by omega) (by omega) (by omega)⟩
          case measure => simp [intOf]; omega
        · have q' : sa ≤ c := by omega
          have HN := HNO.out e0 q'
          have HN2 : Hid (roundB t f a s (k + 1) = sk) := HN
          have dq : decide (c < sa) = false := decide_eq_false q
          clear HN hcb q
          gi_wp2
          go_roundw
          case rel => exact ⟨k + 1, by omega, by go_num, by show LeastI _ _ _ _ _ _ _ _ _ _ _ _; rw [HN2.out]; exact HI4.out, HK4⟩
          case measure => simp [intOf]; omega
  case done =>
    rintro D ys W1 hD rfl hI hK
    rw [← HLS.out] at hI
    have HI : Hid (LeastI W X tb to tl tc sb gv n gc (leastS t f n) W1) := hI
    have cB := hI.lb.cell (i := 0) (by omega)
    have HK : Hid (W1.heap[D]? = some (.deferred (some []))) := hK
    clear hI hK
    gi_wp2
    refine ⟨by simp, .inl ⟨_, _, rfl, run_takeDeferred HK.out, ?_⟩⟩
    have hG := grownBy_putObj' W1 D (.deferred none)
    have hr : ∀ r, some D = some r → ∃ o : Obj, W1.heap[r]? = some o ∧ o.isCells = false := fun r e => by cases e; exact ⟨_, HK.out, rfl⟩
    exact ⟨_, results_oneL rfl _ _ _, rfl, row_fromL HI.out.row hG hr, HI.out.bel.grown hG HI.out.bel.size (fun r e => by cases e; omega)⟩
  case stop =>
    rintro D c pre W _ _ h _
    exact h.elim
end Go.Proofs.Ytapbfoooflpejaa.walks
