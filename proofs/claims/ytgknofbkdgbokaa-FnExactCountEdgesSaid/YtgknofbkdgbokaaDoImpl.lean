/-
  What one step of the program's run does, at every good step: it sets one word of the run, or tells one more; all else is as it was.
-/
import Derived.Test.YtgknofbkdgbokaaStepImpl
import Derived.Test.YtgknofbkdgbokaaStepKinds
import Derived.Test.YtgknofbkdgbokaaRunMath
import Derived.Test.YtgknofbkdgbokaaOwnInts
import Derived.Test.YtgknofbkdgbokaaCodeRun
import Derived.Deep.RegionHeld3
import Derived.Deep.AppendLies
namespace Go.Proofs.Ytgknofbkdgbokaa.walks
open Go.RowKit Go.Proofs.Ytgknofbkdgbokaa.math Go.Proofs.Ytgknofbkdgbokaa.ints
set_option linter.unusedVariables false
set_option linter.unusedSimpArgs false

theorem set_new_cell (W : World) (a : Addr) (v : Value) (c : Array Value) (t : TypeId) (i : Nat) : ((W.setCell a v).alloc (.cells c t)).cell? ⟨W.heap.size, i, none⟩ = c[i]? := World.cell?_alloc_at _ _ _ _ (by simp [World.setCell])
set_option maxHeartbeats 1000000 in
theorem do_c (j : Nat) (n : Int) (g : Nat) (W : World) (c0 : Value) (hj8 : (j : Int) < 8) (hg : g < W.heap.size) (e0 : W.cell? ⟨g, j, none⟩ = some c0) (f0 : W.frozen? ⟨g, j, none⟩ = false) :
    Calls Try.prog 73 #[.pointer (some ⟨g, 0, none⟩), .iface 117 (.agg #[.int .i64 (j : Int), .int .i64 n])] W fun e W' => e = .returned (.tuple #[]) ∧ W' = ((W.setCell ⟨g, j, none⟩ (.int .i64 n)).alloc (.cells #[.int .i64 (j : Int), .int .i64 n] 117)).drew := by
  have hne : g ≠ W.heap.size := by omega
  have q1 := is_cc
  go_enter Try.func73, Try.ntmps73
  go_wp2
  first | go_region | fail
  all_goals go_wp2
  all_goals exact bodyPost_end (v := .tuple #[]) (by simp [results, Try.results73, go_sem]) rfl ⟨rfl, rfl⟩
set_option maxHeartbeats 1000000 in
theorem do_y (j x : Nat) (v : Int) (g : Nat) (W : World) (c0 : Value) (hj8 : (j : Int) < 8) (hx8 : (x : Int) < 8) (hg : g < W.heap.size) (e0 : W.cell? ⟨g, j, none⟩ = some c0) (f0 : W.frozen? ⟨g, j, none⟩ = false) (e1 : W.cell? ⟨g, x, none⟩ = some (.int .i64 v)) :
    Calls Try.prog 73 #[.pointer (some ⟨g, 0, none⟩), .iface 119 (.agg #[.int .i64 (j : Int), .int .i64 (x : Int)])] W fun e W' => e = .returned (.tuple #[]) ∧ W' = ((W.setCell ⟨g, j, none⟩ (.int .i64 v)).alloc (.cells #[.int .i64 (j : Int), .int .i64 (x : Int)] 119)).drew := by
  have hne : g ≠ W.heap.size := by omega
  have q1 := is_yc
  have q2 := is_yy
  go_enter Try.func73, Try.ntmps73
  go_wp2
  first | go_region | fail
  all_goals go_wp2
  all_goals exact bodyPost_end (v := .tuple #[]) (by simp [results, Try.results73, go_sem]) rfl ⟨rfl, rfl⟩
set_option maxHeartbeats 2000000 in
theorem do_p (o : Int) (j x y : Nat) (p q : Int) (g : Nat) (W : World) (c0 : Value) (o3 : 3 ≤ o) (o7 : o ≤ 7) (p0 : 0 ≤ p) (p1 : p ≤ 65535) (r0 : 0 ≤ q) (r1 : q ≤ 65535) (hj8 : (j : Int) < 8) (hx8 : (x : Int) < 8) (hy8 : (y : Int) < 8) (hg : g < W.heap.size) (e0 : W.cell? ⟨g, j, none⟩ = some c0) (f0 : W.frozen? ⟨g, j, none⟩ = false) (e1 : W.cell? ⟨g, x, none⟩ = some (.int .i64 p)) (e2 : W.cell? ⟨g, y, none⟩ = some (.int .i64 q)) :
    Calls Try.prog 73 #[.pointer (some ⟨g, 0, none⟩), .iface 121 (.agg #[.int .i64 o, .int .i64 (j : Int), .int .i64 (x : Int), .int .i64 (y : Int)])] W fun e W' => e = .returned (.tuple #[]) ∧ W' = ((W.setCell ⟨g, j, none⟩ (.int .i64 (doV o p q))).alloc (.cells #[.int .i64 o, .int .i64 (j : Int), .int .i64 (x : Int), .int .i64 (y : Int)] 121)).drew := by
  have hne : g ≠ W.heap.size := by omega
  have q1 := is_pc
  have q2 := is_py
  have q3 := is_pp
  go_enter Try.func73, Try.ntmps73
  go_wp2
  refine wp_region_noPanic ?_
  refine wp_region_held_drew (S := fun w' => w'.cell? ⟨W.heap.size, 0, none⟩ = some (.int .i64 o) ∧ w'.cell? ⟨W.heap.size, 1, none⟩ = some (.int .i64 (j : Int)) ∧ w'.cell? ⟨W.heap.size, 2, none⟩ = some (.int .i64 (x : Int)) ∧ w'.cell? ⟨W.heap.size, 3, none⟩ = some (.int .i64 (y : Int))) (by kernel_rfl) ?_ (fun hHeld => ?_)
  · (try dsimp only); go_keep
  refine wpAnyH_take (i := 0) (v := ?v1) rfl (by kernel_rfl) (by kernel_rfl) (by kernel_rfl) (fun _ _ _ h => h) (Or.inl ⟨by rfl, ?hy1⟩) (by assumption) ?_
  case hy1 => (intro w hSw; (try dsimp only at hSw); go_simp; try with_reducible rfl)
  try simp only [Act.put, List.setIfInBounds_toArray, List.set_cons_zero, List.set_cons_succ]
  refine wpAnyH_take (i := 1) (v := ?v2) rfl (by kernel_rfl) (by kernel_rfl) (by kernel_rfl) (fun _ _ _ h => h) (Or.inl ⟨by rfl, ?hy2⟩) (by assumption) ?_
  case hy2 => (intro w hSw; (try dsimp only at hSw); go_simp; try with_reducible rfl)
  try simp only [Act.put, List.setIfInBounds_toArray, List.set_cons_zero, List.set_cons_succ]
  refine wpAnyH_take (i := 2) (v := ?v3) rfl (by kernel_rfl) (by kernel_rfl) (by kernel_rfl) (fun _ _ _ h => h) (Or.inl ⟨by rfl, ?hy3⟩) (by assumption) ?_
  case hy3 => (intro w hSw; (try dsimp only at hSw); go_simp; try with_reducible rfl)
  try simp only [Act.put, List.setIfInBounds_toArray, List.set_cons_zero, List.set_cons_succ]
  refine wpAnyH_take (i := 3) (v := ?v4) rfl (by kernel_rfl) (by kernel_rfl) (by kernel_rfl) (fun _ _ _ h => h) (Or.inl ⟨by rfl, ?hy4⟩) (by assumption) ?_
  case hy4 => (intro w hSw; (try dsimp only at hSw); go_simp; try with_reducible rfl)
  try simp only [Act.put, List.setIfInBounds_toArray, List.set_cons_zero, List.set_cons_succ]
  refine wpAnyH_take (i := 4) (v := ?v5) rfl (by kernel_rfl) (by kernel_rfl) (by kernel_rfl) (fun _ _ _ h => h) (Or.inl ⟨by rfl, ?hy5⟩) (by assumption) ?_
  case hy5 => (intro w hSw; (try dsimp only at hSw); go_simp; try with_reducible rfl)
  try simp only [Act.put, List.setIfInBounds_toArray, List.set_cons_zero, List.set_cons_succ]
  refine wpAnyH_take (i := 5) (v := ?v6) rfl (by kernel_rfl) (by kernel_rfl) (by kernel_rfl) (fun _ _ _ h => h) (Or.inl ⟨by rfl, ?hy6⟩) (by assumption) ?_
  case hy6 => (intro w hSw; (try dsimp only at hSw); go_simp; try with_reducible rfl)
  try simp only [Act.put, List.setIfInBounds_toArray, List.set_cons_zero, List.set_cons_succ]
  refine wpAnyH_take (i := 6) (v := ?v7) rfl (by kernel_rfl) (by kernel_rfl) (by kernel_rfl) (fun _ _ _ h => h) (Or.inl ⟨by rfl, ?hy7⟩) (by assumption) ?_
  case hy7 => (intro w hSw; (try dsimp only at hSw); go_simp; try with_reducible rfl)
  try simp only [Act.put, List.setIfInBounds_toArray, List.set_cons_zero, List.set_cons_succ]
  refine wpAnyH_take (i := 7) (v := ?v8) rfl (by kernel_rfl) (by kernel_rfl) (by kernel_rfl) (fun _ _ _ h => h) (Or.inl ⟨by rfl, ?hy8⟩) (by assumption) ?_
  case hy8 => (intro w hSw; (try dsimp only at hSw); go_simp; try with_reducible rfl)
  try simp only [Act.put, List.setIfInBounds_toArray, List.set_cons_zero, List.set_cons_succ]
  refine wpAnyH_take (i := 8) (v := ?v9) rfl (by kernel_rfl) (by kernel_rfl) (by kernel_rfl) (fun _ _ _ h => h) (Or.inl ⟨by rfl, ?hy9⟩) (by assumption) ?_
  case hy9 => (intro w hSw; (try dsimp only at hSw); go_simp; try with_reducible rfl)
  try simp only [Act.put, List.setIfInBounds_toArray, List.set_cons_zero, List.set_cons_succ]
  refine wpAnyH_take (i := 9) (v := ?v10) rfl (by kernel_rfl) (by kernel_rfl) (by kernel_rfl) (fun _ _ _ h => h) (Or.inl ⟨by rfl, ?hy10⟩) (by assumption) ?_
  case hy10 => (intro w hSw; (try dsimp only at hSw); go_simp; try with_reducible rfl)
  try simp only [Act.put, List.setIfInBounds_toArray, List.set_cons_zero, List.set_cons_succ]
  refine wpAnyH_take (i := 10) (v := ?v11) rfl (by kernel_rfl) (by kernel_rfl) (by kernel_rfl) (fun _ _ _ h => h) (Or.inl ⟨by rfl, ?hy11⟩) (by assumption) ?_
  case hy11 => (intro w hSw; (try dsimp only at hSw); go_simp; try with_reducible rfl)
  try simp only [Act.put, List.setIfInBounds_toArray, List.set_cons_zero, List.set_cons_succ]
  refine wpAnyH_take (i := 12) (v := ?v12) rfl (by kernel_rfl) (by kernel_rfl) (by kernel_rfl) (fun _ _ _ h => h) (Or.inl ⟨by rfl, ?hy12⟩) (by assumption) ?_
  case hy12 => (intro w hSw; (try dsimp only at hSw); go_simp; try with_reducible rfl)
  try simp only [Act.put, List.setIfInBounds_toArray, List.set_cons_zero, List.set_cons_succ]
  refine wpAnyH_take (i := 13) (v := ?v13) rfl (by kernel_rfl) (by kernel_rfl) (by kernel_rfl) (fun _ _ _ h => h) (Or.inl ⟨by rfl, ?hy13⟩) (by assumption) ?_
  case hy13 => (intro w hSw; (try dsimp only at hSw); go_simp; try with_reducible rfl)
  try simp only [Act.put, List.setIfInBounds_toArray, List.set_cons_zero, List.set_cons_succ]
  refine wpAnyH_take (i := 14) (v := ?v14) rfl (by kernel_rfl) (by kernel_rfl) (by kernel_rfl) (fun _ _ _ h => h) (Or.inl ⟨by rfl, ?hy14⟩) (by assumption) ?_
  case hy14 => (intro w hSw; (try dsimp only at hSw); go_simp; try with_reducible rfl)
  try simp only [Act.put, List.setIfInBounds_toArray, List.set_cons_zero, List.set_cons_succ]
  refine wpAnyH_take (i := 15) (v := ?v15) rfl (by kernel_rfl) (by kernel_rfl) (by kernel_rfl) (fun _ _ _ h => h) (Or.inl ⟨by rfl, ?hy15⟩) (by assumption) ?_
  case hy15 => (intro w hSw; (try dsimp only at hSw); go_simp; try with_reducible rfl)
  try simp only [Act.put, List.setIfInBounds_toArray, List.set_cons_zero, List.set_cons_succ]
  refine wpAnyH_take (i := 16) (v := ?v16) rfl (by kernel_rfl) (by kernel_rfl) (by kernel_rfl) (fun _ _ _ h => h) (Or.inl ⟨by rfl, ?hy16⟩) (by assumption) ?_
  case hy16 => (intro w hSw; (try dsimp only at hSw); go_simp; try with_reducible rfl)
  try simp only [Act.put, List.setIfInBounds_toArray, List.set_cons_zero, List.set_cons_succ]
  refine wpAnyH_take (i := 17) (v := ?v17) rfl (by kernel_rfl) (by kernel_rfl) (by kernel_rfl) (fun _ _ _ h => h) (Or.inl ⟨by rfl, ?hy17⟩) (by assumption) ?_
  case hy17 => (intro w hSw; (try dsimp only at hSw); go_simp; try with_reducible rfl)
  try simp only [Act.put, List.setIfInBounds_toArray, List.set_cons_zero, List.set_cons_succ]
  refine wpAnyH_take (i := 20) (v := ?v18) rfl (by kernel_rfl) (by kernel_rfl) (by kernel_rfl) (fun _ _ _ h => h) (Or.inl ⟨by rfl, ?hy18⟩) (by assumption) ?_
  case hy18 => (intro w hSw; (try dsimp only at hSw); go_simp; try with_reducible rfl)
  try simp only [Act.put, List.setIfInBounds_toArray, List.set_cons_zero, List.set_cons_succ]
  refine wpAnyH_take (i := 21) (v := ?v19) rfl (by kernel_rfl) (by kernel_rfl) (by kernel_rfl) (fun _ _ _ h => h) (Or.inl ⟨by rfl, ?hy19⟩) (by assumption) ?_
  case hy19 => (intro w hSw; (try dsimp only at hSw); go_simp; try with_reducible rfl)
  try simp only [Act.put, List.setIfInBounds_toArray, List.set_cons_zero, List.set_cons_succ]
  refine wpAnyH_ready (rs := [11, 18]) (by kernel_rfl) (by simp) ?_
  refine AllReadyH.cons rfl (fun K hK => ?_) ?_
  · go_simp
    refine hK.out _ _ ?_ (fun hHeld => ?_)
    · (try dsimp only); first | assumption | (refine ⟨?_, ?_, ?_, ?_⟩ <;> exact set_new_cell _ _ _ _ _ _)
    clear hK K
    try simp only [Act.put, List.setIfInBounds_toArray, List.set_cons_zero, List.set_cons_succ]
    refine wpAnyH_ready (rs := [18]) (by kernel_rfl) (by simp) ?_
    refine AllReadyH.cons rfl (fun K hK => ?_) AllReadyH.nil
    go_simp
    refine hK.out _ _ ?_ (fun hHeld => ?_)
    · (try dsimp only); first | assumption | (refine ⟨?_, ?_, ?_, ?_⟩ <;> exact set_new_cell _ _ _ _ _ _)
    clear hK K
    try simp only [Act.put, List.setIfInBounds_toArray, List.set_cons_zero, List.set_cons_succ]
    refine wpAnyH_ready (rs := [19]) (by kernel_rfl) (by simp) ?_
    refine AllReadyH.cons rfl (fun K hK => ?_) AllReadyH.nil
    go_simp
    (go_at_call 76; refine (impl_pair _ _ _ _ o3 o7 p0 p1 r0 r1).mono ?_; rintro e w' ⟨rfl, rfl⟩; go_wp2_with fail)
    refine hK.out _ _ ?_ (fun hHeld => ?_)
    · (try dsimp only); first | assumption | (refine ⟨?_, ?_, ?_, ?_⟩ <;> exact set_new_cell _ _ _ _ _ _)
    clear hK K
    try simp only [Act.put, List.setIfInBounds_toArray, List.set_cons_zero, List.set_cons_succ]
    refine wpAnyH_take (i := 22) (v := ?v20) rfl (by kernel_rfl) (by kernel_rfl) (by kernel_rfl) (fun _ _ _ h => h) (Or.inl ⟨by rfl, ?hy20⟩) (by assumption) ?_
    case hy20 => (intro w hSw; (try dsimp only at hSw); go_simp; try with_reducible rfl)
    try simp only [Act.put, List.setIfInBounds_toArray, List.set_cons_zero, List.set_cons_succ]
    refine wpAnyH_ready (rs := [23]) (by kernel_rfl) (by simp) ?_
    refine AllReadyH.cons rfl (fun K hK => ?_) AllReadyH.nil
    go_simp
    refine hK.out _ _ ?_ (fun hHeld => ?_)
    · (try dsimp only); first | assumption | (refine ⟨?_, ?_, ?_, ?_⟩ <;> exact set_new_cell _ _ _ _ _ _)
    clear hK K
    try simp only [Act.put, List.setIfInBounds_toArray, List.set_cons_zero, List.set_cons_succ]
    refine wpAnyH_done (by kernel_rfl) ?_ _
    refine NoPanic.normal ?_
    (go_wp2; exact bodyPost_end (v := .tuple #[]) (by simp [results, Try.results73, go_sem]) rfl ⟨rfl, rfl⟩)
  refine AllReadyH.cons rfl (fun K hK => ?_) AllReadyH.nil
  go_simp
  refine hK.out _ _ ?_ (fun hHeld => ?_)
  · (try dsimp only); first | assumption | (refine ⟨?_, ?_, ?_, ?_⟩ <;> exact set_new_cell _ _ _ _ _ _)
  clear hK K
  try simp only [Act.put, List.setIfInBounds_toArray, List.set_cons_zero, List.set_cons_succ]
  refine wpAnyH_ready (rs := [11]) (by kernel_rfl) (by simp) ?_
  refine AllReadyH.cons rfl (fun K hK => ?_) AllReadyH.nil
  go_simp
  refine hK.out _ _ ?_ (fun hHeld => ?_)
  · (try dsimp only); first | assumption | (refine ⟨?_, ?_, ?_, ?_⟩ <;> exact set_new_cell _ _ _ _ _ _)
  clear hK K
  try simp only [Act.put, List.setIfInBounds_toArray, List.set_cons_zero, List.set_cons_succ]
  refine wpAnyH_ready (rs := [19]) (by kernel_rfl) (by simp) ?_
  refine AllReadyH.cons rfl (fun K hK => ?_) AllReadyH.nil
  go_simp
  (go_at_call 76; refine (impl_pair _ _ _ _ o3 o7 p0 p1 r0 r1).mono ?_; rintro e w' ⟨rfl, rfl⟩; go_wp2_with fail)
  refine hK.out _ _ ?_ (fun hHeld => ?_)
  · (try dsimp only); first | assumption | (refine ⟨?_, ?_, ?_, ?_⟩ <;> exact set_new_cell _ _ _ _ _ _)
  clear hK K
  try simp only [Act.put, List.setIfInBounds_toArray, List.set_cons_zero, List.set_cons_succ]
  refine wpAnyH_take (i := 22) (v := ?v21) rfl (by kernel_rfl) (by kernel_rfl) (by kernel_rfl) (fun _ _ _ h => h) (Or.inl ⟨by rfl, ?hy21⟩) (by assumption) ?_
  case hy21 => (intro w hSw; (try dsimp only at hSw); go_simp; try with_reducible rfl)
  try simp only [Act.put, List.setIfInBounds_toArray, List.set_cons_zero, List.set_cons_succ]
  refine wpAnyH_ready (rs := [23]) (by kernel_rfl) (by simp) ?_
  refine AllReadyH.cons rfl (fun K hK => ?_) AllReadyH.nil
  go_simp
  refine hK.out _ _ ?_ (fun hHeld => ?_)
  · (try dsimp only); first | assumption | (refine ⟨?_, ?_, ?_, ?_⟩ <;> exact set_new_cell _ _ _ _ _ _)
  clear hK K
  try simp only [Act.put, List.setIfInBounds_toArray, List.set_cons_zero, List.set_cons_succ]
  refine wpAnyH_done (by kernel_rfl) ?_ _
  refine NoPanic.normal ?_
  (go_wp2; exact bodyPost_end (v := .tuple #[]) (by simp [results, Try.results73, go_sem]) rfl ⟨rfl, rfl⟩)
/-- What telling one word more leaves. -/
def ToldOne (W W' : World) (B g : Nat) (zs : List Int) : Prop :=
  ∃ v', W'.cell? ⟨g, 8, none⟩ = some v' ∧ Own W' B v' zs ∧ v'.ownBlock ≠ some g ∧ (∀ i, i < 8 → W'.cell? ⟨g, i, none⟩ = W.cell? ⟨g, i, none⟩) ∧ (∀ i, W'.frozen? ⟨g, i, none⟩ = W.frozen? ⟨g, i, none⟩) ∧ Below B W W'
theorem one_cell (w : World) (x : Int) {b : Nat} (h : w.cell? ⟨b, 0, none⟩ = some (.int .i64 x)) : ∀ (j : Nat) (u : Value), [Value.int .i64 x][j]? = some u → w.cell? ((⟨b, 0, none⟩ : Addr).add j) = some u := by
  intro j u hj
  match j, hj with
  | 0, hj => simp at hj; subst hj; simpa [Addr.add] using h
theorem told_facts {W w2 w1 : World} {vt : Value} {g B : Nat} (hW2 : Below W.heap.size W w2) (hs : W.heap.size < w2.heap.size) (hg : g < W.heap.size) (hBg : B ≤ g) (hgrow : w2.grownBy w1 vt.ownBlock) (hvg : vt.ownBlock ≠ some g) (hvb : ∀ k, vt.ownBlock = some k → B ≤ k ∧ k < W.heap.size) :
    (∀ i, w1.cell? ⟨g, i, none⟩ = W.cell? ⟨g, i, none⟩) ∧ (∀ i, w1.frozen? ⟨g, i, none⟩ = W.frozen? ⟨g, i, none⟩) ∧ (∀ i, w1.cell? ⟨W.heap.size, i, none⟩ = w2.cell? ⟨W.heap.size, i, none⟩) ∧ Below B W w1 := by
  have hb1 : w1.heap[g]? = w2.heap[g]? := hgrow.block g (Nat.lt_trans hg hs) (fun e => hvg e.symm)
  have hb2 : w1.heap[W.heap.size]? = w2.heap[W.heap.size]? := hgrow.block _ hs (fun e => by have := (hvb _ e.symm).2; omega)
  exact ⟨fun i => (World.cell?_of_block (a := ⟨g, i, none⟩) hb1).trans (hW2.cell (p := ⟨g, i, none⟩) hg), fun i => (World.frozen?_of_block (a := ⟨g, i, none⟩) hb1).trans (hW2.frozen (p := ⟨g, i, none⟩) hg), fun i => World.cell?_of_block (a := ⟨W.heap.size, i, none⟩) hb2,
    (hW2.mono (by omega : B ≤ W.heap.size)).grown hgrow (by omega) (fun k hk => (hvb k hk).1)⟩
theorem told_one {W w1 : World} {B g gg n cap : Nat} {zs : List Int} {vt : Value} (hBg : B ≤ g) (e8 : W.cell? ⟨g, 8, none⟩ = some vt) (F1 : ∀ i, w1.cell? ⟨g, i, none⟩ = W.cell? ⟨g, i, none⟩) (F2 : ∀ i, w1.frozen? ⟨g, i, none⟩ = W.frozen? ⟨g, i, none⟩) (F4 : Below B W w1)
    (hown : Own w1 B (.slice (some ⟨gg, 0, none⟩) n cap) zs) (hgg : gg ≠ g) : ToldOne W (w1.setCell ⟨g, 8, none⟩ (.slice (some ⟨gg, 0, none⟩) n cap)) B g zs := by
  refine ⟨.slice (some ⟨gg, 0, none⟩) n cap, World.cell?_setCell_same _ _ _ ((F1 8).trans e8), World.ownsRow.kept hown (grow_set (grow_refl _ _) 8 _) (Or.inr (by simpa [Value.ownBlock] using hgg)), by simpa [Value.ownBlock] using hgg, fun i hi => ?_, fun i => ?_, F4.setCell hBg _⟩
  · rw [World.cell?_setCell_other _ _ _ _ (by simp; try omega)]; exact F1 i
  · rw [← F2 i]; simp
set_option maxHeartbeats 2000000 in
theorem do_t (x : Nat) (tv : Int) (g B n : Nat) (W : World) (vt : Value) (told : List Int) (hx8 : (x : Int) < 8) (hg : g < W.heap.size) (hBg : B ≤ g) (e1 : W.cell? ⟨g, x, none⟩ = some (.int .i64 tv)) (e8 : W.cell? ⟨g, 8, none⟩ = some vt) (f8 : W.frozen? ⟨g, 8, none⟩ = false) (hO : Hid (Own W B vt told)) (hn : Hid (told.length ≤ 30)) (hvg : Hid (vt.ownBlock ≠ some g)) :
    Calls Try.prog 73 #[.pointer (some ⟨g, 0, none⟩), .iface 123 (.agg #[.int .i64 (x : Int)])] W fun e W' => e = .returned (.tuple #[]) ∧ ToldOne W W' B g (told ++ [tv]) := by
  have hne : g ≠ W.heap.size := by omega
  have hne2 : g ≠ W.heap.size + 1 := by omega
  have q1 := is_tc
  have q2 := is_ty
  have q3 := is_tp
  have q4 := is_tt
  obtain ⟨i0, hi, hz0, hz1, hz2⟩ := info_parts row_info
  go_enter Try.func73, Try.ntmps73
  go_wp2
  refine wp_region_noPanic ?_
  refine wp_region_held_drew (S := fun w' => w'.cell? ⟨W.heap.size, 0, none⟩ = some (.int .i64 (x : Int)) ∧ w'.cell? ⟨g, x, none⟩ = some (.int .i64 tv)) (by kernel_rfl) ?_ (fun hHeld => ?_)
  · (try dsimp only); go_keep
  refine wpAnyH_take (i := 0) (v := ?v1) rfl (by kernel_rfl) (by kernel_rfl) (by kernel_rfl) (fun _ _ _ h => h) (Or.inl ⟨by rfl, ?hy1⟩) (by assumption) ?_
  case hy1 => (intro w hSw; (try dsimp only at hSw); go_simp; try with_reducible rfl)
  try simp only [Act.put, List.setIfInBounds_toArray, List.set_cons_zero, List.set_cons_succ]
  refine wpAnyH_take (i := 1) (v := ?v2) rfl (by kernel_rfl) (by kernel_rfl) (by kernel_rfl) (fun _ _ _ h => h) (Or.inl ⟨by rfl, ?hy2⟩) (by assumption) ?_
  case hy2 => (intro w hSw; (try dsimp only at hSw); go_simp; try with_reducible rfl)
  try simp only [Act.put, List.setIfInBounds_toArray, List.set_cons_zero, List.set_cons_succ]
  refine wpAnyH_take (i := 2) (v := ?v3) rfl (by kernel_rfl) (by kernel_rfl) (by kernel_rfl) (fun _ _ _ h => h) (Or.inl ⟨by rfl, ?hy3⟩) (by assumption) ?_
  case hy3 => (intro w hSw; (try dsimp only at hSw); go_simp; try with_reducible rfl)
  try simp only [Act.put, List.setIfInBounds_toArray, List.set_cons_zero, List.set_cons_succ]
  refine wpAnyH_take (i := 3) (v := ?v4) rfl (by kernel_rfl) (by kernel_rfl) (by kernel_rfl) (fun _ _ _ h => h) (Or.inl ⟨by rfl, ?hy4⟩) (by assumption) ?_
  case hy4 => (intro w hSw; (try dsimp only at hSw); go_simp; try with_reducible rfl)
  try simp only [Act.put, List.setIfInBounds_toArray, List.set_cons_zero, List.set_cons_succ]
  refine wpAnyH_take (i := 5) (v := ?v5) rfl (by kernel_rfl) (by kernel_rfl) (by kernel_rfl) (fun _ _ _ h => h) (Or.inl ⟨by rfl, ?hy5⟩) (by assumption) ?_
  case hy5 => (intro w hSw; (try dsimp only at hSw); go_simp; try with_reducible rfl)
  try simp only [Act.put, List.setIfInBounds_toArray, List.set_cons_zero, List.set_cons_succ]
  refine wpAnyH_take (i := 6) (v := ?v6) rfl (by kernel_rfl) (by kernel_rfl) (by kernel_rfl) (fun _ _ _ h => h) (Or.inl ⟨by rfl, ?hy6⟩) (by assumption) ?_
  case hy6 => (intro w hSw; (try dsimp only at hSw); go_simp; try with_reducible rfl)
  try simp only [Act.put, List.setIfInBounds_toArray, List.set_cons_zero, List.set_cons_succ]
  refine wpAnyH_take (i := 7) (v := ?v7) rfl (by kernel_rfl) (by kernel_rfl) (by kernel_rfl) (fun _ _ _ h => h) (Or.inl ⟨by rfl, ?hy7⟩) (by assumption) ?_
  case hy7 => (intro w hSw; (try dsimp only at hSw); go_simp; try with_reducible rfl)
  try simp only [Act.put, List.setIfInBounds_toArray, List.set_cons_zero, List.set_cons_succ]
  refine wpAnyH_take (i := 8) (v := ?v8) rfl (by kernel_rfl) (by kernel_rfl) (by kernel_rfl) (fun _ _ _ h => h) (Or.inl ⟨by rfl, ?hy8⟩) (by assumption) ?_
  case hy8 => (intro w hSw; (try dsimp only at hSw); go_simp; try with_reducible rfl)
  try simp only [Act.put, List.setIfInBounds_toArray, List.set_cons_zero, List.set_cons_succ]
  refine wpAnyH_take (i := 9) (v := ?v9) rfl (by kernel_rfl) (by kernel_rfl) (by kernel_rfl) (fun _ _ _ h => h) (Or.inl ⟨by rfl, ?hy9⟩) (by assumption) ?_
  case hy9 => (intro w hSw; (try dsimp only at hSw); go_simp; try with_reducible rfl)
  try simp only [Act.put, List.setIfInBounds_toArray, List.set_cons_zero, List.set_cons_succ]
  refine wpAnyH_take (i := 10) (v := ?v10) rfl (by kernel_rfl) (by kernel_rfl) (by kernel_rfl) (fun _ _ _ h => h) (Or.inl ⟨by rfl, ?hy10⟩) (by assumption) ?_
  case hy10 => (intro w hSw; (try dsimp only at hSw); go_simp; try with_reducible rfl)
  try simp only [Act.put, List.setIfInBounds_toArray, List.set_cons_zero, List.set_cons_succ]
  refine wpAnyH_take (i := 11) (v := ?v11) rfl (by kernel_rfl) (by kernel_rfl) (by kernel_rfl) (fun _ _ _ h => h) (Or.inl ⟨by rfl, ?hy11⟩) (by assumption) ?_
  case hy11 => (intro w hSw; (try dsimp only at hSw); go_simp; try with_reducible rfl)
  try simp only [Act.put, List.setIfInBounds_toArray, List.set_cons_zero, List.set_cons_succ]
  refine wpAnyH_ready (rs := [4, 12]) (by kernel_rfl) (by simp) ?_
  refine AllReadyH.cons rfl (fun K hK => ?_) ?_
  · go_simp
    refine hK.out _ _ ?_ (fun hHeld => ?_)
    · (try dsimp only); first | assumption | exact ⟨G0, G1⟩ | exact ⟨(World.cell?_setCell_other _ _ _ _ (by simp <;> omega)).trans G0, (World.cell?_setCell_other _ _ _ _ (by simp <;> omega)).trans G1⟩ | go_keep
    clear hK K
    try simp only [Act.put, List.setIfInBounds_toArray, List.set_cons_zero, List.set_cons_succ]
    refine wpAnyH_ready (rs := [12]) (by kernel_rfl) (by simp) ?_
    refine AllReadyH.cons rfl (fun K hK => ?_) AllReadyH.nil
    go_simp
    refine hK.out _ _ ?_ (fun hHeld => ?_)
    · (try dsimp only); first | assumption | exact ⟨G0, G1⟩ | exact ⟨(World.cell?_setCell_other _ _ _ _ (by simp <;> omega)).trans G0, (World.cell?_setCell_other _ _ _ _ (by simp <;> omega)).trans G1⟩ | go_keep
    clear hK K
    try simp only [Act.put, List.setIfInBounds_toArray, List.set_cons_zero, List.set_cons_succ]
    refine wpAnyH_ready (rs := [13]) (by kernel_rfl) (by simp) ?_
    refine AllReadyH.cons rfl (fun K hK => ?_) AllReadyH.nil
    (refine step_append_lies _ (by rfl) _ _ 38 (by rfl) B 3 i0 _ 1 8 Try.underlying38 hi hz0 hz1 hz2 rfl (by omega) vt told.length (told.map (Value.int .i64)) (by rfl) (by first | exact ((hO.out.alloc _).alloc _).drew | exact ((hO.out.alloc _).drew).alloc _) ⟨W.heap.size + 1, 0, none⟩ 1 1 [.int .i64 tv] (by rfl) (by rfl) (one_cell _ _ (by simp)) (one_of _) (by omega) (by have := hn.out; unfold maxLen; omega) (by have := hn.out; omega) (by simp; omega) (W.heap.size + 2) (by simp) ?_)
    intro gg cap w1 hown1 hgrow hat hlt
    obtain ⟨F1, F2, F3, F4⟩ := told_facts (W := W) (B := B) (g := g) (by go_grown) (by simp; omega) hg hBg hgrow hvg.out (fun k hk => World.ownsRow.lt hO.out k hk)
    have hgg : gg ≠ g := by
      rcases hat with e | e
      · intro e'; subst e'; exact hvg.out e
      · omega
    have G8 : w1.cell? ⟨g, 8, none⟩ = some vt := (F1 8).trans e8
    have G9 : w1.frozen? ⟨g, 8, none⟩ = false := (F2 8).trans f8
    have G1 : w1.cell? ⟨g, x, none⟩ = some (.int .i64 tv) := (F1 x).trans e1
    have G0 : w1.cell? ⟨W.heap.size, 0, none⟩ = some (.int .i64 (x : Int)) := by rw [F3 0]; simp
    have H1 : Hid (Own w1 B (.slice (some ⟨gg, 0, none⟩) (told.length + 1) cap) (told ++ [tv])) := by show Own _ _ _ _; unfold Own; simpa using hown1
    have HF : Hid ((∀ i, w1.cell? ⟨g, i, none⟩ = W.cell? ⟨g, i, none⟩) ∧ (∀ i, w1.frozen? ⟨g, i, none⟩ = W.frozen? ⟨g, i, none⟩) ∧ Below B W w1) := ⟨F1, F2, F4⟩
    clear F1 F2 F3 F4 hown1 hgrow hat hlt
    refine hK.out _ _ ?_ (fun hHeld => ?_)
    · (try dsimp only); first | assumption | exact ⟨G0, G1⟩ | exact ⟨(World.cell?_setCell_other _ _ _ _ (by simp <;> omega)).trans G0, (World.cell?_setCell_other _ _ _ _ (by simp <;> omega)).trans G1⟩ | go_keep
    clear hK K
    try simp only [Act.put, List.setIfInBounds_toArray, List.set_cons_zero, List.set_cons_succ]
    refine wpAnyH_take (i := 14) (v := ?v12) rfl (by kernel_rfl) (by kernel_rfl) (by kernel_rfl) (fun _ _ _ h => h) (Or.inl ⟨by rfl, ?hy12⟩) (by assumption) ?_
    case hy12 => (intro w hSw; (try dsimp only at hSw); go_simp; try with_reducible rfl)
    try simp only [Act.put, List.setIfInBounds_toArray, List.set_cons_zero, List.set_cons_succ]
    refine wpAnyH_take (i := 15) (v := ?v13) rfl (by kernel_rfl) (by kernel_rfl) (by kernel_rfl) (fun _ _ _ h => h) (Or.inl ⟨by rfl, ?hy13⟩) (by assumption) ?_
    case hy13 => (intro w hSw; (try dsimp only at hSw); go_simp; try with_reducible rfl)
    try simp only [Act.put, List.setIfInBounds_toArray, List.set_cons_zero, List.set_cons_succ]
    refine wpAnyH_ready (rs := [16]) (by kernel_rfl) (by simp) ?_
    refine AllReadyH.cons rfl (fun K hK => ?_) AllReadyH.nil
    go_simp
    refine hK.out _ _ ?_ (fun hHeld => ?_)
    · (try dsimp only); first | assumption | exact ⟨G0, G1⟩ | exact ⟨(World.cell?_setCell_other _ _ _ _ (by simp <;> omega)).trans G0, (World.cell?_setCell_other _ _ _ _ (by simp <;> omega)).trans G1⟩ | go_keep
    clear hK K
    try simp only [Act.put, List.setIfInBounds_toArray, List.set_cons_zero, List.set_cons_succ]
    refine wpAnyH_done (by kernel_rfl) ?_ _
    refine NoPanic.normal ?_
    (go_wp2; exact bodyPost_end (v := .tuple #[]) (by simp [results, Try.results73, go_sem]) rfl ⟨rfl, told_one hBg e8 HF.out.1 HF.out.2.1 HF.out.2.2 H1.out hgg⟩)
  refine AllReadyH.cons rfl (fun K hK => ?_) AllReadyH.nil
  go_simp
  refine hK.out _ _ ?_ (fun hHeld => ?_)
  · (try dsimp only); first | assumption | exact ⟨G0, G1⟩ | exact ⟨(World.cell?_setCell_other _ _ _ _ (by simp <;> omega)).trans G0, (World.cell?_setCell_other _ _ _ _ (by simp <;> omega)).trans G1⟩ | go_keep
  clear hK K
  try simp only [Act.put, List.setIfInBounds_toArray, List.set_cons_zero, List.set_cons_succ]
  refine wpAnyH_ready (rs := [4]) (by kernel_rfl) (by simp) ?_
  refine AllReadyH.cons rfl (fun K hK => ?_) AllReadyH.nil
  go_simp
  refine hK.out _ _ ?_ (fun hHeld => ?_)
  · (try dsimp only); first | assumption | exact ⟨G0, G1⟩ | exact ⟨(World.cell?_setCell_other _ _ _ _ (by simp <;> omega)).trans G0, (World.cell?_setCell_other _ _ _ _ (by simp <;> omega)).trans G1⟩ | go_keep
  clear hK K
  try simp only [Act.put, List.setIfInBounds_toArray, List.set_cons_zero, List.set_cons_succ]
  refine wpAnyH_ready (rs := [13]) (by kernel_rfl) (by simp) ?_
  refine AllReadyH.cons rfl (fun K hK => ?_) AllReadyH.nil
  (refine step_append_lies _ (by rfl) _ _ 38 (by rfl) B 3 i0 _ 1 8 Try.underlying38 hi hz0 hz1 hz2 rfl (by omega) vt told.length (told.map (Value.int .i64)) (by rfl) (by first | exact ((hO.out.alloc _).alloc _).drew | exact ((hO.out.alloc _).drew).alloc _) ⟨W.heap.size + 1, 0, none⟩ 1 1 [.int .i64 tv] (by rfl) (by rfl) (one_cell _ _ (by simp)) (one_of _) (by omega) (by have := hn.out; unfold maxLen; omega) (by have := hn.out; omega) (by simp; omega) (W.heap.size + 2) (by simp) ?_)
  intro gg cap w1 hown1 hgrow hat hlt
  obtain ⟨F1, F2, F3, F4⟩ := told_facts (W := W) (B := B) (g := g) (by go_grown) (by simp; omega) hg hBg hgrow hvg.out (fun k hk => World.ownsRow.lt hO.out k hk)
  have hgg : gg ≠ g := by
    rcases hat with e | e
    · intro e'; subst e'; exact hvg.out e
    · omega
  have G8 : w1.cell? ⟨g, 8, none⟩ = some vt := (F1 8).trans e8
  have G9 : w1.frozen? ⟨g, 8, none⟩ = false := (F2 8).trans f8
  have G1 : w1.cell? ⟨g, x, none⟩ = some (.int .i64 tv) := (F1 x).trans e1
  have G0 : w1.cell? ⟨W.heap.size, 0, none⟩ = some (.int .i64 (x : Int)) := by rw [F3 0]; simp
  have H1 : Hid (Own w1 B (.slice (some ⟨gg, 0, none⟩) (told.length + 1) cap) (told ++ [tv])) := by show Own _ _ _ _; unfold Own; simpa using hown1
  have HF : Hid ((∀ i, w1.cell? ⟨g, i, none⟩ = W.cell? ⟨g, i, none⟩) ∧ (∀ i, w1.frozen? ⟨g, i, none⟩ = W.frozen? ⟨g, i, none⟩) ∧ Below B W w1) := ⟨F1, F2, F4⟩
  clear F1 F2 F3 F4 hown1 hgrow hat hlt
  refine hK.out _ _ ?_ (fun hHeld => ?_)
  · (try dsimp only); first | assumption | exact ⟨G0, G1⟩ | exact ⟨(World.cell?_setCell_other _ _ _ _ (by simp <;> omega)).trans G0, (World.cell?_setCell_other _ _ _ _ (by simp <;> omega)).trans G1⟩ | go_keep
  clear hK K
  try simp only [Act.put, List.setIfInBounds_toArray, List.set_cons_zero, List.set_cons_succ]
  refine wpAnyH_take (i := 14) (v := ?v14) rfl (by kernel_rfl) (by kernel_rfl) (by kernel_rfl) (fun _ _ _ h => h) (Or.inl ⟨by rfl, ?hy14⟩) (by assumption) ?_
  case hy14 => (intro w hSw; (try dsimp only at hSw); go_simp; try with_reducible rfl)
  try simp only [Act.put, List.setIfInBounds_toArray, List.set_cons_zero, List.set_cons_succ]
  refine wpAnyH_take (i := 15) (v := ?v15) rfl (by kernel_rfl) (by kernel_rfl) (by kernel_rfl) (fun _ _ _ h => h) (Or.inl ⟨by rfl, ?hy15⟩) (by assumption) ?_
  case hy15 => (intro w hSw; (try dsimp only at hSw); go_simp; try with_reducible rfl)
  try simp only [Act.put, List.setIfInBounds_toArray, List.set_cons_zero, List.set_cons_succ]
  refine wpAnyH_ready (rs := [16]) (by kernel_rfl) (by simp) ?_
  refine AllReadyH.cons rfl (fun K hK => ?_) AllReadyH.nil
  go_simp
  refine hK.out _ _ ?_ (fun hHeld => ?_)
  · (try dsimp only); first | assumption | exact ⟨G0, G1⟩ | exact ⟨(World.cell?_setCell_other _ _ _ _ (by simp <;> omega)).trans G0, (World.cell?_setCell_other _ _ _ _ (by simp <;> omega)).trans G1⟩ | go_keep
  clear hK K
  try simp only [Act.put, List.setIfInBounds_toArray, List.set_cons_zero, List.set_cons_succ]
  refine wpAnyH_done (by kernel_rfl) ?_ _
  refine NoPanic.normal ?_
  (go_wp2; exact bodyPost_end (v := .tuple #[]) (by simp [results, Try.results73, go_sem]) rfl ⟨rfl, told_one hBg e8 HF.out.1 HF.out.2.1 HF.out.2.2 H1.out hgg⟩)
end Go.Proofs.Ytgknofbkdgbokaa.walks
