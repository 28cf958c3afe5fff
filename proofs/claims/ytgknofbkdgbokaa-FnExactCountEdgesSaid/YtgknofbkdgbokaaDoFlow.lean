/-
  What the program does to a run's words at a step, and what it leaves alone.
-/
import Derived.Test.YtgknofbkdgbokaaDoImpl
import Derived.Test.YtgknofbkdgbokaaRunImpl
import Derived.Test.YtgknofbkdgbokaaSpecRun2
import Derived.Test.YtgknofbkdgbokaaStepImpl
import Derived.Test.YtgknofbkdgbokaaStepKinds
import Derived.Test.YtgknofbkdgbokaaRunMath
import Derived.Test.YtgknofbkdgbokaaOwnInts
import Derived.Test.YtgknofbkdgbokaaCodeRun
import Derived.Deep.RegionHeld3
import Derived.Deep.AppendLies
namespace Go.Proofs.Ytgknofbkdgbokaa.walks
open Go.RowKit Go.Proofs.Ytgknofbkdgbokaa.math Go.Proofs.Ytgknofbkdgbokaa.ints
set_option linter.unusedVariables false
set_option linter.unusedSimpArgs false

theorem keeps_lies {W w2 w1 : World} {g gg n cap : Nat} {vt : Value} (hb : Below W.heap.size W w2) (hgrow : w2.grownBy w1 vt.ownBlock) (hat : vt.ownBlock = some gg ∨ gg = W.heap.size + 2) : Keeps W w1 g vt (.slice (some ⟨gg, 0, none⟩) n cap) := by
  have h := hb.size
  refine ⟨fun j hj _ hv => (hgrow.block j (by omega) (fun e => hv e.symm)).trans (hb.block j hj), ?_⟩
  rcases hat with e | e
  · exact Or.inl e.symm
  · right
    intro j q
    simp [Value.ownBlock] at q
    omega
/-- What telling one word more leaves, and what it leaves alone. -/
def ToldTwo (W W' : World) (B g : Nat) (v : Value) (zs : List Int) : Prop :=
  ∃ v', W'.cell? ⟨g, 8, none⟩ = some v' ∧ Own W' B v' zs ∧ v'.ownBlock ≠ some g ∧ (∀ i, i ≠ 8 → W'.cell? ⟨g, i, none⟩ = W.cell? ⟨g, i, none⟩) ∧ (∀ i, W'.frozen? ⟨g, i, none⟩ = W.frozen? ⟨g, i, none⟩) ∧ Below B W W' ∧ Keeps W W' g v v'
theorem keeps_one {W w : World} {g i : Nat} {v0 v x : Value} (h : Keeps W w g v0 v) : Keeps W (w.setCell ⟨g, i, none⟩ x) g v0 v :=
  ⟨fun j hj hg hv => (Below.heap_setCell _ _ _ _ (by simpa using hg)).trans (h.1 j hj hg hv), h.2⟩
theorem told_two {W w1 : World} {B g gg n cap : Nat} {zs : List Int} {vt : Value} (hBg : B ≤ g) (e8 : W.cell? ⟨g, 8, none⟩ = some vt) (F1 : ∀ i, w1.cell? ⟨g, i, none⟩ = W.cell? ⟨g, i, none⟩) (F2 : ∀ i, w1.frozen? ⟨g, i, none⟩ = W.frozen? ⟨g, i, none⟩) (F4 : Below B W w1)
    (hown : Own w1 B (.slice (some ⟨gg, 0, none⟩) n cap) zs) (hgg : gg ≠ g) (hK : Keeps W w1 g vt (.slice (some ⟨gg, 0, none⟩) n cap)) : ToldTwo W (w1.setCell ⟨g, 8, none⟩ (.slice (some ⟨gg, 0, none⟩) n cap)) B g vt zs := by
  refine ⟨.slice (some ⟨gg, 0, none⟩) n cap, World.cell?_setCell_same _ _ _ ((F1 8).trans e8), World.ownsRow.kept hown (grow_set (grow_refl _ _) 8 _) (Or.inr (by simpa [Value.ownBlock] using hgg)), by simpa [Value.ownBlock] using hgg, fun i hi => ?_, fun i => ?_, F4.setCell hBg _, keeps_one hK⟩
  · rw [World.cell?_setCell_other _ _ _ _ (by simp; try omega)]; exact F1 i
  · rw [← F2 i]; simp
set_option maxHeartbeats 2000000 in
theorem do_t2 (x : Nat) (tv : Int) (g B n : Nat) (W : World) (vt : Value) (told : List Int) (hx8 : (x : Int) < 8) (hg : g < W.heap.size) (hBg : B ≤ g) (e1 : W.cell? ⟨g, x, none⟩ = some (.int .i64 tv)) (e8 : W.cell? ⟨g, 8, none⟩ = some vt) (f8 : W.frozen? ⟨g, 8, none⟩ = false) (hO : Hid (Own W B vt told)) (hn : Hid (told.length ≤ 100000)) (hvg : Hid (vt.ownBlock ≠ some g)) :
    Calls Try.prog 73 #[.pointer (some ⟨g, 0, none⟩), .iface 123 (.agg #[.int .i64 (x : Int)])] W fun e W' => e = .returned (.tuple #[]) ∧ ToldTwo W W' B g vt (told ++ [tv]) := by
  have hne : g ≠ W.heap.size := by omega
  have hne2 : g ≠ W.heap.size + 1 := by omega
  have q1 := is_tc
  have q2 := is_ty
  have q3 := is_tp
  have q4 := is_tt
  obtain ⟨i0, hi, hz0, hz1, hz2⟩ := info_parts row_info
  go_enter Try.func73, Try.ntmps73
  go_wp2
  refine wp_region_noPanic ?_
  refine wp_region_held_drew (S := fun w' => w'.cell? ⟨W.heap.size, 0, none⟩ = some (.int .i64 (x : Int)) ∧ w'.cell? ⟨g, x, none⟩ = some (.int .i64 tv)) (by kernel_rfl) ?_ (fun hHeld => ?_)
  · (try dsimp only); go_keep
  refine wpAnyH_take (i := 0) (v := ?v1) rfl (by kernel_rfl) (by kernel_rfl) (by kernel_rfl) (fun _ _ _ h => h) (Or.inl ⟨by rfl, ?hy1⟩) (by assumption) ?_
  case hy1 => (intro w hSw; (try dsimp only at hSw); go_simp; try with_reducible rfl)
  try simp only [Act.put, List.setIfInBounds_toArray, List.set_cons_zero, List.set_cons_succ]
  refine wpAnyH_take (i := 1) (v := ?v2) rfl (by kernel_rfl) (by kernel_rfl) (by kernel_rfl) (fun _ _ _ h => h) (Or.inl ⟨by rfl, ?hy2⟩) (by assumption) ?_
  case hy2 => (intro w hSw; (try dsimp only at hSw); go_simp; try with_reducible rfl)
  try simp only [Act.put, List.setIfInBounds_toArray, List.set_cons_zero, List.set_cons_succ]
  refine wpAnyH_take (i := 2) (v := ?v3) rfl (by kernel_rfl) (by kernel_rfl) (by kernel_rfl) (fun _ _ _ h => h) (Or.inl ⟨by rfl, ?hy3⟩) (by assumption) ?_
  case hy3 => (intro w hSw; (try dsimp only at hSw); go_simp; try with_reducible rfl)
  try simp only [Act.put, List.setIfInBounds_toArray, List.set_cons_zero, List.set_cons_succ]
  refine wpAnyH_take (i := 3) (v := ?v4) rfl (by kernel_rfl) (by kernel_rfl) (by kernel_rfl) (fun _ _ _ h => h) (Or.inl ⟨by rfl, ?hy4⟩) (by assumption) ?_
  case hy4 => (intro w hSw; (try dsimp only at hSw); go_simp; try with_reducible rfl)
  try simp only [Act.put, List.setIfInBounds_toArray, List.set_cons_zero, List.set_cons_succ]
  refine wpAnyH_take (i := 5) (v := ?v5) rfl (by kernel_rfl) (by kernel_rfl) (by kernel_rfl) (fun _ _ _ h => h) (Or.inl ⟨by rfl, ?hy5⟩) (by assumption) ?_
  case hy5 => (intro w hSw; (try dsimp only at hSw); go_simp; try with_reducible rfl)
  try simp only [Act.put, List.setIfInBounds_toArray, List.set_cons_zero, List.set_cons_succ]
  refine wpAnyH_take (i := 6) (v := ?v6) rfl (by kernel_rfl) (by kernel_rfl) (by kernel_rfl) (fun _ _ _ h => h) (Or.inl ⟨by rfl, ?hy6⟩) (by assumption) ?_
  case hy6 => (intro w hSw; (try dsimp only at hSw); go_simp; try with_reducible rfl)
  try simp only [Act.put, List.setIfInBounds_toArray, List.set_cons_zero, List.set_cons_succ]
  refine wpAnyH_take (i := 7) (v := ?v7) rfl (by kernel_rfl) (by kernel_rfl) (by kernel_rfl) (fun _ _ _ h => h) (Or.inl ⟨by rfl, ?hy7⟩) (by assumption) ?_
  case hy7 => (intro w hSw; (try dsimp only at hSw); go_simp; try with_reducible rfl)
  try simp only [Act.put, List.setIfInBounds_toArray, List.set_cons_zero, List.set_cons_succ]
  refine wpAnyH_take (i := 8) (v := ?v8) rfl (by kernel_rfl) (by kernel_rfl) (by kernel_rfl) (fun _ _ _ h => h) (Or.inl ⟨by rfl, ?hy8⟩) (by assumption) ?_
  case hy8 => (intro w hSw; (try dsimp only at hSw); go_simp; try with_reducible rfl)
  try simp only [Act.put, List.setIfInBounds_toArray, List.set_cons_zero, List.set_cons_succ]
  refine wpAnyH_take (i := 9) (v := ?v9) rfl (by kernel_rfl) (by kernel_rfl) (by kernel_rfl) (fun _ _ _ h => h) (Or.inl ⟨by rfl, ?hy9⟩) (by assumption) ?_
  case hy9 => (intro w hSw; (try dsimp only at hSw); go_simp; try with_reducible rfl)
  try simp only [Act.put, List.setIfInBounds_toArray, List.set_cons_zero, List.set_cons_succ]
  refine wpAnyH_take (i := 10) (v := ?v10) rfl (by kernel_rfl) (by kernel_rfl) (by kernel_rfl) (fun _ _ _ h => h) (Or.inl ⟨by rfl, ?hy10⟩) (by assumption) ?_
  case hy10 => (intro w hSw; (try dsimp only at hSw); go_simp; try with_reducible rfl)
  try simp only [Act.put, List.setIfInBounds_toArray, List.set_cons_zero, List.set_cons_succ]
  refine wpAnyH_take (i := 11) (v := ?v11) rfl (by kernel_rfl) (by kernel_rfl) (by kernel_rfl) (fun _ _ _ h => h) (Or.inl ⟨by rfl, ?hy11⟩) (by assumption) ?_
  case hy11 => (intro w hSw; (try dsimp only at hSw); go_simp; try with_reducible rfl)
  try simp only [Act.put, List.setIfInBounds_toArray, List.set_cons_zero, List.set_cons_succ]
  refine wpAnyH_ready (rs := [4, 12]) (by kernel_rfl) (by simp) ?_
  refine AllReadyH.cons rfl (fun K hK => ?_) ?_
  · go_simp
    refine hK.out _ _ ?_ (fun hHeld => ?_)
    · (try dsimp only); first | assumption | exact ⟨G0, G1⟩ | exact ⟨(World.cell?_setCell_other _ _ _ _ (by simp <;> omega)).trans G0, (World.cell?_setCell_other _ _ _ _ (by simp <;> omega)).trans G1⟩ | go_keep
    clear hK K
    try simp only [Act.put, List.setIfInBounds_toArray, List.set_cons_zero, List.set_cons_succ]
    refine wpAnyH_ready (rs := [12]) (by kernel_rfl) (by simp) ?_
    refine AllReadyH.cons rfl (fun K hK => ?_) AllReadyH.nil
    go_simp
    refine hK.out _ _ ?_ (fun hHeld => ?_)
    · (try dsimp only); first | assumption | exact ⟨G0, G1⟩ | exact ⟨(World.cell?_setCell_other _ _ _ _ (by simp <;> omega)).trans G0, (World.cell?_setCell_other _ _ _ _ (by simp <;> omega)).trans G1⟩ | go_keep
    clear hK K
    try simp only [Act.put, List.setIfInBounds_toArray, List.set_cons_zero, List.set_cons_succ]
    refine wpAnyH_ready (rs := [13]) (by kernel_rfl) (by simp) ?_
    refine AllReadyH.cons rfl (fun K hK => ?_) AllReadyH.nil
    (refine step_append_lies _ (by rfl) _ _ 38 (by rfl) B 3 i0 _ 1 8 Try.underlying38 hi hz0 hz1 hz2 rfl (by omega) vt told.length (told.map (Value.int .i64)) (by rfl) (by first | exact ((hO.out.alloc _).alloc _).drew | exact ((hO.out.alloc _).drew).alloc _) ⟨W.heap.size + 1, 0, none⟩ 1 1 [.int .i64 tv] (by rfl) (by rfl) (one_cell _ _ (by simp)) (one_of _) (by omega) (by have := hn.out; unfold maxLen; omega) (by have := hn.out; omega) (by simp; omega) (W.heap.size + 2) (by simp) ?_)
    intro gg cap w1 hown1 hgrow hat hlt
    obtain ⟨F1, F2, F3, F4⟩ := told_facts (W := W) (B := B) (g := g) (by go_grown) (by simp; omega) hg hBg hgrow hvg.out (fun k hk => World.ownsRow.lt hO.out k hk)
    have hgg : gg ≠ g := by
      rcases hat with e | e
      · intro e'; subst e'; exact hvg.out e
      · omega
    have G8 : w1.cell? ⟨g, 8, none⟩ = some vt := (F1 8).trans e8
    have G9 : w1.frozen? ⟨g, 8, none⟩ = false := (F2 8).trans f8
    have G1 : w1.cell? ⟨g, x, none⟩ = some (.int .i64 tv) := (F1 x).trans e1
    have G0 : w1.cell? ⟨W.heap.size, 0, none⟩ = some (.int .i64 (x : Int)) := by rw [F3 0]; simp
    have H1 : Hid (Own w1 B (.slice (some ⟨gg, 0, none⟩) (told.length + 1) cap) (told ++ [tv])) := by show Own _ _ _ _; unfold Own; simpa using hown1
    have HF : Hid ((∀ i, w1.cell? ⟨g, i, none⟩ = W.cell? ⟨g, i, none⟩) ∧ (∀ i, w1.frozen? ⟨g, i, none⟩ = W.frozen? ⟨g, i, none⟩) ∧ Below B W w1) := ⟨F1, F2, F4⟩
    have HQ : Hid (Keeps W w1 g vt (.slice (some ⟨gg, 0, none⟩) (told.length + 1) cap)) := keeps_lies (by go_grown) hgrow hat
    clear F1 F2 F3 F4 hown1 hgrow hat hlt
    refine hK.out _ _ ?_ (fun hHeld => ?_)
    · (try dsimp only); first | assumption | exact ⟨G0, G1⟩ | exact ⟨(World.cell?_setCell_other _ _ _ _ (by simp <;> omega)).trans G0, (World.cell?_setCell_other _ _ _ _ (by simp <;> omega)).trans G1⟩ | go_keep
    clear hK K
    try simp only [Act.put, List.setIfInBounds_toArray, List.set_cons_zero, List.set_cons_succ]
    refine wpAnyH_take (i := 14) (v := ?v12) rfl (by kernel_rfl) (by kernel_rfl) (by kernel_rfl) (fun _ _ _ h => h) (Or.inl ⟨by rfl, ?hy12⟩) (by assumption) ?_
    case hy12 => (intro w hSw; (try dsimp only at hSw); go_simp; try with_reducible rfl)
    try simp only [Act.put, List.setIfInBounds_toArray, List.set_cons_zero, List.set_cons_succ]
    refine wpAnyH_take (i := 15) (v := ?v13) rfl (by kernel_rfl) (by kernel_rfl) (by kernel_rfl) (fun _ _ _ h => h) (Or.inl ⟨by rfl, ?hy13⟩) (by assumption) ?_
    case hy13 => (intro w hSw; (try dsimp only at hSw); go_simp; try with_reducible rfl)
    try simp only [Act.put, List.setIfInBounds_toArray, List.set_cons_zero, List.set_cons_succ]
    refine wpAnyH_ready (rs := [16]) (by kernel_rfl) (by simp) ?_
    refine AllReadyH.cons rfl (fun K hK => ?_) AllReadyH.nil
    go_simp
    refine hK.out _ _ ?_ (fun hHeld => ?_)
    · (try dsimp only); first | assumption | exact ⟨G0, G1⟩ | exact ⟨(World.cell?_setCell_other _ _ _ _ (by simp <;> omega)).trans G0, (World.cell?_setCell_other _ _ _ _ (by simp <;> omega)).trans G1⟩ | go_keep
    clear hK K
    try simp only [Act.put, List.setIfInBounds_toArray, List.set_cons_zero, List.set_cons_succ]
    refine wpAnyH_done (by kernel_rfl) ?_ _
    refine NoPanic.normal ?_
    (go_wp2; exact bodyPost_end (v := .tuple #[]) (by simp [results, Try.results73, go_sem]) rfl ⟨rfl, told_two hBg e8 HF.out.1 HF.out.2.1 HF.out.2.2 H1.out hgg HQ.out⟩)
  refine AllReadyH.cons rfl (fun K hK => ?_) AllReadyH.nil
  go_simp
  refine hK.out _ _ ?_ (fun hHeld => ?_)
  · (try dsimp only); first | assumption | exact ⟨G0, G1⟩ | exact ⟨(World.cell?_setCell_other _ _ _ _ (by simp <;> omega)).trans G0, (World.cell?_setCell_other _ _ _ _ (by simp <;> omega)).trans G1⟩ | go_keep
  clear hK K
  try simp only [Act.put, List.setIfInBounds_toArray, List.set_cons_zero, List.set_cons_succ]
  refine wpAnyH_ready (rs := [4]) (by kernel_rfl) (by simp) ?_
  refine AllReadyH.cons rfl (fun K hK => ?_) AllReadyH.nil
  go_simp
  refine hK.out _ _ ?_ (fun hHeld => ?_)
  · (try dsimp only); first | assumption | exact ⟨G0, G1⟩ | exact ⟨(World.cell?_setCell_other _ _ _ _ (by simp <;> omega)).trans G0, (World.cell?_setCell_other _ _ _ _ (by simp <;> omega)).trans G1⟩ | go_keep
  clear hK K
  try simp only [Act.put, List.setIfInBounds_toArray, List.set_cons_zero, List.set_cons_succ]
  refine wpAnyH_ready (rs := [13]) (by kernel_rfl) (by simp) ?_
  refine AllReadyH.cons rfl (fun K hK => ?_) AllReadyH.nil
  (refine step_append_lies _ (by rfl) _ _ 38 (by rfl) B 3 i0 _ 1 8 Try.underlying38 hi hz0 hz1 hz2 rfl (by omega) vt told.length (told.map (Value.int .i64)) (by rfl) (by first | exact ((hO.out.alloc _).alloc _).drew | exact ((hO.out.alloc _).drew).alloc _) ⟨W.heap.size + 1, 0, none⟩ 1 1 [.int .i64 tv] (by rfl) (by rfl) (one_cell _ _ (by simp)) (one_of _) (by omega) (by have := hn.out; unfold maxLen; omega) (by have := hn.out; omega) (by simp; omega) (W.heap.size + 2) (by simp) ?_)
  intro gg cap w1 hown1 hgrow hat hlt
  obtain ⟨F1, F2, F3, F4⟩ := told_facts (W := W) (B := B) (g := g) (by go_grown) (by simp; omega) hg hBg hgrow hvg.out (fun k hk => World.ownsRow.lt hO.out k hk)
  have hgg : gg ≠ g := by
    rcases hat with e | e
    · intro e'; subst e'; exact hvg.out e
    · omega
  have G8 : w1.cell? ⟨g, 8, none⟩ = some vt := (F1 8).trans e8
  have G9 : w1.frozen? ⟨g, 8, none⟩ = false := (F2 8).trans f8
  have G1 : w1.cell? ⟨g, x, none⟩ = some (.int .i64 tv) := (F1 x).trans e1
  have G0 : w1.cell? ⟨W.heap.size, 0, none⟩ = some (.int .i64 (x : Int)) := by rw [F3 0]; simp
  have H1 : Hid (Own w1 B (.slice (some ⟨gg, 0, none⟩) (told.length + 1) cap) (told ++ [tv])) := by show Own _ _ _ _; unfold Own; simpa using hown1
  have HF : Hid ((∀ i, w1.cell? ⟨g, i, none⟩ = W.cell? ⟨g, i, none⟩) ∧ (∀ i, w1.frozen? ⟨g, i, none⟩ = W.frozen? ⟨g, i, none⟩) ∧ Below B W w1) := ⟨F1, F2, F4⟩
  have HQ : Hid (Keeps W w1 g vt (.slice (some ⟨gg, 0, none⟩) (told.length + 1) cap)) := keeps_lies (by go_grown) hgrow hat
  clear F1 F2 F3 F4 hown1 hgrow hat hlt
  refine hK.out _ _ ?_ (fun hHeld => ?_)
  · (try dsimp only); first | assumption | exact ⟨G0, G1⟩ | exact ⟨(World.cell?_setCell_other _ _ _ _ (by simp <;> omega)).trans G0, (World.cell?_setCell_other _ _ _ _ (by simp <;> omega)).trans G1⟩ | go_keep
  clear hK K
  try simp only [Act.put, List.setIfInBounds_toArray, List.set_cons_zero, List.set_cons_succ]
  refine wpAnyH_take (i := 14) (v := ?v14) rfl (by kernel_rfl) (by kernel_rfl) (by kernel_rfl) (fun _ _ _ h => h) (Or.inl ⟨by rfl, ?hy14⟩) (by assumption) ?_
  case hy14 => (intro w hSw; (try dsimp only at hSw); go_simp; try with_reducible rfl)
  try simp only [Act.put, List.setIfInBounds_toArray, List.set_cons_zero, List.set_cons_succ]
  refine wpAnyH_take (i := 15) (v := ?v15) rfl (by kernel_rfl) (by kernel_rfl) (by kernel_rfl) (fun _ _ _ h => h) (Or.inl ⟨by rfl, ?hy15⟩) (by assumption) ?_
  case hy15 => (intro w hSw; (try dsimp only at hSw); go_simp; try with_reducible rfl)
  try simp only [Act.put, List.setIfInBounds_toArray, List.set_cons_zero, List.set_cons_succ]
  refine wpAnyH_ready (rs := [16]) (by kernel_rfl) (by simp) ?_
  refine AllReadyH.cons rfl (fun K hK => ?_) AllReadyH.nil
  go_simp
  refine hK.out _ _ ?_ (fun hHeld => ?_)
  · (try dsimp only); first | assumption | exact ⟨G0, G1⟩ | exact ⟨(World.cell?_setCell_other _ _ _ _ (by simp <;> omega)).trans G0, (World.cell?_setCell_other _ _ _ _ (by simp <;> omega)).trans G1⟩ | go_keep
  clear hK K
  try simp only [Act.put, List.setIfInBounds_toArray, List.set_cons_zero, List.set_cons_succ]
  refine wpAnyH_done (by kernel_rfl) ?_ _
  refine NoPanic.normal ?_
  (go_wp2; exact bodyPost_end (v := .tuple #[]) (by simp [results, Try.results73, go_sem]) rfl ⟨rfl, told_two hBg e8 HF.out.1 HF.out.2.1 HF.out.2.2 H1.out hgg HQ.out⟩)
/-- A run's words, what is told, and where. -/
structure RunAt (w : World) (B g : Nat) (ws told : List Int) (vt : Value) : Prop where
  gB : B ≤ g
  gl : g < w.heap.size
  word : ∀ i, i < 8 → w.cell? ⟨g, i, none⟩ = some (.int .i64 (ws.getD i 0))
  free : ∀ i, i < 9 → w.frozen? ⟨g, i, none⟩ = false
  tell : w.cell? ⟨g, 8, none⟩ = some vt
  own : Own w B vt told
  ne : vt.ownBlock ≠ some g
theorem RunAt.st {w : World} {B g : Nat} {ws told : List Int} {vt : Value} (h : RunAt w B g ws told vt) : RunSt w B g ws told := ⟨h.gB, h.gl, h.word, h.free, vt, h.tell, h.own, h.ne⟩
/-- What a step leaves. -/
def Stepped (W : World) (B g : Nat) (ws told : List Int) (vt : Value) (e : Ending) (W' : World) : Prop := e = .returned (.tuple #[]) ∧ ∃ vt', RunAt W' B g ws told vt' ∧ Below B W W' ∧ Keeps W W' g vt vt' ∧ ∀ i, 8 < i → W'.cell? ⟨g, i, none⟩ = W.cell? ⟨g, i, none⟩ ∧ W'.frozen? ⟨g, i, none⟩ = W.frozen? ⟨g, i, none⟩
theorem stepped_set {W : World} {B g j : Nat} {ws told : List Int} {vt : Value} (hs : RunAt W B g ws told vt) (hl : ws.length = 8) (hj : j < 8) (v : Int) (o : Obj) :
    Stepped W B g (ws.set j v) told vt (.returned (.tuple #[])) ((W.setCell ⟨g, j, none⟩ (.int .i64 v)).alloc o).drew := by
  obtain ⟨⟨q0, q1, q2, q3, v', q4, q5, q6⟩, hB⟩ := run_set hs.st hl hj v o
  have hg2 : g < (W.setCell ⟨g, j, none⟩ (.int .i64 v)).heap.size := by simpa [World.setCell] using hs.gl
  have hcell : ∀ i, i ≠ j → ((W.setCell ⟨g, j, none⟩ (.int .i64 v)).alloc o).drew.cell? ⟨g, i, none⟩ = W.cell? ⟨g, i, none⟩ := fun i hi => (World.cell?_alloc_past o g i hg2).trans (World.cell?_setCell_other _ _ _ _ (by simp; try omega))
  have hfr : ∀ i, ((W.setCell ⟨g, j, none⟩ (.int .i64 v)).alloc o).drew.frozen? ⟨g, i, none⟩ = W.frozen? ⟨g, i, none⟩ := fun i => by
    have h1 : ((W.setCell ⟨g, j, none⟩ (.int .i64 v)).alloc o).drew.frozen? ⟨g, i, none⟩ = (W.setCell ⟨g, j, none⟩ (.int .i64 v)).frozen? ⟨g, i, none⟩ := World.frozen?_of_block (a := ⟨g, i, none⟩) (heap_alloc_old _ o hg2)
    rw [h1]; simp
  have e : v' = vt := by
    have := hcell 8 (by omega)
    rw [q4, hs.tell] at this
    exact Option.some.inj this
  subst e
  exact ⟨rfl, v', ⟨q0, q1, q2, q3, q4, q5, q6⟩, hB, keeps_drew (keeps_set (keeps_refl _ _ _) (Nat.le_refl _) _ _ _), fun i hi => ⟨hcell i (by omega), hfr i⟩⟩
theorem stepped_told {W W' : World} {B g : Nat} {ws told zs : List Int} {vt : Value} (hs : RunAt W B g ws told vt) (ht : ToldTwo W W' B g vt zs) : Stepped W B g ws zs vt (.returned (.tuple #[])) W' := by
  obtain ⟨v', h1, h2, h3, h4, h5, h6, h7⟩ := ht
  refine ⟨rfl, v', ⟨hs.gB, Nat.lt_of_lt_of_le hs.gl h6.size, fun i hi => (h4 i (by omega)).trans (hs.word i hi), fun i hi => (h5 i).trans (hs.free i hi), h1, h2, h3⟩, h6, h7, fun i hi => ⟨h4 i (by omega), h5 i⟩⟩
theorem impl_do2 (o d a b n : Int) (g B : Nat) (ws told : List Int) (vt : Value) (W : World) (hg : goodI o d a b n = true) (hw : wordsB ws = true) (hs : RunAt W B g ws told vt) (hn : told.length ≤ 100000) :
    Calls Try.prog 73 #[.pointer (some ⟨g, 0, none⟩), stepV o d a b n] W fun e W' => Stepped W B g (stepW ws o d a b n) (told ++ toldBy ws o a) vt e W' := by
  have hl := (words_out hw).1
  have hc := hs.word
  have hf := hs.free
  rcases good_cases hg with ⟨rfl, ⟨d0, d1⟩, n0, n1⟩ | ⟨rfl, ⟨d0, d1⟩, x0, x1⟩ | ⟨rfl, x0, x1⟩ | ⟨⟨o3, o7⟩, ⟨d0, d1⟩, ⟨x0, x1⟩, y0, y1⟩
  · obtain ⟨dn, rfl⟩ := Int.eq_ofNat_of_zero_le d0
    refine (do_c dn n g W _ (by omega) hs.gl (hc dn (by omega)) (hf dn (by omega))).mono ?_
    rintro e w' ⟨rfl, rfl⟩
    simpa [stepW, toldBy] using stepped_set hs hl (j := dn) (by omega) n _
  · obtain ⟨dn, rfl⟩ := Int.eq_ofNat_of_zero_le d0
    obtain ⟨xn, rfl⟩ := Int.eq_ofNat_of_zero_le x0
    refine (do_y dn xn _ g W _ (by omega) (by omega) hs.gl (hc dn (by omega)) (hf dn (by omega)) (hc xn (by omega))).mono ?_
    rintro e w' ⟨rfl, rfl⟩
    simpa [stepW, toldBy] using stepped_set hs hl (j := dn) (by omega) (ws.getD xn 0) _
  · obtain ⟨xn, rfl⟩ := Int.eq_ofNat_of_zero_le x0
    refine (do_t2 xn _ g B 0 W vt told (by omega) hs.gl hs.gB (hc xn (by omega)) hs.tell (hf 8 (by omega)) hs.own hn hs.ne).mono ?_
    rintro e w' ⟨rfl, ht⟩
    simpa [stepW, toldBy] using stepped_told hs ht
  · obtain ⟨dn, rfl⟩ := Int.eq_ofNat_of_zero_le d0
    obtain ⟨xn, rfl⟩ := Int.eq_ofNat_of_zero_le x0
    obtain ⟨yn, rfl⟩ := Int.eq_ofNat_of_zero_le y0
    obtain ⟨p0, p1⟩ := word_at hw (i := xn) (by omega)
    obtain ⟨r0, r1⟩ := word_at hw (i := yn) (by omega)
    rw [stepV_p o3 o7]
    refine (do_p o dn xn yn _ _ g W _ o3 o7 p0 p1 r0 r1 (by omega) (by omega) (by omega) hs.gl (hc dn (by omega)) (hf dn (by omega)) (hc xn (by omega)) (hc yn (by omega))).mono ?_
    rintro e w' ⟨rfl, rfl⟩
    have e1 : stepW ws o (dn : Int) (xn : Int) (yn : Int) n = ws.set dn (doV o (ws.getD xn 0) (ws.getD yn 0)) := by
      unfold stepW
      rw [if_neg (by omega), if_neg (by omega), if_neg (by omega)]
      rfl
    have e2 : toldBy ws o (xn : Int) = [] := by unfold toldBy; rw [if_neg (by omega)]
    rw [e1, e2, List.append_nil]
    exact stepped_set hs hl (j := dn) (by omega) _ _
end Go.Proofs.Ytgknofbkdgbokaa.walks
