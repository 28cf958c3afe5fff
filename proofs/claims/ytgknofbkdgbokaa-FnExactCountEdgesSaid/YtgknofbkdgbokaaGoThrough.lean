/-
  What the program does when it goes through a block.
-/
import Derived.Test.YtgknofbkdgbokaaProg
import Derived.Test.YtgknofbkdgbokaaFlowRun
import Derived.Test.YtgknofbkdgbokaaFlowBlocks
import Derived.Test.YtgknofbkdgbokaaDoFlow
import Derived.Test.YtgknofbkdgbokaaSpecFlow
import Derived.WalkKit
import Derived.WalkSpells
import Derived.Below
import Derived.Handy
import Derived.Deep.RegionHeld3
import Derived.Deep.AppendLies
import Derived.Deep.DeepCutAuto
namespace Go.Proofs.Ytgknofbkdgbokaa.walks
open Go.RowKit Go.Proofs.Ytgknofbkdgbokaa.math Go.Proofs.Ytgknofbkdgbokaa.ints
set_option linter.unusedVariables false
set_option linter.unusedSimpArgs false

theorem keeps_trans {W w w' : World} {g : Nat} {v0 v v' : Value} (h : Keeps W w g v0 v) (k : Keeps w w' g v v') (hs : W.heap.size ≤ w.heap.size) : Keeps W w' g v0 v' := by
  refine ⟨fun j hj hg hv => (k.1 j (by omega) hg ?_).trans (h.1 j hj hg hv), ?_⟩
  · rcases h.2 with e | e
    · rw [e]; exact hv
    · exact fun q => by have := e j q; omega
  · rcases k.2 with e | e
    · rw [e]; exact h.2
    · exact Or.inr (fun j q => by have := e j q; omega)
/-- A run of a flow, as it lies in memory. -/
structure FlowAt (w : World) (B g : Nat) (s : Rs) (vt vp : Value) : Prop where
  run : RunAt w B g s.ws s.told vt
  c9 : w.cell? ⟨g, 9, none⟩ = some vp
  f9 : w.frozen? ⟨g, 9, none⟩ = false
  c10 : w.cell? ⟨g, 10, none⟩ = some (.int .i64 s.next)
  f10 : w.frozen? ⟨g, 10, none⟩ = false
  path : Own w B vp s.path
  pg : vp.ownBlock ≠ some g
  tp : vt.ownBlock = none ∨ vt.ownBlock ≠ vp.ownBlock
theorem FlowAt.step {W W' : World} {B g : Nat} {s : Rs} {vt vp : Value} {ws told : List Int} {e : Ending} (h : FlowAt W B g s vt vp) (k : Stepped W B g ws told vt e W') : ∃ vt', FlowAt W' B g { s with ws := ws, told := told } vt' vp ∧ Below B W W' ∧ Keeps W W' g vt vt' := by
  obtain ⟨_, vt', hr, hB, hK, hc⟩ := k
  refine ⟨vt', ⟨hr, (hc 9 (by omega)).1.trans h.c9, (hc 9 (by omega)).2.trans h.f9, (hc 10 (by omega)).1.trans h.c10, (hc 10 (by omega)).2.trans h.f10, own_block h.path (fun j hj => hK.1 j (own_lt h.path hj) (fun q => by subst q; exact h.pg hj) (fun q => ?_)), h.pg, ?_⟩, hB, hK⟩
  · rcases h.tp with e | e
    · rw [e] at q; cases q
    · exact e (q.trans hj.symm)
  · rcases hK.2 with e | e
    · rw [e]; exact h.tp
    · by_cases h0 : vt'.ownBlock = none
      · exact Or.inl h0
      · right
        intro q
        obtain ⟨j, hj⟩ := Option.ne_none_iff_exists'.1 h0
        have h1 := e j hj
        have h2 := own_lt h.path (q ▸ hj)
        omega
/-- The block that is gone through is written down. -/
theorem FlowAt.note {W w2 w1 : World} {B g gg cap : Nat} {s : Rs} {vt vp : Value} (h : FlowAt W B g s vt vp) (hb : Below W.heap.size W w2) (hs : W.heap.size < w2.heap.size)
    (hown : w1.ownsRow B 3 1 (.slice (some ⟨gg, 0, none⟩) (s.path.length + 1) cap) (s.path.length + 1) (s.path.map (Value.int .i64) ++ [.int .i64 s.next])) (hgrow : w2.grownBy w1 vp.ownBlock) (hat : vp.ownBlock = some gg ∨ gg = w2.heap.size) (hlt : gg < w1.heap.size) :
    FlowAt (w1.setCell ⟨g, 9, none⟩ (.slice (some ⟨gg, 0, none⟩) (s.path.length + 1) cap)) B g { s with path := s.path ++ [s.next] } vt (.slice (some ⟨gg, 0, none⟩) (s.path.length + 1) cap) ∧ Below B W (w1.setCell ⟨g, 9, none⟩ (.slice (some ⟨gg, 0, none⟩) (s.path.length + 1) cap)) ∧ (∀ i, w1.cell? ⟨g, i, none⟩ = W.cell? ⟨g, i, none⟩) ∧ (∀ i, w1.frozen? ⟨g, i, none⟩ = W.frozen? ⟨g, i, none⟩) ∧ (∀ i, w1.cell? ⟨W.heap.size, i, none⟩ = w2.cell? ⟨W.heap.size, i, none⟩) := by
  obtain ⟨F1, F2, F3, F4⟩ := told_facts (W := W) (B := B) (g := g) hb hs h.run.gl h.run.gB hgrow h.pg (fun k hk => World.ownsRow.lt h.path k hk)
  have hgg : gg ≠ g := by
    rcases hat with e | e
    · intro e'; subst e'; exact h.pg e
    · have := h.run.gl; omega
  have hO : Own w1 B vt s.told := World.ownsRow.kept (own_block h.run.own (fun j hj => hb.block j (own_lt h.run.own hj))) hgrow h.tp
  have hsz := hgrow.size
  have gl := h.run.gl
  refine ⟨⟨⟨h.run.gB, by simp [World.setCell]; omega, fun i hi => ?_, fun i hi => ?_, ?_, World.ownsRow.kept hO (grow_set (grow_refl _ _) 9 _) (Or.inr h.run.ne), h.run.ne⟩, World.cell?_setCell_same _ _ _ ((F1 9).trans h.c9), ?_, ?_, ?_, ?_, by simpa [Value.ownBlock] using hgg, ?_⟩, F4.setCell h.run.gB _, F1, F2, F3⟩
  · rw [World.cell?_setCell_other _ _ _ _ (by simp; try omega), F1]; exact h.run.word i hi
  · rw [← h.run.free i hi, ← F2 i]; simp
  · rw [World.cell?_setCell_other _ _ _ _ (by simp; try omega), F1]; exact h.run.tell
  · rw [← h.f9, ← F2 9]; simp
  · rw [World.cell?_setCell_other _ _ _ _ (by simp; try omega), F1]; exact h.c10
  · rw [← h.f10, ← F2 10]; simp
  · have : Own w1 B (.slice (some ⟨gg, 0, none⟩) (s.path.length + 1) cap) (s.path ++ [s.next]) := by unfold Own; simpa using hown
    exact World.ownsRow.kept this (grow_set (grow_refl _ _) 9 _) (Or.inr (by simpa [Value.ownBlock] using hgg))
  · rcases h.tp with e | e
    · exact Or.inl e
    · right
      rcases hat with q | q
      · rw [show Value.ownBlock (.slice (some ⟨gg, 0, none⟩) (s.path.length + 1) cap) = some gg from rfl, ← q]; exact e
      · intro p
        have := own_lt h.run.own (show vt.ownBlock = some gg from p)
        omega
theorem flowbox_kept {w w' : World} {h g tn : Nat} {v0 v1 v2 v3 v4 v5 : Value} (hb : Below w.heap.size w w') (hh : h < w.heap.size) (hg : g < w.heap.size) (hS : (w.cell? ⟨h, 0, none⟩ = some v0 ∧ w.cell? ⟨h, 1, none⟩ = some v1 ∧ w.cell? ⟨h, 2, none⟩ = some v2 ∧ w.cell? ⟨h, 3, none⟩ = some v3 ∧ w.cell? ⟨h, 4, none⟩ = some v4) ∧ w.cell? ⟨g, tn, none⟩ = some v5) :
    (w'.cell? ⟨h, 0, none⟩ = some v0 ∧ w'.cell? ⟨h, 1, none⟩ = some v1 ∧ w'.cell? ⟨h, 2, none⟩ = some v2 ∧ w'.cell? ⟨h, 3, none⟩ = some v3 ∧ w'.cell? ⟨h, 4, none⟩ = some v4) ∧ w'.cell? ⟨g, tn, none⟩ = some v5 :=
  ⟨⟨(hb.cell (p := ⟨h, 0, none⟩) hh).trans hS.1.1, (hb.cell (p := ⟨h, 1, none⟩) hh).trans hS.1.2.1, (hb.cell (p := ⟨h, 2, none⟩) hh).trans hS.1.2.2.1, (hb.cell (p := ⟨h, 3, none⟩) hh).trans hS.1.2.2.2.1, (hb.cell (p := ⟨h, 4, none⟩) hh).trans hS.1.2.2.2.2⟩, (hb.cell (p := ⟨g, tn, none⟩) hg).trans hS.2⟩
theorem flowbox_set {w : World} {h g tn : Nat} {v0 v1 v2 v3 v4 v5 u : Value} (hne : g ≠ h) (ht : tn < 8) (hS : (w.cell? ⟨h, 0, none⟩ = some v0 ∧ w.cell? ⟨h, 1, none⟩ = some v1 ∧ w.cell? ⟨h, 2, none⟩ = some v2 ∧ w.cell? ⟨h, 3, none⟩ = some v3 ∧ w.cell? ⟨h, 4, none⟩ = some v4) ∧ w.cell? ⟨g, tn, none⟩ = some v5) :
    ((w.setCell ⟨g, 10, none⟩ u).cell? ⟨h, 0, none⟩ = some v0 ∧ (w.setCell ⟨g, 10, none⟩ u).cell? ⟨h, 1, none⟩ = some v1 ∧ (w.setCell ⟨g, 10, none⟩ u).cell? ⟨h, 2, none⟩ = some v2 ∧ (w.setCell ⟨g, 10, none⟩ u).cell? ⟨h, 3, none⟩ = some v3 ∧ (w.setCell ⟨g, 10, none⟩ u).cell? ⟨h, 4, none⟩ = some v4) ∧ (w.setCell ⟨g, 10, none⟩ u).cell? ⟨g, tn, none⟩ = some v5 := by
  have H : ∀ i v, w.cell? ⟨h, i, none⟩ = some v → (w.setCell ⟨g, 10, none⟩ u).cell? ⟨h, i, none⟩ = some v := fun i v e => (World.cell?_setCell_other _ _ _ _ (by simp <;> omega)).trans e
  exact ⟨⟨H _ _ hS.1.1, H _ _ hS.1.2.1, H _ _ hS.1.2.2.1, H _ _ hS.1.2.2.2.1, H _ _ hS.1.2.2.2.2⟩, (World.cell?_setCell_other _ _ _ _ (by simp <;> omega)).trans hS.2⟩
/-- The run goes on at another block. -/
theorem FlowAt.goOn {W w : World} {B g : Nat} {s : Rs} {vt vp : Value} (h : FlowAt W B g s vt vp) (hb : Below W.heap.size W w) (n : Int) : FlowAt (w.setCell ⟨g, 10, none⟩ (.int .i64 n)) B g { s with next := n } vt vp ∧ Below B W (w.setCell ⟨g, 10, none⟩ (.int .i64 n)) := by
  have gl := h.run.gl
  have gB := h.run.gB
  have sz := hb.size
  have C : ∀ i, w.cell? ⟨g, i, none⟩ = W.cell? ⟨g, i, none⟩ := fun i => hb.cell (p := ⟨g, i, none⟩) gl
  have F : ∀ i, w.frozen? ⟨g, i, none⟩ = W.frozen? ⟨g, i, none⟩ := fun i => hb.frozen (p := ⟨g, i, none⟩) gl
  have hO : Own w B vt s.told := own_block h.run.own (fun j hj => hb.block j (own_lt h.run.own hj))
  have hP : Own w B vp s.path := own_block h.path (fun j hj => hb.block j (own_lt h.path hj))
  refine ⟨⟨⟨gB, by simp [World.setCell]; omega, fun i hi => ?_, fun i hi => ?_, ?_, World.ownsRow.kept hO (grow_set (grow_refl _ _) 10 _) (Or.inr h.run.ne), h.run.ne⟩, ?_, ?_, World.cell?_setCell_same _ _ _ ((C 10).trans h.c10), ?_, World.ownsRow.kept hP (grow_set (grow_refl _ _) 10 _) (Or.inr h.pg), h.pg, h.tp⟩, (hb.mono (by omega)).setCell gB _⟩
  · rw [World.cell?_setCell_other _ _ _ _ (by simp; try omega), C]; exact h.run.word i hi
  · rw [← h.run.free i hi, ← F i]; simp
  · rw [World.cell?_setCell_other _ _ _ _ (by simp; try omega), C]; exact h.run.tell
  · rw [World.cell?_setCell_other _ _ _ _ (by simp; try omega), C]; exact h.c9
  · rw [← h.f9, ← F 9]; simp
  · rw [← h.f10, ← F 10]; simp
theorem impl_nextBy (ca sa : Option Addr) (len cc sc : Nat) (t th el x : Int) (W : World) : Calls Try.prog 74 #[.agg #[.slice ca len cc, .int .i64 t, .int .i64 th, .int .i64 el, .slice sa len sc], .int .i64 x] W fun e W' => e = .returned (.int .i64 (if x = 0 then el else th)) ∧ Below W.heap.size W W' := by
  by_cases h : x = 0
  · rw [if_pos h]
    subst h
    go_enter Try.func74, Try.ntmps74
    go_wp2
    go_ret
    exact ⟨rfl, by repeat (first | exact Below.refl _ _ | refine Below.drew ?_ | refine Below.setCell ?_ (by simp; try omega) _ | refine Below.alloc ?_ (by simp; try omega) _)⟩
  · rw [if_neg h]
    have h0 : (x == 0) = false := by simpa using h
    have h1 : decide (x = 0) = false := decide_eq_false h
    go_enter Try.func74, Try.ntmps74
    go_wp2
    go_ret
    exact ⟨rfl, by repeat (first | exact Below.refl _ _ | refine Below.drew ?_ | refine Below.setCell ?_ (by simp; try omega) _ | refine Below.alloc ?_ (by simp; try omega) _)⟩

set_option maxRecDepth 100000 in
set_option maxHeartbeats 8000000 in
theorem impl_go (ca sa : Option Addr) (len cc sc tn : Nat) (th el x : Int) (zs : List Int) (B g : Nat) (s : Rs) (vt vp : Value) (W : World) (EX : Hid (x = s.next)) (hc : Hid (codeB zs len = true)) (hw : Hid (wordsB s.ws = true)) (ht : tn < 8) (hs : Hid (FlowAt W B g s vt vp)) (hst : Hid (Steps W sa zs len)) (hlow : Hid (len ≠ 0 → ∀ b o, sa = some ⟨b, o, none⟩ → b < B)) (hpl : Hid (s.path.length ≤ 1000)) (htl : Hid (s.told.length ≤ 90000)) :
    Calls Try.prog 66 #[.pointer (some ⟨g, 0, none⟩), .agg #[.slice ca len cc, .int .i64 (tn : Int), .int .i64 th, .int .i64 el, .slice sa len sc]] W fun e W' => e = .returned (.tuple #[]) ∧ ∃ vt' vp', FlowAt W' B g ⟨s.told ++ toldTo zs s.ws len, runW zs s.ws len, s.path ++ [x], if (runW zs s.ws len).getD tn 0 = 0 then el else th⟩ vt' vp' ∧ Below B W W' := by
  obtain ⟨i0, hi, hz0, hz1, hz2⟩ := info_parts row_info
  have hg := hs.out.run.gl
  have hgB := hs.out.run.gB
  have hne : g ≠ W.heap.size := by omega
  have hne2 : g ≠ W.heap.size + 1 := by omega
  have e9 := hs.out.c9
  have e10 : W.cell? ⟨g, 10, none⟩ = some (.int .i64 x) := by rw [hs.out.c10, EX.out]
  have f9 := hs.out.f9
  go_enter Try.func66, Try.ntmps66
  go_upto_region 1 with fail
  go_cut [] (fun wx => ∃ gg cap, FlowAt wx B g { s with path := s.path ++ [s.next] } vt (.slice (some ⟨gg, 0, none⟩) (s.path.length + 1) cap) ∧ Below B W wx ∧ (∀ i u, (#[.slice ca len cc, .int .i64 (tn : Int), .int .i64 th, .int .i64 el, .slice sa len sc] : Array Value)[i]? = some u → wx.cell? ⟨W.heap.size, i, none⟩ = some u) ∧ W.heap.size < wx.heap.size)
  case first =>
    refine wp_region_noPanic ?_
    refine wp_region_held_drew (S := fun w' => w'.cell? ⟨g, 10, none⟩ = some (.int .i64 x)) (by kernel_rfl) ?_ (fun hHeld => ?_)
    · (try dsimp only); go_keep
    refine wpAnyH_take (i := 0) (v := ?v1) rfl (by kernel_rfl) (by kernel_rfl) (by kernel_rfl) (fun _ _ _ h => h) (Or.inl ⟨by rfl, ?hy1⟩) (by assumption) ?_
    case hy1 => (intro w hSw; (try dsimp only at hSw); go_simp; try with_reducible rfl)
    try simp only [Act.put, List.setIfInBounds_toArray, List.set_cons_zero, List.set_cons_succ]
    refine wpAnyH_take (i := 1) (v := ?v2) rfl (by kernel_rfl) (by kernel_rfl) (by kernel_rfl) (fun _ _ _ h => h) (Or.inl ⟨by rfl, ?hy2⟩) (by assumption) ?_
    case hy2 => (intro w hSw; (try dsimp only at hSw); go_simp; try with_reducible rfl)
    try simp only [Act.put, List.setIfInBounds_toArray, List.set_cons_zero, List.set_cons_succ]
    refine wpAnyH_take (i := 2) (v := ?v3) rfl (by kernel_rfl) (by kernel_rfl) (by kernel_rfl) (fun _ _ _ h => h) (Or.inl ⟨by rfl, ?hy3⟩) (by assumption) ?_
    case hy3 => (intro w hSw; (try dsimp only at hSw); go_simp; try with_reducible rfl)
    try simp only [Act.put, List.setIfInBounds_toArray, List.set_cons_zero, List.set_cons_succ]
    refine wpAnyH_take (i := 3) (v := ?v4) rfl (by kernel_rfl) (by kernel_rfl) (by kernel_rfl) (fun _ _ _ h => h) (Or.inl ⟨by rfl, ?hy4⟩) (by assumption) ?_
    case hy4 => (intro w hSw; (try dsimp only at hSw); go_simp; try with_reducible rfl)
    try simp only [Act.put, List.setIfInBounds_toArray, List.set_cons_zero, List.set_cons_succ]
    refine wpAnyH_take (i := 5) (v := ?v5) rfl (by kernel_rfl) (by kernel_rfl) (by kernel_rfl) (fun _ _ _ h => h) (Or.inl ⟨by rfl, ?hy5⟩) (by assumption) ?_
    case hy5 => (intro w hSw; (try dsimp only at hSw); go_simp; try with_reducible rfl)
    try simp only [Act.put, List.setIfInBounds_toArray, List.set_cons_zero, List.set_cons_succ]
    refine wpAnyH_take (i := 6) (v := ?v6) rfl (by kernel_rfl) (by kernel_rfl) (by kernel_rfl) (fun _ _ _ h => h) (Or.inl ⟨by rfl, ?hy6⟩) (by assumption) ?_
    case hy6 => (intro w hSw; (try dsimp only at hSw); go_simp; try with_reducible rfl)
    try simp only [Act.put, List.setIfInBounds_toArray, List.set_cons_zero, List.set_cons_succ]
    refine wpAnyH_take (i := 7) (v := ?v7) rfl (by kernel_rfl) (by kernel_rfl) (by kernel_rfl) (fun _ _ _ h => h) (Or.inl ⟨by rfl, ?hy7⟩) (by assumption) ?_
    case hy7 => (intro w hSw; (try dsimp only at hSw); go_simp; try with_reducible rfl)
    try simp only [Act.put, List.setIfInBounds_toArray, List.set_cons_zero, List.set_cons_succ]
    refine wpAnyH_take (i := 8) (v := ?v8) rfl (by kernel_rfl) (by kernel_rfl) (by kernel_rfl) (fun _ _ _ h => h) (Or.inl ⟨by rfl, ?hy8⟩) (by assumption) ?_
    case hy8 => (intro w hSw; (try dsimp only at hSw); go_simp; try with_reducible rfl)
    try simp only [Act.put, List.setIfInBounds_toArray, List.set_cons_zero, List.set_cons_succ]
    refine wpAnyH_ready (rs := [4, 9]) (by kernel_rfl) (by simp) ?_
    refine AllReadyH.cons rfl (fun K hK => ?_) ?_
    · go_simp
      refine hK.out _ _ ?_ (fun hHeld => ?_)
      · (try dsimp only); first | assumption | exact G10 | exact (World.cell?_setCell_other _ _ _ _ (by simp <;> omega)).trans G10 | go_keep
      clear hK K
      try simp only [Act.put, List.setIfInBounds_toArray, List.set_cons_zero, List.set_cons_succ]
      refine wpAnyH_ready (rs := [9]) (by kernel_rfl) (by simp) ?_
      refine AllReadyH.cons rfl (fun K hK => ?_) AllReadyH.nil
      go_simp
      refine hK.out _ _ ?_ (fun hHeld => ?_)
      · (try dsimp only); first | assumption | exact G10 | exact (World.cell?_setCell_other _ _ _ _ (by simp <;> omega)).trans G10 | go_keep
      clear hK K
      try simp only [Act.put, List.setIfInBounds_toArray, List.set_cons_zero, List.set_cons_succ]
      refine wpAnyH_ready (rs := [10]) (by kernel_rfl) (by simp) ?_
      refine AllReadyH.cons rfl (fun K hK => ?_) AllReadyH.nil
      (refine step_append_lies _ (by rfl) _ _ 38 (by rfl) B 3 i0 _ 1 8 Try.underlying38 hi hz0 hz1 hz2 rfl (by omega) vp s.path.length (s.path.map (Value.int .i64)) (by rfl) (by first | exact ((hs.out.path.alloc _).alloc _).drew | exact ((hs.out.path.alloc _).drew).alloc _) ⟨W.heap.size + 1, 0, none⟩ 1 1 [.int .i64 x] (by rfl) (by rfl) (one_cell _ _ (by simp)) (one_of _) (by omega) (by have := hpl.out; unfold maxLen; omega) (by have := hpl.out; omega) (by simp; omega) (W.heap.size + 2) (by simp) ?_)
      intro gg cap w1 hown1 hgrow hat hlt
      obtain ⟨q0, q1, q2, q3, q4⟩ := FlowAt.note hs.out (by go_grown) (by simp; omega) (by rw [← EX.out]; exact hown1) hgrow (by rcases hat with e | e; exact Or.inl e; exact Or.inr (by simp; omega)) hlt
      have Q0 : Hid (FlowAt (w1.setCell ⟨g, 9, none⟩ (.slice (some ⟨gg, 0, none⟩) (s.path.length + 1) cap)) B g { s with path := s.path ++ [s.next] } vt (.slice (some ⟨gg, 0, none⟩) (s.path.length + 1) cap)) := q0
      have Q1 : Hid (Below B W (w1.setCell ⟨g, 9, none⟩ (.slice (some ⟨gg, 0, none⟩) (s.path.length + 1) cap))) := q1
      have G9 : w1.cell? ⟨g, 9, none⟩ = some vp := (q2 9).trans hs.out.c9
      have G10 : w1.cell? ⟨g, 10, none⟩ = some (.int .i64 x) := by rw [q2 10, hs.out.c10, EX.out]
      have GF : w1.frozen? ⟨g, 9, none⟩ = false := (q3 9).trans hs.out.f9
      have Q4 : Hid (∀ i u, (#[.slice ca len cc, .int .i64 (tn : Int), .int .i64 th, .int .i64 el, .slice sa len sc] : Array Value)[i]? = some u → w1.cell? ⟨W.heap.size, i, none⟩ = some u) := fun i u hu => by rw [q4 i]; simpa using hu
      have hsz1 : W.heap.size < w1.heap.size := by have := hgrow.size; simp at this; omega
      clear q0 q1 q2 q3 q4 hown1 hgrow hat hlt
      refine hK.out _ _ ?_ (fun hHeld => ?_)
      · (try dsimp only); first | assumption | exact G10 | exact (World.cell?_setCell_other _ _ _ _ (by simp <;> omega)).trans G10 | go_keep
      clear hK K
      try simp only [Act.put, List.setIfInBounds_toArray, List.set_cons_zero, List.set_cons_succ]
      refine wpAnyH_take (i := 11) (v := ?v9) rfl (by kernel_rfl) (by kernel_rfl) (by kernel_rfl) (fun _ _ _ h => h) (Or.inl ⟨by rfl, ?hy9⟩) (by assumption) ?_
      case hy9 => (intro w hSw; (try dsimp only at hSw); go_simp; try with_reducible rfl)
      try simp only [Act.put, List.setIfInBounds_toArray, List.set_cons_zero, List.set_cons_succ]
      refine wpAnyH_take (i := 12) (v := ?v10) rfl (by kernel_rfl) (by kernel_rfl) (by kernel_rfl) (fun _ _ _ h => h) (Or.inl ⟨by rfl, ?hy10⟩) (by assumption) ?_
      case hy10 => (intro w hSw; (try dsimp only at hSw); go_simp; try with_reducible rfl)
      try simp only [Act.put, List.setIfInBounds_toArray, List.set_cons_zero, List.set_cons_succ]
      refine wpAnyH_ready (rs := [13]) (by kernel_rfl) (by simp) ?_
      refine AllReadyH.cons rfl (fun K hK => ?_) AllReadyH.nil
      go_simp
      refine hK.out _ _ ?_ (fun hHeld => ?_)
      · (try dsimp only); first | assumption | exact G10 | exact (World.cell?_setCell_other _ _ _ _ (by simp <;> omega)).trans G10 | go_keep
      clear hK K
      try simp only [Act.put, List.setIfInBounds_toArray, List.set_cons_zero, List.set_cons_succ]
      refine wpAnyH_done (by kernel_rfl) ?_ _
      refine NoPanic.normal ?_
      (go_wp2_with fail; go_meet; exact ⟨gg, cap, Q0.out, Q1.out, fun i u hu => (World.cell?_setCell_other _ _ _ _ (by simp <;> omega)).trans (Q4.out i u hu), by simp [World.setCell]; omega⟩)
    refine AllReadyH.cons rfl (fun K hK => ?_) AllReadyH.nil
    go_simp
    refine hK.out _ _ ?_ (fun hHeld => ?_)
    · (try dsimp only); first | assumption | exact G10 | exact (World.cell?_setCell_other _ _ _ _ (by simp <;> omega)).trans G10 | go_keep
    clear hK K
    try simp only [Act.put, List.setIfInBounds_toArray, List.set_cons_zero, List.set_cons_succ]
    refine wpAnyH_ready (rs := [4]) (by kernel_rfl) (by simp) ?_
    refine AllReadyH.cons rfl (fun K hK => ?_) AllReadyH.nil
    go_simp
    refine hK.out _ _ ?_ (fun hHeld => ?_)
    · (try dsimp only); first | assumption | exact G10 | exact (World.cell?_setCell_other _ _ _ _ (by simp <;> omega)).trans G10 | go_keep
    clear hK K
    try simp only [Act.put, List.setIfInBounds_toArray, List.set_cons_zero, List.set_cons_succ]
    refine wpAnyH_ready (rs := [10]) (by kernel_rfl) (by simp) ?_
    refine AllReadyH.cons rfl (fun K hK => ?_) AllReadyH.nil
    (refine step_append_lies _ (by rfl) _ _ 38 (by rfl) B 3 i0 _ 1 8 Try.underlying38 hi hz0 hz1 hz2 rfl (by omega) vp s.path.length (s.path.map (Value.int .i64)) (by rfl) (by first | exact ((hs.out.path.alloc _).alloc _).drew | exact ((hs.out.path.alloc _).drew).alloc _) ⟨W.heap.size + 1, 0, none⟩ 1 1 [.int .i64 x] (by rfl) (by rfl) (one_cell _ _ (by simp)) (one_of _) (by omega) (by have := hpl.out; unfold maxLen; omega) (by have := hpl.out; omega) (by simp; omega) (W.heap.size + 2) (by simp) ?_)
    intro gg cap w1 hown1 hgrow hat hlt
    obtain ⟨q0, q1, q2, q3, q4⟩ := FlowAt.note hs.out (by go_grown) (by simp; omega) (by rw [← EX.out]; exact hown1) hgrow (by rcases hat with e | e; exact Or.inl e; exact Or.inr (by simp; omega)) hlt
    have Q0 : Hid (FlowAt (w1.setCell ⟨g, 9, none⟩ (.slice (some ⟨gg, 0, none⟩) (s.path.length + 1) cap)) B g { s with path := s.path ++ [s.next] } vt (.slice (some ⟨gg, 0, none⟩) (s.path.length + 1) cap)) := q0
    have Q1 : Hid (Below B W (w1.setCell ⟨g, 9, none⟩ (.slice (some ⟨gg, 0, none⟩) (s.path.length + 1) cap))) := q1
    have G9 : w1.cell? ⟨g, 9, none⟩ = some vp := (q2 9).trans hs.out.c9
    have G10 : w1.cell? ⟨g, 10, none⟩ = some (.int .i64 x) := by rw [q2 10, hs.out.c10, EX.out]
    have GF : w1.frozen? ⟨g, 9, none⟩ = false := (q3 9).trans hs.out.f9
    have Q4 : Hid (∀ i u, (#[.slice ca len cc, .int .i64 (tn : Int), .int .i64 th, .int .i64 el, .slice sa len sc] : Array Value)[i]? = some u → w1.cell? ⟨W.heap.size, i, none⟩ = some u) := fun i u hu => by rw [q4 i]; simpa using hu
    have hsz1 : W.heap.size < w1.heap.size := by have := hgrow.size; simp at this; omega
    clear q0 q1 q2 q3 q4 hown1 hgrow hat hlt
    refine hK.out _ _ ?_ (fun hHeld => ?_)
    · (try dsimp only); first | assumption | exact G10 | exact (World.cell?_setCell_other _ _ _ _ (by simp <;> omega)).trans G10 | go_keep
    clear hK K
    try simp only [Act.put, List.setIfInBounds_toArray, List.set_cons_zero, List.set_cons_succ]
    refine wpAnyH_take (i := 11) (v := ?v11) rfl (by kernel_rfl) (by kernel_rfl) (by kernel_rfl) (fun _ _ _ h => h) (Or.inl ⟨by rfl, ?hy11⟩) (by assumption) ?_
    case hy11 => (intro w hSw; (try dsimp only at hSw); go_simp; try with_reducible rfl)
    try simp only [Act.put, List.setIfInBounds_toArray, List.set_cons_zero, List.set_cons_succ]
    refine wpAnyH_take (i := 12) (v := ?v12) rfl (by kernel_rfl) (by kernel_rfl) (by kernel_rfl) (fun _ _ _ h => h) (Or.inl ⟨by rfl, ?hy12⟩) (by assumption) ?_
    case hy12 => (intro w hSw; (try dsimp only at hSw); go_simp; try with_reducible rfl)
    try simp only [Act.put, List.setIfInBounds_toArray, List.set_cons_zero, List.set_cons_succ]
    refine wpAnyH_ready (rs := [13]) (by kernel_rfl) (by simp) ?_
    refine AllReadyH.cons rfl (fun K hK => ?_) AllReadyH.nil
    go_simp
    refine hK.out _ _ ?_ (fun hHeld => ?_)
    · (try dsimp only); first | assumption | exact G10 | exact (World.cell?_setCell_other _ _ _ _ (by simp <;> omega)).trans G10 | go_keep
    clear hK K
    try simp only [Act.put, List.setIfInBounds_toArray, List.set_cons_zero, List.set_cons_succ]
    refine wpAnyH_done (by kernel_rfl) ?_ _
    refine NoPanic.normal ?_
    (go_wp2_with fail; go_meet; exact ⟨gg, cap, Q0.out, Q1.out, fun i u hu => (World.cell?_setCell_other _ _ _ _ (by simp <;> omega)).trans (Q4.out i u hu), by simp [World.setCell]; omega⟩)
  obtain ⟨gg, pcap, hF, hB, hbox, hwl⟩ := hcut
  obtain ⟨vp1, EV⟩ : ∃ vp1 : Value, Hid (vp1 = .slice (some ⟨gg, 0, none⟩) (s.path.length + 1) pcap) := ⟨_, rfl⟩
  have F0 : Hid (FlowAt wc B g ⟨s.told ++ toldTo zs s.ws 0, runW zs s.ws 0, s.path ++ [x], x⟩ vt vp1) := by
    show FlowAt _ _ _ _ _ _
    rw [EV.out, EX.out]
    simpa [toldTo, runW] using hF
  have HB : Hid (Below B W wc) := hB
  have HX : Hid (∀ i u, (#[.slice ca len cc, .int .i64 (tn : Int), .int .i64 th, .int .i64 el, .slice sa len sc] : Array Value)[i]? = some u → wc.cell? ⟨W.heap.size, i, none⟩ = some u) := hbox
  have x4 : wc.cell? ⟨W.heap.size, 4, none⟩ = some (.slice sa len sc) := hbox 4 _ rfl
  have htn : (tn : Int) < 8 := by omega
  have hl30 := (code_out hc.out).1
  have hvW : Hid (vt.ownBlock ≠ some W.heap.size) := fun q => by have := own_lt hs.out.run.own q; omega
  clear hF hB hbox e9 e10 f9 EV
  go_wp2
  go_loopw [22] (fun vi wr => ∃ (k : Nat) (vt' : Value), k ≤ len ∧ vi = .int .i64 k ∧ Hid (FlowAt wr B g ⟨s.told ++ toldTo zs s.ws k, runW zs s.ws k, s.path ++ [x], x⟩ vt' vp1) ∧ Hid (Below B W wr) ∧ Hid (Keeps wc wr g vt vt') ∧ Hid (wc.heap.size ≤ wr.heap.size)) (fun vi _ => len - (intOf vi).toNat)
  case atStart => exact ⟨0, vt, Nat.zero_le _, rfl, F0, HB, keeps_refl _ _ _, Nat.le_refl _⟩
  case round =>
    obtain ⟨k, vt', hk, rfl, HF, HK, HP, HZ⟩ := hrel
    by_cases hlt : k < len
    · obtain ⟨sb, rfl, hsb, hsc⟩ : ∃ b, sa = some ⟨b, 0, none⟩ ∧ b < B ∧ Hid (∀ i, i < len → W.cell? ⟨b, i, none⟩ = some (stepAt zs i)) := by
        rcases hst.out with e | ⟨b, e, _, hc'⟩
        · omega
        · exact ⟨b, e, hlow.out (by omega) b 0 e, hc'⟩
      obtain ⟨sv, hsv, HV⟩ : ∃ sv, wr.cell? ⟨sb, k, none⟩ = some sv ∧ Hid (sv = stepAt zs k) := ⟨_, (HK.out.cell (p := ⟨sb, k, none⟩) hsb).trans (hsc.out k hlt), rfl⟩
      clear hsc
      have HG : Hid (stepB zs k = true) := (code_out hc.out).2 k hlt
      have HW : Hid (wordsB (runW zs s.ws k) = true) := run_words hw.out (code_out hc.out).2 k hk
      have HL : Hid ((s.told ++ toldTo zs s.ws k).length ≤ 100000) := by
        have h1 := told_len zs s.ws k
        have h2 := (code_out hc.out).1
        have h3 := htl.out
        show _ ≤ _
        rw [List.length_append]; omega
      have hgr := HF.out.run.gl
      go_wp2_with (go_at_call 73; rw [HV.out]; refine (impl_do2 _ _ _ _ _ _ _ _ _ _ _ HG.out HW.out HF.out.run HL.out).mono ?_; intro e w' hstep; obtain ⟨rfl, _⟩ := id hstep; obtain ⟨vt2, q0, q1, q2⟩ := HF.out.step hstep; have Q0 : Hid (FlowAt w' B g ⟨s.told ++ toldTo zs s.ws (k + 1), runW zs s.ws (k + 1), s.path ++ [x], x⟩ vt2 vp1) := (by show FlowAt _ _ _ _ _ _; rw [show s.told ++ toldTo zs s.ws (k + 1) = s.told ++ toldTo zs s.ws k ++ toldBy (runW zs s.ws k) (zs.getD (k * 5) 0) (zs.getD (k * 5 + 2) 0) from by rw [List.append_assoc]; rfl]; exact q0); have Q1 : Hid (Below B W w') := HK.out.trans q1; have Q2 : Hid (Keeps wc w' g vt vt2) := keeps_trans HP.out q2 HZ.out; have Q3 : Hid (wc.heap.size ≤ w'.heap.size) := Nat.le_trans HZ.out q1.size; clear hstep q0 q1 q2)
      go_roundw
      case rel => exact ⟨k + 1, vt2, by omega, by go_num, Q0, Q1, Q2, Q3⟩
      case measure => simp [intOf]; omega
    · have HE : Hid (k = len) := by show k = len; omega
      have hgr := HF.out.run.gl
      have hbx : ∀ i u, (#[.slice ca len cc, .int .i64 (tn : Int), .int .i64 th, .int .i64 el, .slice sa len sc] : Array Value)[i]? = some u → wr.cell? ⟨W.heap.size, i, none⟩ = some u := fun i u hu => (World.cell?_of_block (w := wc) (HP.out.1 W.heap.size hwl (Ne.symm hne) hvW.out)).trans (HX.out i u hu)
      have b0 := hbx 0 _ rfl
      have b1 := hbx 1 _ rfl
      have b2 := hbx 2 _ rfl
      have b3 := hbx 3 _ rfl
      have b4 := hbx 4 _ rfl
      clear hbx
      obtain ⟨y, Y0, HY⟩ : ∃ y : Int, wr.cell? ⟨g, tn, none⟩ = some (.int .i64 y) ∧ Hid ((runW zs s.ws len).getD tn 0 = y) := ⟨_, HF.out.run.word tn ht, by rw [HE.out]; rfl⟩
      obtain ⟨n, HN⟩ : ∃ n : Int, Hid ((if y = 0 then el else th) = n) := ⟨_, rfl⟩
      have G10 := HF.out.c10
      have GF := HF.out.f10
      have hzz := HZ.out
      go_upto_region 7 with fail
      go_region_held3 (fun w' => (w'.cell? ⟨W.heap.size, 0, none⟩ = some (.slice ca len cc) ∧ w'.cell? ⟨W.heap.size, 1, none⟩ = some (.int .i64 (tn : Int)) ∧ w'.cell? ⟨W.heap.size, 2, none⟩ = some (.int .i64 th) ∧ w'.cell? ⟨W.heap.size, 3, none⟩ = some (.int .i64 el) ∧ w'.cell? ⟨W.heap.size, 4, none⟩ = some (.slice sa len sc)) ∧ w'.cell? ⟨g, tn, none⟩ = some (.int .i64 y))
        (first | assumption | exact flowbox_kept hb' (show W.heap.size < wr.heap.size by omega) hgr ⟨⟨b0, b1, b2, b3, b4⟩, Y0⟩ | exact flowbox_set hne ht (flowbox_kept hb' (show W.heap.size < wr.heap.size by omega) hgr ⟨⟨b0, b1, b2, b3, b4⟩, Y0⟩) | go_keep)
        (first | (go_at_call 74; refine (impl_nextBy _ _ _ _ _ _ _ _ _ _).mono ?_; rw [HN.out]; rintro e w' ⟨rfl, hb'⟩; have C10 := (hb'.cell (p := ⟨g, 10, none⟩) hgr).trans G10; have CF := (hb'.frozen (p := ⟨g, 10, none⟩) hgr).trans GF))
      have hq := HF.out.goOn ((Below.refl _ wr).drew.trans hb') n
      refine bodyPost_end (v := .tuple #[]) (by simp [results, Try.results66, go_sem]) rfl ⟨rfl, vt', vp1, ?_, HK.out.trans hq.2⟩
      rw [HY.out, HN.out, ← HE.out]
      exact hq.1
end Go.Proofs.Ytgknofbkdgbokaa.walks
