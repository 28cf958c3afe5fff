/-
  The specification's l13Own: a frame in lists of its own.
-/
import Derived.Test.YtdacpbhdemkacaaProg
import Derived.Test.YtdacpbhdemkacaaMagMath
import Derived.Test.YtdacpbhdemkacaaFrameMath
import Derived.Test.YtdacpbhdemkacaaRunFrame
import Derived.Test.YtdacpbhdemkacaaFrameRun
import Derived.Test.YtdacpbhdemkacaaCloneOwn
import Derived.Test.YtdacpbhdemkacaaInts
import Derived.Test.YtdacpbhdemkacaaOwnInts
import Derived.Test.YtdacpbhdemkacaaOwnMath
import Derived.Test.YtdacpbhdemkacaaDeep
import Derived.Test.YtdacpbhdemkacaaDeepRow
import Derived.WalkKit
import Derived.WalkSpells
import Derived.Below
import Derived.Handy
import Derived.Deep.DeepFit
import Derived.Deep.OwnRows
import Derived.Deep.RegionHeld3
import Derived.Laws.OwnMore
namespace Go.Proofs.Ytdacpbhdemkacaa.walks
open Go.RowKit Go.Proofs.Ytdacpbhdemkacaa.math Go.Proofs.Ytdacpbhdemkacaa.ints Go.Proofs.Ytdacpbhdemkacaa.deep
set_option linter.unusedVariables false
set_option linter.unusedSimpArgs false
set_option maxRecDepth 100000

/-- An empty list that was just made. -/
def Bare (w : World) (g : Nat) : Prop := w.heap[g]? = some (.cells #[] 3)
theorem Bare.lt {w : World} {g : Nat} (h : Bare w g) : g < w.heap.size := by
  unfold Bare at h
  exact (Array.getElem?_eq_some_iff.1 h).1
theorem bare_new (w : World) : Bare (w.alloc (.cells #[] 3)) w.heap.size := by
  show (w.heap.push _)[w.heap.size]? = _
  exact Array.getElem?_push_size
theorem bare_owns {w : World} {B g : Nat} (h : Bare w g) (hB : B ≤ g) : w.ownsRow B 3 1 (.slice (some ⟨g, 0, none⟩) 0 0) 0 [] :=
  ⟨rfl, Or.inr ⟨g, 0, #[], rfl, hB, h, Nat.le_refl _, Nat.zero_le _, rfl, rfl⟩⟩
/-- What a copy into an empty list leaves: all but that list's block. -/
structure Cop (X w w' : World) (g : Nat) (v : Value) : Prop where
  at_ : v.ownBlock = some g ∨ v.ownBlock = some w.heap.size
  size : w.heap.size ≤ w'.heap.size
  block : ∀ k, k < w.heap.size → k ≠ g → w'.heap[k]? = w.heap[k]?
  bel : Below X.heap.size X w'
theorem Cop.bare {X w w' : World} {g k : Nat} {v : Value} (h : Cop X w w' g v) (hb : Bare w k) (hk : k ≠ g) : Bare w' k := (h.block k hb.lt hk).trans hb
theorem Cop.own {X w w' : World} {g B : Nat} {v u : Value} {zs : List Int} (h : Cop X w w' g v) (ho : Own w B u zs) (hk : ∀ y, u.ownBlock = some y → y ≠ g) : Own w' B u zs := by
  rcases ho.2 with ⟨rfl, hn⟩ | ⟨g', cap, cur, rfl, hg, hw, r⟩
  · exact ⟨ho.1, Or.inl ⟨rfl, hn⟩⟩
  · exact ⟨ho.1, Or.inr ⟨g', cap, cur, rfl, hg, (h.block g' (World.ownsRow.lt ho g' rfl).2 (hk g' rfl)).trans hw, r⟩⟩
theorem Cop.cell {X w w' : World} {g b : Nat} {v : Value} (h : Cop X w w' g v) (hX : Below X.heap.size X w) : Below X.heap.size X w' := h.bel
theorem cell_box3 {w : World} {b g i : Nat} {u : Value} (hn : b ≠ g) (h : w.cell? ⟨b, i, none⟩ = some u) (x y z : Value) : (((w.setCell ⟨g, 0, none⟩ x).setCell ⟨g, 1, none⟩ y).setCell ⟨g, 2, none⟩ z).cell? ⟨b, i, none⟩ = some u := by
  rw [World.cell?_setCell_other _ _ _ _ (by simp <;> omega), World.cell?_setCell_other _ _ _ _ (by simp <;> omega), World.cell?_setCell_other _ _ _ _ (by simp <;> omega)]; exact h
theorem step_copy0 (X w : World) {ops : Array Oper} {o : Oper} {a : Act} {K : Act → World → Prop} {Q : Exit → Act → World → Prop} {E : Prop} (hgd : o.guard = none) (s x : Operand) 
    (ho : o.op = .call { callee := .builtin .append, args := #[s, x], argTypes := #[29, 29] }) (g : Nat) (hs : a.eval s = .slice (some ⟨g, 0, none⟩) 0 0) (hb : Bare w g) (hg : X.heap.size ≤ g) (hX : Below X.heap.size X w)
    (av : Option Addr) (L c : Nat) (hx : a.eval x = .slice av L c) (zs : List Int) (HL : zs.length = L) (hL : L ≤ 1048576) (hI : Ints X av zs)
    (h : ∀ v' w', Own w' X.heap.size v' zs → Cop X w w' g v' → K (a.put o.dst v') w') :
    if Region.wanted o (yielded ops a.tmps) = true then Oper.wp Try.prog o a w K Q else E := by
  obtain ⟨i0, hi, hz0, hz1, hz2⟩ := parts_of (P := Try.prog) (e := 3) (z := .int .i64 0) (a := 1) (b := 8) (by kernel_rfl)
  have hw : Region.wanted o (yielded ops a.tmps) = true := by simp [Region.wanted, hgd]
  cases av with
  | none =>
    have e0 : zs = [] := by
      rcases hI with q | ⟨b, off, e, _⟩
      · exact q
      · cases e
    subst e0
    have hL0 : L = 0 := HL.symm
    subst hL0
    rw [if_pos hw]
    have hr : (Builtin.append_ #[29, 29] o.type #[.slice (some ⟨g, 0, none⟩) 0 0, .slice none 0 c]).run Try.prog w = .ok (.slice (some ⟨g, 0, none⟩) 0 0) w := by
      simp [Builtin.append_, run_underlying Try.underlying29, sizeOf, typeInfo, hi, hz1, Builtin.lenOf, Builtin.firstCells, storeCells]
    unfold Oper.wp execOp
    simp only [ho, resolve, invoke, builtin, Sem.run_bind, Sem.run_pure, Result.andThen_ok, List.map_toArray, List.map_cons, List.map_nil, hs, hx, hr]
    exact h _ _ (bare_owns hb hg) ⟨Or.inl rfl, Nat.le_refl _, fun _ _ _ => rfl, hX⟩
  | some ad =>
    have hn : ∀ j u, (zs.map (Value.int .i64))[j]? = some u → w.cell? (ad.add j) = some u := fun j u hj => by
      have q := ints_news hI j u hj
      exact (hX.cell (p := ad.add j) (by unfold Addr.add; split <;> exact q.2)).trans q.1
    refine step_append_at w hgd s x 29 ho X.heap.size 3 i0 (.int .i64 0) 1 8 Try.underlying29 hi hz0 hz1 hz2 rfl (by decide) _ 0 [] hs (bare_owns hb hg) ad L c (zs.map (Value.int .i64)) hx (by simpa using HL) hn (one_cells zs) (by unfold maxLen; omega) (by omega) hX.size ?_
    intro v' w' h1 h2 _ h4
    rw [Nat.zero_add, List.nil_append, ← HL] at h1
    exact h v' w' h1 ⟨h4, h2.size, fun k hk hne => h2.block k hk (by simp [Value.ownBlock]; omega), hX.trans ⟨h2.os, h2.tape, h2.output, h2.size, fun k hk => h2.block k (Nat.lt_of_lt_of_le hk hX.size) (by simp [Value.ownBlock]; omega)⟩⟩

set_option maxHeartbeats 16000000 in
theorem spec_own13 (a0 : Option Addr) (l0 c0 : Nat) (a1 : Option Addr) (l1 c1 : Nat) (a2 : Option Addr) (l2 c2 : Nat) (ls ss ts : List Int) (W : World) (H0 : Hid (ls.length = l0)) (H1 : Hid (ss.length = l1)) (H2 : Hid (ts.length = l2)) (x0 : l0 ≤ 1048576) (x1 : l1 ≤ 1048576) (x2 : l2 ≤ 1048576) (I0 : Hid (Ints W a0 ls)) (I1 : Hid (Ints W a1 ss)) (I2 : Hid (Ints W a2 ts)) :
    Calls Try.prog 40 #[.agg #[.slice a0 l0 c0, .slice a1 l1 c1, .slice a2 l2 c2]] W fun e W' => ∃ vl vs vt, e = .returned (.agg #[vl, vs, vt]) ∧ Own W' W.heap.size vl ls ∧ Own W' W.heap.size vs ss ∧ Own W' W.heap.size vt ts ∧ (∀ x, vl.ownBlock = some x → vs.ownBlock ≠ some x) ∧ (∀ x, vl.ownBlock = some x → vt.ownBlock ≠ some x) ∧ (∀ x, vs.ownBlock = some x → vt.ownBlock ≠ some x) ∧ Below W.heap.size W W' := by
  obtain ⟨X, hX⟩ : ∃ X, Hid ((W.alloc (.cells #[.slice a0 l0 c0, .slice a1 l1 c1, .slice a2 l2 c2] 39)).alloc (.cells #[.slice none 0 0, .slice none 0 0, .slice none 0 0] 39) = X) := ⟨_, rfl⟩
  have HX : Hid (Below W.heap.size W X) := by show Below _ _ _; rw [← hX.out]; go_grown
  have HP : Hid (X.rowIs W.heap.size 39 3 (rowF [.slice a0 l0 c0, .slice a1 l1 c1, .slice a2 l2 c2])) := by show World.rowIs _ _ _ _ _; rw [← hX.out]; exact (row_of W #[.slice a0 l0 c0, .slice a1 l1 c1, .slice a2 l2 c2] 39).alloc _
  have HZ : Hid (X.rowIs (W.heap.size + 1) 39 3 (rowF [.slice none 0 0, .slice none 0 0, .slice none 0 0])) := by
    have q := row_of (W.alloc (.cells #[.slice a0 l0 c0, .slice a1 l1 c1, .slice a2 l2 c2] 39)) #[.slice none 0 0, .slice none 0 0, .slice none 0 0] 39
    rw [show (W.alloc (.cells #[.slice a0 l0 c0, .slice a1 l1 c1, .slice a2 l2 c2] 39)).heap.size = W.heap.size + 1 by simp] at q
    show World.rowIs _ _ _ _ _
    rw [← hX.out]; exact q
  have J0 : Hid (Ints X a0 ls) := I0.out.kept HX.out
  have J1 : Hid (Ints X a1 ss) := I1.out.kept HX.out
  have J2 : Hid (Ints X a2 ts) := I2.out.kept HX.out
  have RR : Hid (∀ w, Below X.heap.size X w → w.cell? ⟨W.heap.size, 0, none⟩ = some (.slice a0 l0 c0) ∧ w.cell? ⟨W.heap.size, 1, none⟩ = some (.slice a1 l1 c1) ∧ w.cell? ⟨W.heap.size, 2, none⟩ = some (.slice a2 l2 c2)) := fun w q => ⟨(HP.out.of_block (q.block _ HP.out.lt)).cell (i := 0) (by decide), (HP.out.of_block (q.block _ HP.out.lt)).cell (i := 1) (by decide), (HP.out.of_block (q.block _ HP.out.lt)).cell (i := 2) (by decide)⟩
  have HW1 : Hid (W.heap.size + 1 < X.heap.size) := HZ.out.lt
  have HFIN : Hid (∀ w vl vs vt, Below X.heap.size X w → Own w X.heap.size vl ls → Own w X.heap.size vs ss → Own w X.heap.size vt ts → (∀ x, vl.ownBlock = some x → vs.ownBlock ≠ some x) → (∀ x, vl.ownBlock = some x → vt.ownBlock ≠ some x) → (∀ x, vs.ownBlock = some x → vt.ownBlock ≠ some x) → ∃ vl' vs' vt', Ending.returned (.agg #[vl, vs, vt]) = .returned (.agg #[vl', vs', vt']) ∧ Own (((w.setCell ⟨W.heap.size + 1, 0, none⟩ vl).setCell ⟨W.heap.size + 1, 1, none⟩ vs).setCell ⟨W.heap.size + 1, 2, none⟩ vt) W.heap.size vl' ls ∧ Own (((w.setCell ⟨W.heap.size + 1, 0, none⟩ vl).setCell ⟨W.heap.size + 1, 1, none⟩ vs).setCell ⟨W.heap.size + 1, 2, none⟩ vt) W.heap.size vs' ss ∧ Own (((w.setCell ⟨W.heap.size + 1, 0, none⟩ vl).setCell ⟨W.heap.size + 1, 1, none⟩ vs).setCell ⟨W.heap.size + 1, 2, none⟩ vt) W.heap.size vt' ts ∧ (∀ x, vl'.ownBlock = some x → vs'.ownBlock ≠ some x) ∧ (∀ x, vl'.ownBlock = some x → vt'.ownBlock ≠ some x) ∧ (∀ x, vs'.ownBlock = some x → vt'.ownBlock ≠ some x) ∧ Below W.heap.size W (((w.setCell ⟨W.heap.size + 1, 0, none⟩ vl).setCell ⟨W.heap.size + 1, 1, none⟩ vs).setCell ⟨W.heap.size + 1, 2, none⟩ vt)) := fun w vl vs vt hB o1 o2 o3 d1 d2 d3 => by
    have KZ := HZ.out.of_block (hB.block _ HZ.out.lt)
    exact ⟨vl, vs, vt, rfl, own_box3 (own_mono o1 HX.out.size) KZ _ _ _, own_box3 (own_mono o2 HX.out.size) KZ _ _ _, own_box3 (own_mono o3 HX.out.size) KZ _ _ _, d1, d2, d3, below_box3 (HX.out.trans (hB.mono HX.out.size)) (by omega) _ _ _⟩
  have HKZ : Hid (∀ w, Below X.heap.size X w → (w.rowIs (W.heap.size + 1) 39 3 (rowF [.slice none 0 0, .slice none 0 0, .slice none 0 0]))) := fun w hB => HZ.out.of_block (hB.block _ HZ.out.lt)
  clear I0 I1 I2
  go_enter Try.func40, Try.ntmps40
  go_wp2_with fail
  rw [hX.out]
  clear hX
  refine wp_region_noPanic ?_
  refine wp_region_held_drew (S := fun w' => (w'.cell? ⟨W.heap.size, 0, none⟩ = some (.slice a0 l0 c0) ∧ w'.cell? ⟨W.heap.size, 1, none⟩ = some (.slice a1 l1 c1) ∧ w'.cell? ⟨W.heap.size, 2, none⟩ = some (.slice a2 l2 c2))) (by kernel_rfl) ?_ (fun hHeld => ?_)
  · exact RR.out _ (Below.refl _ _).drew
  obtain ⟨y0, ey⟩ : ∃ q, q = X.drew := ⟨_, rfl⟩
  rw [← ey] at hHeld ⊢
  have BX : Hid (Below X.heap.size X y0) := by show Below _ _ _; rw [ey]; exact (Below.refl _ _).drew
  clear ey
  refine wpAnyH_take (i := 1) (v := ?v1) rfl (by kernel_rfl) (by kernel_rfl) (by kernel_rfl) (fun _ _ _ h => h) (Or.inl ⟨by rfl, ?hy1⟩) (by assumption) ?_
  case hy1 => (intro w hSw; (try dsimp only at hSw); go_simp; try with_reducible rfl)
  try simp only [Act.put, List.setIfInBounds_toArray, List.set_cons_zero, List.set_cons_succ]
  refine wpAnyH_take (i := 2) (v := ?v2) rfl (by kernel_rfl) (by kernel_rfl) (by kernel_rfl) (fun _ _ _ h => h) (Or.inl ⟨by rfl, ?hy2⟩) (by assumption) ?_
  case hy2 => (intro w hSw; (try dsimp only at hSw); go_simp; try with_reducible rfl)
  try simp only [Act.put, List.setIfInBounds_toArray, List.set_cons_zero, List.set_cons_succ]
  refine wpAnyH_take (i := 5) (v := ?v3) rfl (by kernel_rfl) (by kernel_rfl) (by kernel_rfl) (fun _ _ _ h => h) (Or.inl ⟨by rfl, ?hy3⟩) (by assumption) ?_
  case hy3 => (intro w hSw; (try dsimp only at hSw); go_simp; try with_reducible rfl)
  try simp only [Act.put, List.setIfInBounds_toArray, List.set_cons_zero, List.set_cons_succ]
  refine wpAnyH_take (i := 6) (v := ?v4) rfl (by kernel_rfl) (by kernel_rfl) (by kernel_rfl) (fun _ _ _ h => h) (Or.inl ⟨by rfl, ?hy4⟩) (by assumption) ?_
  case hy4 => (intro w hSw; (try dsimp only at hSw); go_simp; try with_reducible rfl)
  try simp only [Act.put, List.setIfInBounds_toArray, List.set_cons_zero, List.set_cons_succ]
  refine wpAnyH_take (i := 9) (v := ?v5) rfl (by kernel_rfl) (by kernel_rfl) (by kernel_rfl) (fun _ _ _ h => h) (Or.inl ⟨by rfl, ?hy5⟩) (by assumption) ?_
  case hy5 => (intro w hSw; (try dsimp only at hSw); go_simp; try with_reducible rfl)
  try simp only [Act.put, List.setIfInBounds_toArray, List.set_cons_zero, List.set_cons_succ]
  refine wpAnyH_take (i := 10) (v := ?v6) rfl (by kernel_rfl) (by kernel_rfl) (by kernel_rfl) (fun _ _ _ h => h) (Or.inl ⟨by rfl, ?hy6⟩) (by assumption) ?_
  case hy6 => (intro w hSw; (try dsimp only at hSw); go_simp; try with_reducible rfl)
  try simp only [Act.put, List.setIfInBounds_toArray, List.set_cons_zero, List.set_cons_succ]
  refine wpAnyH_ready (rs := [0, 4, 8]) (by kernel_rfl) (by simp) ?_
  refine AllReadyH.cons rfl (fun K hK => ?_) ?_
  · go_simp
    obtain ⟨y1, ey⟩ : ∃ q, q = y0.alloc (.cells #[] 3) := ⟨_, rfl⟩
    rw [← ey]
    have hB : Below y0.heap.size y0 y1 := by rw [ey]; exact (Below.refl _ _).alloc (Nat.le_refl _) _
    have PB0 : Hid (Bare y1 y0.heap.size) := by show Bare _ _; rw [ey]; exact bare_new _
    have GE0 : Hid (X.heap.size ≤ y0.heap.size) := BX.out.size
    have BX : Hid (Below X.heap.size X y1) := BX.out.trans (hB.mono BX.out.size)
    clear ey hB
    refine hK.out _ _ ?_ (fun hHeld => ?_)
    · exact RR.out _ BX.out
    clear hK K
    try simp only [Act.put, List.setIfInBounds_toArray, List.set_cons_zero, List.set_cons_succ]
    refine wpAnyH_ready (rs := [3, 4, 8]) (by kernel_rfl) (by simp) ?_
    refine AllReadyH.cons rfl (fun K hK => ?_) ?_
    · refine step_copy0 X y1 rfl _ _ rfl (y0.heap.size) rfl PB0.out GE0.out BX.out a0 l0 c0 rfl ls H0.out x0 J0.out ?_
      intro v0 y2 hown hC
      obtain ⟨pa0, pk0, ee0, _⟩ := hown.mine
      subst ee0
      have OW0 : Hid (Own y2 X.heap.size (Value.slice pa0 ls.length pk0) ls) := hown
      have BX : Hid (Below X.heap.size X y2) := hC.bel
      clear hown hC
      refine hK.out _ _ ?_ (fun hHeld => ?_)
      · exact RR.out _ BX.out
      clear hK K
      try simp only [Act.put, List.setIfInBounds_toArray, List.set_cons_zero, List.set_cons_succ]
      refine wpAnyH_ready (rs := [4, 8]) (by kernel_rfl) (by simp) ?_
      refine AllReadyH.cons rfl (fun K hK => ?_) ?_
      · go_simp
        obtain ⟨y3, ey⟩ : ∃ q, q = y2.alloc (.cells #[] 3) := ⟨_, rfl⟩
        rw [← ey]
        have hB : Below y2.heap.size y2 y3 := by rw [ey]; exact (Below.refl _ _).alloc (Nat.le_refl _) _
        have PB1 : Hid (Bare y3 y2.heap.size) := by show Bare _ _; rw [ey]; exact bare_new _
        have GE1 : Hid (X.heap.size ≤ y2.heap.size) := BX.out.size
        have DN0_1 : Hid (∀ q, (Value.slice pa0 ls.length pk0).ownBlock = some q → q ≠ y2.heap.size) := fun q e => Nat.ne_of_lt (World.ownsRow.lt OW0.out q e).2
        have OW0 : Hid (Own y3 X.heap.size (Value.slice pa0 ls.length pk0) ls) := row_below OW0.out hB
        have BX : Hid (Below X.heap.size X y3) := BX.out.trans (hB.mono BX.out.size)
        clear ey hB
        refine hK.out _ _ ?_ (fun hHeld => ?_)
        · exact RR.out _ BX.out
        clear hK K
        try simp only [Act.put, List.setIfInBounds_toArray, List.set_cons_zero, List.set_cons_succ]
        refine wpAnyH_ready (rs := [7, 8]) (by kernel_rfl) (by simp) ?_
        refine AllReadyH.cons rfl (fun K hK => ?_) ?_
        · refine step_copy0 X y3 rfl _ _ rfl (y2.heap.size) rfl PB1.out GE1.out BX.out a1 l1 c1 rfl ss H1.out x1 J1.out ?_
          intro v1 y4 hown hC
          obtain ⟨pa1, pk1, ee1, _⟩ := hown.mine
          subst ee1
          have OW1 : Hid (Own y4 X.heap.size (Value.slice pa1 ss.length pk1) ss) := hown
          have DD0_1 : Hid (∀ q, (Value.slice pa0 ls.length pk0).ownBlock = some q → (Value.slice pa1 ss.length pk1).ownBlock ≠ some q) := fun q e r => by
            rcases hC.at_ with s | s
            · rw [s] at r; exact DN0_1.out q e (Option.some.inj r).symm
            · rw [s] at r; have := (World.ownsRow.lt OW0.out q e).2; have := Option.some.inj r; omega
          have OW0 : Hid (Own y4 X.heap.size (Value.slice pa0 ls.length pk0) ls) := hC.own OW0.out DN0_1.out
          have BX : Hid (Below X.heap.size X y4) := hC.bel
          clear hown hC
          refine hK.out _ _ ?_ (fun hHeld => ?_)
          · exact RR.out _ BX.out
          clear hK K
          try simp only [Act.put, List.setIfInBounds_toArray, List.set_cons_zero, List.set_cons_succ]
          refine wpAnyH_ready (rs := [8]) (by kernel_rfl) (by simp) ?_
          refine AllReadyH.cons rfl (fun K hK => ?_) AllReadyH.nil
          go_simp
          obtain ⟨y5, ey⟩ : ∃ q, q = y4.alloc (.cells #[] 3) := ⟨_, rfl⟩
          rw [← ey]
          have hB : Below y4.heap.size y4 y5 := by rw [ey]; exact (Below.refl _ _).alloc (Nat.le_refl _) _
          have PB2 : Hid (Bare y5 y4.heap.size) := by show Bare _ _; rw [ey]; exact bare_new _
          have GE2 : Hid (X.heap.size ≤ y4.heap.size) := BX.out.size
          have DN0_2 : Hid (∀ q, (Value.slice pa0 ls.length pk0).ownBlock = some q → q ≠ y4.heap.size) := fun q e => Nat.ne_of_lt (World.ownsRow.lt OW0.out q e).2
          have OW0 : Hid (Own y5 X.heap.size (Value.slice pa0 ls.length pk0) ls) := row_below OW0.out hB
          have DN1_2 : Hid (∀ q, (Value.slice pa1 ss.length pk1).ownBlock = some q → q ≠ y4.heap.size) := fun q e => Nat.ne_of_lt (World.ownsRow.lt OW1.out q e).2
          have OW1 : Hid (Own y5 X.heap.size (Value.slice pa1 ss.length pk1) ss) := row_below OW1.out hB
          have BX : Hid (Below X.heap.size X y5) := BX.out.trans (hB.mono BX.out.size)
          clear ey hB
          refine hK.out _ _ ?_ (fun hHeld => ?_)
          · exact RR.out _ BX.out
          clear hK K
          try simp only [Act.put, List.setIfInBounds_toArray, List.set_cons_zero, List.set_cons_succ]
          refine wpAnyH_ready (rs := [11]) (by kernel_rfl) (by simp) ?_
          refine AllReadyH.cons rfl (fun K hK => ?_) AllReadyH.nil
          refine step_copy0 X y5 rfl _ _ rfl (y4.heap.size) rfl PB2.out GE2.out BX.out a2 l2 c2 rfl ts H2.out x2 J2.out ?_
          intro v2 y6 hown hC
          obtain ⟨pa2, pk2, ee2, _⟩ := hown.mine
          subst ee2
          have OW2 : Hid (Own y6 X.heap.size (Value.slice pa2 ts.length pk2) ts) := hown
          have DD0_2 : Hid (∀ q, (Value.slice pa0 ls.length pk0).ownBlock = some q → (Value.slice pa2 ts.length pk2).ownBlock ≠ some q) := fun q e r => by
            rcases hC.at_ with s | s
            · rw [s] at r; exact DN0_2.out q e (Option.some.inj r).symm
            · rw [s] at r; have := (World.ownsRow.lt OW0.out q e).2; have := Option.some.inj r; omega
          have OW0 : Hid (Own y6 X.heap.size (Value.slice pa0 ls.length pk0) ls) := hC.own OW0.out DN0_2.out
          have DD1_2 : Hid (∀ q, (Value.slice pa1 ss.length pk1).ownBlock = some q → (Value.slice pa2 ts.length pk2).ownBlock ≠ some q) := fun q e r => by
            rcases hC.at_ with s | s
            · rw [s] at r; exact DN1_2.out q e (Option.some.inj r).symm
            · rw [s] at r; have := (World.ownsRow.lt OW1.out q e).2; have := Option.some.inj r; omega
          have OW1 : Hid (Own y6 X.heap.size (Value.slice pa1 ss.length pk1) ss) := hC.own OW1.out DN1_2.out
          have BX : Hid (Below X.heap.size X y6) := hC.bel
          clear hown hC
          refine hK.out _ _ ?_ (fun hHeld => ?_)
          · exact RR.out _ BX.out
          clear hK K
          try simp only [Act.put, List.setIfInBounds_toArray, List.set_cons_zero, List.set_cons_succ]
          refine wpAnyH_take (i := 12) (v := ?v7) rfl (by kernel_rfl) (by kernel_rfl) (by kernel_rfl) (fun _ _ _ h => h) (Or.inl ⟨by rfl, ?hy7⟩) (by assumption) ?_
          case hy7 => (intro w hSw; (try dsimp only at hSw); go_simp; try with_reducible rfl)
          try simp only [Act.put, List.setIfInBounds_toArray, List.set_cons_zero, List.set_cons_succ]
          have KZ := HKZ.out y6 BX.out
          have z0 : y6.cell? ⟨W.heap.size + 1, 0, none⟩ = some (.slice none 0 0) := KZ.cell (i := 0) (by decide)
          have fz0 : y6.frozen? ⟨W.heap.size + 1, 0, none⟩ = false := KZ.frozen 0
          have z1 : y6.cell? ⟨W.heap.size + 1, 1, none⟩ = some (.slice none 0 0) := KZ.cell (i := 1) (by decide)
          have fz1 : y6.frozen? ⟨W.heap.size + 1, 1, none⟩ = false := KZ.frozen 1
          have z2 : y6.cell? ⟨W.heap.size + 1, 2, none⟩ = some (.slice none 0 0) := KZ.cell (i := 2) (by decide)
          have fz2 : y6.frozen? ⟨W.heap.size + 1, 2, none⟩ = false := KZ.frozen 2
          have lz : W.heap.size + 1 < y6.heap.size := KZ.lt
          refine wpAnyH_ready (rs := [13]) (by kernel_rfl) (by simp) ?_
          refine AllReadyH.cons rfl (fun K hK => ?_) AllReadyH.nil
          go_simp
          refine hK.out _ _ ?_ (fun hHeld => ?_)
          · exact ⟨cell_box3 (by omega) (RR.out y6 BX.out).1 _ _ _, cell_box3 (by omega) (RR.out y6 BX.out).2.1 _ _ _, cell_box3 (by omega) (RR.out y6 BX.out).2.2 _ _ _⟩
          clear hK K
          refine wpAnyH_done (by kernel_rfl) ?_ _
          refine NoPanic.normal ?_
          go_wp2
          refine bodyPost_ret (v := .agg #[(Value.slice pa0 ls.length pk0), (Value.slice pa1 ss.length pk1), (Value.slice pa2 ts.length pk2)]) (by simp only [results, Try.results40]; go_simp) rfl (HFIN.out y6 _ _ _ BX.out OW0.out OW1.out OW2.out DD0_1.out DD0_2.out DD1_2.out)
        refine AllReadyH.cons rfl (fun K hK => ?_) AllReadyH.nil
        go_simp
        obtain ⟨y7, ey⟩ : ∃ q, q = y3.alloc (.cells #[] 3) := ⟨_, rfl⟩
        rw [← ey]
        have hB : Below y3.heap.size y3 y7 := by rw [ey]; exact (Below.refl _ _).alloc (Nat.le_refl _) _
        have PB2 : Hid (Bare y7 y3.heap.size) := by show Bare _ _; rw [ey]; exact bare_new _
        have GE2 : Hid (X.heap.size ≤ y3.heap.size) := BX.out.size
        have ne1_2 : Hid (y2.heap.size ≠ y3.heap.size) := Nat.ne_of_lt PB1.out.lt
        have PB1 : Hid (Bare y7 y2.heap.size) := (hB.block _ PB1.out.lt).trans PB1.out
        have DN0_2 : Hid (∀ q, (Value.slice pa0 ls.length pk0).ownBlock = some q → q ≠ y3.heap.size) := fun q e => Nat.ne_of_lt (World.ownsRow.lt OW0.out q e).2
        have OW0 : Hid (Own y7 X.heap.size (Value.slice pa0 ls.length pk0) ls) := row_below OW0.out hB
        have BX : Hid (Below X.heap.size X y7) := BX.out.trans (hB.mono BX.out.size)
        clear ey hB
        refine hK.out _ _ ?_ (fun hHeld => ?_)
        · exact RR.out _ BX.out
        clear hK K
        try simp only [Act.put, List.setIfInBounds_toArray, List.set_cons_zero, List.set_cons_succ]
        refine wpAnyH_ready (rs := [7]) (by kernel_rfl) (by simp) ?_
        refine AllReadyH.cons rfl (fun K hK => ?_) AllReadyH.nil
        refine step_copy0 X y7 rfl _ _ rfl (y2.heap.size) rfl PB1.out GE1.out BX.out a1 l1 c1 rfl ss H1.out x1 J1.out ?_
        intro v1 y8 hown hC
        obtain ⟨pa1, pk1, ee1, _⟩ := hown.mine
        subst ee1
        have OW1 : Hid (Own y8 X.heap.size (Value.slice pa1 ss.length pk1) ss) := hown
        have DN1_2 : Hid (∀ q, (Value.slice pa1 ss.length pk1).ownBlock = some q → q ≠ y3.heap.size) := fun q e r => by
          rcases hC.at_ with s | s
          · rw [s] at e; exact (Ne.symm ne1_2.out) ((Option.some.inj e).trans r).symm
          · rw [s] at e; have := PB2.out.lt; have := Option.some.inj e; omega
        have PB2 : Hid (Bare y8 (y3.heap.size)) := hC.bare PB2.out (Ne.symm ne1_2.out)
        have DD0_1 : Hid (∀ q, (Value.slice pa0 ls.length pk0).ownBlock = some q → (Value.slice pa1 ss.length pk1).ownBlock ≠ some q) := fun q e r => by
          rcases hC.at_ with s | s
          · rw [s] at r; exact DN0_1.out q e (Option.some.inj r).symm
          · rw [s] at r; have := (World.ownsRow.lt OW0.out q e).2; have := Option.some.inj r; omega
        have OW0 : Hid (Own y8 X.heap.size (Value.slice pa0 ls.length pk0) ls) := hC.own OW0.out DN0_1.out
        have BX : Hid (Below X.heap.size X y8) := hC.bel
        clear hown hC
        refine hK.out _ _ ?_ (fun hHeld => ?_)
        · exact RR.out _ BX.out
        clear hK K
        try simp only [Act.put, List.setIfInBounds_toArray, List.set_cons_zero, List.set_cons_succ]
        refine wpAnyH_ready (rs := [11]) (by kernel_rfl) (by simp) ?_
        refine AllReadyH.cons rfl (fun K hK => ?_) AllReadyH.nil
        refine step_copy0 X y8 rfl _ _ rfl (y3.heap.size) rfl PB2.out GE2.out BX.out a2 l2 c2 rfl ts H2.out x2 J2.out ?_
        intro v2 y9 hown hC
        obtain ⟨pa2, pk2, ee2, _⟩ := hown.mine
        subst ee2
        have OW2 : Hid (Own y9 X.heap.size (Value.slice pa2 ts.length pk2) ts) := hown
        have DD0_2 : Hid (∀ q, (Value.slice pa0 ls.length pk0).ownBlock = some q → (Value.slice pa2 ts.length pk2).ownBlock ≠ some q) := fun q e r => by
          rcases hC.at_ with s | s
          · rw [s] at r; exact DN0_2.out q e (Option.some.inj r).symm
          · rw [s] at r; have := (World.ownsRow.lt OW0.out q e).2; have := Option.some.inj r; omega
        have OW0 : Hid (Own y9 X.heap.size (Value.slice pa0 ls.length pk0) ls) := hC.own OW0.out DN0_2.out
        have DD1_2 : Hid (∀ q, (Value.slice pa1 ss.length pk1).ownBlock = some q → (Value.slice pa2 ts.length pk2).ownBlock ≠ some q) := fun q e r => by
          rcases hC.at_ with s | s
          · rw [s] at r; exact DN1_2.out q e (Option.some.inj r).symm
          · rw [s] at r; have := (World.ownsRow.lt OW1.out q e).2; have := Option.some.inj r; omega
        have OW1 : Hid (Own y9 X.heap.size (Value.slice pa1 ss.length pk1) ss) := hC.own OW1.out DN1_2.out
        have BX : Hid (Below X.heap.size X y9) := hC.bel
        clear hown hC
        refine hK.out _ _ ?_ (fun hHeld => ?_)
        · exact RR.out _ BX.out
        clear hK K
        try simp only [Act.put, List.setIfInBounds_toArray, List.set_cons_zero, List.set_cons_succ]
        refine wpAnyH_take (i := 12) (v := ?v8) rfl (by kernel_rfl) (by kernel_rfl) (by kernel_rfl) (fun _ _ _ h => h) (Or.inl ⟨by rfl, ?hy8⟩) (by assumption) ?_
        case hy8 => (intro w hSw; (try dsimp only at hSw); go_simp; try with_reducible rfl)
        try simp only [Act.put, List.setIfInBounds_toArray, List.set_cons_zero, List.set_cons_succ]
        have KZ := HKZ.out y9 BX.out
        have z0 : y9.cell? ⟨W.heap.size + 1, 0, none⟩ = some (.slice none 0 0) := KZ.cell (i := 0) (by decide)
        have fz0 : y9.frozen? ⟨W.heap.size + 1, 0, none⟩ = false := KZ.frozen 0
        have z1 : y9.cell? ⟨W.heap.size + 1, 1, none⟩ = some (.slice none 0 0) := KZ.cell (i := 1) (by decide)
        have fz1 : y9.frozen? ⟨W.heap.size + 1, 1, none⟩ = false := KZ.frozen 1
        have z2 : y9.cell? ⟨W.heap.size + 1, 2, none⟩ = some (.slice none 0 0) := KZ.cell (i := 2) (by decide)
        have fz2 : y9.frozen? ⟨W.heap.size + 1, 2, none⟩ = false := KZ.frozen 2
        have lz : W.heap.size + 1 < y9.heap.size := KZ.lt
        refine wpAnyH_ready (rs := [13]) (by kernel_rfl) (by simp) ?_
        refine AllReadyH.cons rfl (fun K hK => ?_) AllReadyH.nil
        go_simp
        refine hK.out _ _ ?_ (fun hHeld => ?_)
        · exact ⟨cell_box3 (by omega) (RR.out y9 BX.out).1 _ _ _, cell_box3 (by omega) (RR.out y9 BX.out).2.1 _ _ _, cell_box3 (by omega) (RR.out y9 BX.out).2.2 _ _ _⟩
        clear hK K
        refine wpAnyH_done (by kernel_rfl) ?_ _
        refine NoPanic.normal ?_
        go_wp2
        refine bodyPost_ret (v := .agg #[(Value.slice pa0 ls.length pk0), (Value.slice pa1 ss.length pk1), (Value.slice pa2 ts.length pk2)]) (by simp only [results, Try.results40]; go_simp) rfl (HFIN.out y9 _ _ _ BX.out OW0.out OW1.out OW2.out DD0_1.out DD0_2.out DD1_2.out)
      refine AllReadyH.cons rfl (fun K hK => ?_) AllReadyH.nil
      go_simp
      obtain ⟨y10, ey⟩ : ∃ q, q = y2.alloc (.cells #[] 3) := ⟨_, rfl⟩
      rw [← ey]
      have hB : Below y2.heap.size y2 y10 := by rw [ey]; exact (Below.refl _ _).alloc (Nat.le_refl _) _
      have PB2 : Hid (Bare y10 y2.heap.size) := by show Bare _ _; rw [ey]; exact bare_new _
      have GE2 : Hid (X.heap.size ≤ y2.heap.size) := BX.out.size
      have DN0_2 : Hid (∀ q, (Value.slice pa0 ls.length pk0).ownBlock = some q → q ≠ y2.heap.size) := fun q e => Nat.ne_of_lt (World.ownsRow.lt OW0.out q e).2
      have OW0 : Hid (Own y10 X.heap.size (Value.slice pa0 ls.length pk0) ls) := row_below OW0.out hB
      have BX : Hid (Below X.heap.size X y10) := BX.out.trans (hB.mono BX.out.size)
      clear ey hB
      refine hK.out _ _ ?_ (fun hHeld => ?_)
      · exact RR.out _ BX.out
      clear hK K
      try simp only [Act.put, List.setIfInBounds_toArray, List.set_cons_zero, List.set_cons_succ]
      refine wpAnyH_ready (rs := [4]) (by kernel_rfl) (by simp) ?_
      refine AllReadyH.cons rfl (fun K hK => ?_) AllReadyH.nil
      go_simp
      obtain ⟨y11, ey⟩ : ∃ q, q = y10.alloc (.cells #[] 3) := ⟨_, rfl⟩
      rw [← ey]
      have hB : Below y10.heap.size y10 y11 := by rw [ey]; exact (Below.refl _ _).alloc (Nat.le_refl _) _
      have PB1 : Hid (Bare y11 y10.heap.size) := by show Bare _ _; rw [ey]; exact bare_new _
      have GE1 : Hid (X.heap.size ≤ y10.heap.size) := BX.out.size
      have ne2_1 : Hid (y2.heap.size ≠ y10.heap.size) := Nat.ne_of_lt PB2.out.lt
      have PB2 : Hid (Bare y11 y2.heap.size) := (hB.block _ PB2.out.lt).trans PB2.out
      have DN0_1 : Hid (∀ q, (Value.slice pa0 ls.length pk0).ownBlock = some q → q ≠ y10.heap.size) := fun q e => Nat.ne_of_lt (World.ownsRow.lt OW0.out q e).2
      have OW0 : Hid (Own y11 X.heap.size (Value.slice pa0 ls.length pk0) ls) := row_below OW0.out hB
      have BX : Hid (Below X.heap.size X y11) := BX.out.trans (hB.mono BX.out.size)
      clear ey hB
      refine hK.out _ _ ?_ (fun hHeld => ?_)
      · exact RR.out _ BX.out
      clear hK K
      try simp only [Act.put, List.setIfInBounds_toArray, List.set_cons_zero, List.set_cons_succ]
      refine wpAnyH_ready (rs := [7]) (by kernel_rfl) (by simp) ?_
      refine AllReadyH.cons rfl (fun K hK => ?_) AllReadyH.nil
      refine step_copy0 X y11 rfl _ _ rfl (y10.heap.size) rfl PB1.out GE1.out BX.out a1 l1 c1 rfl ss H1.out x1 J1.out ?_
      intro v1 y12 hown hC
      obtain ⟨pa1, pk1, ee1, _⟩ := hown.mine
      subst ee1
      have OW1 : Hid (Own y12 X.heap.size (Value.slice pa1 ss.length pk1) ss) := hown
      have DN1_2 : Hid (∀ q, (Value.slice pa1 ss.length pk1).ownBlock = some q → q ≠ y2.heap.size) := fun q e r => by
        rcases hC.at_ with s | s
        · rw [s] at e; exact ne2_1.out ((Option.some.inj e).trans r).symm
        · rw [s] at e; have := PB2.out.lt; have := Option.some.inj e; omega
      have PB2 : Hid (Bare y12 (y2.heap.size)) := hC.bare PB2.out ne2_1.out
      have DD0_1 : Hid (∀ q, (Value.slice pa0 ls.length pk0).ownBlock = some q → (Value.slice pa1 ss.length pk1).ownBlock ≠ some q) := fun q e r => by
        rcases hC.at_ with s | s
        · rw [s] at r; exact DN0_1.out q e (Option.some.inj r).symm
        · rw [s] at r; have := (World.ownsRow.lt OW0.out q e).2; have := Option.some.inj r; omega
      have OW0 : Hid (Own y12 X.heap.size (Value.slice pa0 ls.length pk0) ls) := hC.own OW0.out DN0_1.out
      have BX : Hid (Below X.heap.size X y12) := hC.bel
      clear hown hC
      refine hK.out _ _ ?_ (fun hHeld => ?_)
      · exact RR.out _ BX.out
      clear hK K
      try simp only [Act.put, List.setIfInBounds_toArray, List.set_cons_zero, List.set_cons_succ]
      refine wpAnyH_ready (rs := [11]) (by kernel_rfl) (by simp) ?_
      refine AllReadyH.cons rfl (fun K hK => ?_) AllReadyH.nil
      refine step_copy0 X y12 rfl _ _ rfl (y2.heap.size) rfl PB2.out GE2.out BX.out a2 l2 c2 rfl ts H2.out x2 J2.out ?_
      intro v2 y13 hown hC
      obtain ⟨pa2, pk2, ee2, _⟩ := hown.mine
      subst ee2
      have OW2 : Hid (Own y13 X.heap.size (Value.slice pa2 ts.length pk2) ts) := hown
      have DD0_2 : Hid (∀ q, (Value.slice pa0 ls.length pk0).ownBlock = some q → (Value.slice pa2 ts.length pk2).ownBlock ≠ some q) := fun q e r => by
        rcases hC.at_ with s | s
        · rw [s] at r; exact DN0_2.out q e (Option.some.inj r).symm
        · rw [s] at r; have := (World.ownsRow.lt OW0.out q e).2; have := Option.some.inj r; omega
      have OW0 : Hid (Own y13 X.heap.size (Value.slice pa0 ls.length pk0) ls) := hC.own OW0.out DN0_2.out
      have DD1_2 : Hid (∀ q, (Value.slice pa1 ss.length pk1).ownBlock = some q → (Value.slice pa2 ts.length pk2).ownBlock ≠ some q) := fun q e r => by
        rcases hC.at_ with s | s
        · rw [s] at r; exact DN1_2.out q e (Option.some.inj r).symm
        · rw [s] at r; have := (World.ownsRow.lt OW1.out q e).2; have := Option.some.inj r; omega
      have OW1 : Hid (Own y13 X.heap.size (Value.slice pa1 ss.length pk1) ss) := hC.own OW1.out DN1_2.out
      have BX : Hid (Below X.heap.size X y13) := hC.bel
      clear hown hC
      refine hK.out _ _ ?_ (fun hHeld => ?_)
      · exact RR.out _ BX.out
      clear hK K
      try simp only [Act.put, List.setIfInBounds_toArray, List.set_cons_zero, List.set_cons_succ]
      refine wpAnyH_take (i := 12) (v := ?v9) rfl (by kernel_rfl) (by kernel_rfl) (by kernel_rfl) (fun _ _ _ h => h) (Or.inl ⟨by rfl, ?hy9⟩) (by assumption) ?_
      case hy9 => (intro w hSw; (try dsimp only at hSw); go_simp; try with_reducible rfl)
      try simp only [Act.put, List.setIfInBounds_toArray, List.set_cons_zero, List.set_cons_succ]
      have KZ := HKZ.out y13 BX.out
      have z0 : y13.cell? ⟨W.heap.size + 1, 0, none⟩ = some (.slice none 0 0) := KZ.cell (i := 0) (by decide)
      have fz0 : y13.frozen? ⟨W.heap.size + 1, 0, none⟩ = false := KZ.frozen 0
      have z1 : y13.cell? ⟨W.heap.size + 1, 1, none⟩ = some (.slice none 0 0) := KZ.cell (i := 1) (by decide)
      have fz1 : y13.frozen? ⟨W.heap.size + 1, 1, none⟩ = false := KZ.frozen 1
      have z2 : y13.cell? ⟨W.heap.size + 1, 2, none⟩ = some (.slice none 0 0) := KZ.cell (i := 2) (by decide)
      have fz2 : y13.frozen? ⟨W.heap.size + 1, 2, none⟩ = false := KZ.frozen 2
      have lz : W.heap.size + 1 < y13.heap.size := KZ.lt
      refine wpAnyH_ready (rs := [13]) (by kernel_rfl) (by simp) ?_
      refine AllReadyH.cons rfl (fun K hK => ?_) AllReadyH.nil
      go_simp
      refine hK.out _ _ ?_ (fun hHeld => ?_)
      · exact ⟨cell_box3 (by omega) (RR.out y13 BX.out).1 _ _ _, cell_box3 (by omega) (RR.out y13 BX.out).2.1 _ _ _, cell_box3 (by omega) (RR.out y13 BX.out).2.2 _ _ _⟩
      clear hK K
      refine wpAnyH_done (by kernel_rfl) ?_ _
      refine NoPanic.normal ?_
      go_wp2
      refine bodyPost_ret (v := .agg #[(Value.slice pa0 ls.length pk0), (Value.slice pa1 ss.length pk1), (Value.slice pa2 ts.length pk2)]) (by simp only [results, Try.results40]; go_simp) rfl (HFIN.out y13 _ _ _ BX.out OW0.out OW1.out OW2.out DD0_1.out DD0_2.out DD1_2.out)
    refine AllReadyH.cons rfl (fun K hK => ?_) ?_
    · go_simp
      obtain ⟨y14, ey⟩ : ∃ q, q = y1.alloc (.cells #[] 3) := ⟨_, rfl⟩
      rw [← ey]
      have hB : Below y1.heap.size y1 y14 := by rw [ey]; exact (Below.refl _ _).alloc (Nat.le_refl _) _
      have PB1 : Hid (Bare y14 y1.heap.size) := by show Bare _ _; rw [ey]; exact bare_new _
      have GE1 : Hid (X.heap.size ≤ y1.heap.size) := BX.out.size
      have ne0_1 : Hid (y0.heap.size ≠ y1.heap.size) := Nat.ne_of_lt PB0.out.lt
      have PB0 : Hid (Bare y14 y0.heap.size) := (hB.block _ PB0.out.lt).trans PB0.out
      have BX : Hid (Below X.heap.size X y14) := BX.out.trans (hB.mono BX.out.size)
      clear ey hB
      refine hK.out _ _ ?_ (fun hHeld => ?_)
      · exact RR.out _ BX.out
      clear hK K
      try simp only [Act.put, List.setIfInBounds_toArray, List.set_cons_zero, List.set_cons_succ]
      refine wpAnyH_ready (rs := [3, 8]) (by kernel_rfl) (by simp) ?_
      refine AllReadyH.cons rfl (fun K hK => ?_) ?_
      · refine step_copy0 X y14 rfl _ _ rfl (y0.heap.size) rfl PB0.out GE0.out BX.out a0 l0 c0 rfl ls H0.out x0 J0.out ?_
        intro v0 y15 hown hC
        obtain ⟨pa0, pk0, ee0, _⟩ := hown.mine
        subst ee0
        have OW0 : Hid (Own y15 X.heap.size (Value.slice pa0 ls.length pk0) ls) := hown
        have DN0_1 : Hid (∀ q, (Value.slice pa0 ls.length pk0).ownBlock = some q → q ≠ y1.heap.size) := fun q e r => by
          rcases hC.at_ with s | s
          · rw [s] at e; exact (Ne.symm ne0_1.out) ((Option.some.inj e).trans r).symm
          · rw [s] at e; have := PB1.out.lt; have := Option.some.inj e; omega
        have PB1 : Hid (Bare y15 (y1.heap.size)) := hC.bare PB1.out (Ne.symm ne0_1.out)
        have BX : Hid (Below X.heap.size X y15) := hC.bel
        clear hown hC
        refine hK.out _ _ ?_ (fun hHeld => ?_)
        · exact RR.out _ BX.out
        clear hK K
        try simp only [Act.put, List.setIfInBounds_toArray, List.set_cons_zero, List.set_cons_succ]
        refine wpAnyH_ready (rs := [7, 8]) (by kernel_rfl) (by simp) ?_
        refine AllReadyH.cons rfl (fun K hK => ?_) ?_
        · refine step_copy0 X y15 rfl _ _ rfl (y1.heap.size) rfl PB1.out GE1.out BX.out a1 l1 c1 rfl ss H1.out x1 J1.out ?_
          intro v1 y16 hown hC
          obtain ⟨pa1, pk1, ee1, _⟩ := hown.mine
          subst ee1
          have OW1 : Hid (Own y16 X.heap.size (Value.slice pa1 ss.length pk1) ss) := hown
          have DD0_1 : Hid (∀ q, (Value.slice pa0 ls.length pk0).ownBlock = some q → (Value.slice pa1 ss.length pk1).ownBlock ≠ some q) := fun q e r => by
            rcases hC.at_ with s | s
            · rw [s] at r; exact DN0_1.out q e (Option.some.inj r).symm
            · rw [s] at r; have := (World.ownsRow.lt OW0.out q e).2; have := Option.some.inj r; omega
          have OW0 : Hid (Own y16 X.heap.size (Value.slice pa0 ls.length pk0) ls) := hC.own OW0.out DN0_1.out
          have BX : Hid (Below X.heap.size X y16) := hC.bel
          clear hown hC
          refine hK.out _ _ ?_ (fun hHeld => ?_)
          · exact RR.out _ BX.out
          clear hK K
          try simp only [Act.put, List.setIfInBounds_toArray, List.set_cons_zero, List.set_cons_succ]
          refine wpAnyH_ready (rs := [8]) (by kernel_rfl) (by simp) ?_
          refine AllReadyH.cons rfl (fun K hK => ?_) AllReadyH.nil
          go_simp
          obtain ⟨y17, ey⟩ : ∃ q, q = y16.alloc (.cells #[] 3) := ⟨_, rfl⟩
          rw [← ey]
          have hB : Below y16.heap.size y16 y17 := by rw [ey]; exact (Below.refl _ _).alloc (Nat.le_refl _) _
          have PB2 : Hid (Bare y17 y16.heap.size) := by show Bare _ _; rw [ey]; exact bare_new _
          have GE2 : Hid (X.heap.size ≤ y16.heap.size) := BX.out.size
          have DN0_2 : Hid (∀ q, (Value.slice pa0 ls.length pk0).ownBlock = some q → q ≠ y16.heap.size) := fun q e => Nat.ne_of_lt (World.ownsRow.lt OW0.out q e).2
          have OW0 : Hid (Own y17 X.heap.size (Value.slice pa0 ls.length pk0) ls) := row_below OW0.out hB
          have DN1_2 : Hid (∀ q, (Value.slice pa1 ss.length pk1).ownBlock = some q → q ≠ y16.heap.size) := fun q e => Nat.ne_of_lt (World.ownsRow.lt OW1.out q e).2
          have OW1 : Hid (Own y17 X.heap.size (Value.slice pa1 ss.length pk1) ss) := row_below OW1.out hB
          have BX : Hid (Below X.heap.size X y17) := BX.out.trans (hB.mono BX.out.size)
          clear ey hB
          refine hK.out _ _ ?_ (fun hHeld => ?_)
          · exact RR.out _ BX.out
          clear hK K
          try simp only [Act.put, List.setIfInBounds_toArray, List.set_cons_zero, List.set_cons_succ]
          refine wpAnyH_ready (rs := [11]) (by kernel_rfl) (by simp) ?_
          refine AllReadyH.cons rfl (fun K hK => ?_) AllReadyH.nil
          refine step_copy0 X y17 rfl _ _ rfl (y16.heap.size) rfl PB2.out GE2.out BX.out a2 l2 c2 rfl ts H2.out x2 J2.out ?_
          intro v2 y18 hown hC
          obtain ⟨pa2, pk2, ee2, _⟩ := hown.mine
          subst ee2
          have OW2 : Hid (Own y18 X.heap.size (Value.slice pa2 ts.length pk2) ts) := hown
          have DD0_2 : Hid (∀ q, (Value.slice pa0 ls.length pk0).ownBlock = some q → (Value.slice pa2 ts.length pk2).ownBlock ≠ some q) := fun q e r => by
            rcases hC.at_ with s | s
            · rw [s] at r; exact DN0_2.out q e (Option.some.inj r).symm
            · rw [s] at r; have := (World.ownsRow.lt OW0.out q e).2; have := Option.some.inj r; omega
          have OW0 : Hid (Own y18 X.heap.size (Value.slice pa0 ls.length pk0) ls) := hC.own OW0.out DN0_2.out
          have DD1_2 : Hid (∀ q, (Value.slice pa1 ss.length pk1).ownBlock = some q → (Value.slice pa2 ts.length pk2).ownBlock ≠ some q) := fun q e r => by
            rcases hC.at_ with s | s
            · rw [s] at r; exact DN1_2.out q e (Option.some.inj r).symm
            · rw [s] at r; have := (World.ownsRow.lt OW1.out q e).2; have := Option.some.inj r; omega
          have OW1 : Hid (Own y18 X.heap.size (Value.slice pa1 ss.length pk1) ss) := hC.own OW1.out DN1_2.out
          have BX : Hid (Below X.heap.size X y18) := hC.bel
          clear hown hC
          refine hK.out _ _ ?_ (fun hHeld => ?_)
          · exact RR.out _ BX.out
          clear hK K
          try simp only [Act.put, List.setIfInBounds_toArray, List.set_cons_zero, List.set_cons_succ]
          refine wpAnyH_take (i := 12) (v := ?v10) rfl (by kernel_rfl) (by kernel_rfl) (by kernel_rfl) (fun _ _ _ h => h) (Or.inl ⟨by rfl, ?hy10⟩) (by assumption) ?_
          case hy10 => (intro w hSw; (try dsimp only at hSw); go_simp; try with_reducible rfl)
          try simp only [Act.put, List.setIfInBounds_toArray, List.set_cons_zero, List.set_cons_succ]
          have KZ := HKZ.out y18 BX.out
          have z0 : y18.cell? ⟨W.heap.size + 1, 0, none⟩ = some (.slice none 0 0) := KZ.cell (i := 0) (by decide)
          have fz0 : y18.frozen? ⟨W.heap.size + 1, 0, none⟩ = false := KZ.frozen 0
          have z1 : y18.cell? ⟨W.heap.size + 1, 1, none⟩ = some (.slice none 0 0) := KZ.cell (i := 1) (by decide)
          have fz1 : y18.frozen? ⟨W.heap.size + 1, 1, none⟩ = false := KZ.frozen 1
          have z2 : y18.cell? ⟨W.heap.size + 1, 2, none⟩ = some (.slice none 0 0) := KZ.cell (i := 2) (by decide)
          have fz2 : y18.frozen? ⟨W.heap.size + 1, 2, none⟩ = false := KZ.frozen 2
          have lz : W.heap.size + 1 < y18.heap.size := KZ.lt
          refine wpAnyH_ready (rs := [13]) (by kernel_rfl) (by simp) ?_
          refine AllReadyH.cons rfl (fun K hK => ?_) AllReadyH.nil
          go_simp
          refine hK.out _ _ ?_ (fun hHeld => ?_)
          · exact ⟨cell_box3 (by omega) (RR.out y18 BX.out).1 _ _ _, cell_box3 (by omega) (RR.out y18 BX.out).2.1 _ _ _, cell_box3 (by omega) (RR.out y18 BX.out).2.2 _ _ _⟩
          clear hK K
          refine wpAnyH_done (by kernel_rfl) ?_ _
          refine NoPanic.normal ?_
          go_wp2
          refine bodyPost_ret (v := .agg #[(Value.slice pa0 ls.length pk0), (Value.slice pa1 ss.length pk1), (Value.slice pa2 ts.length pk2)]) (by simp only [results, Try.results40]; go_simp) rfl (HFIN.out y18 _ _ _ BX.out OW0.out OW1.out OW2.out DD0_1.out DD0_2.out DD1_2.out)
        refine AllReadyH.cons rfl (fun K hK => ?_) AllReadyH.nil
        go_simp
        obtain ⟨y19, ey⟩ : ∃ q, q = y15.alloc (.cells #[] 3) := ⟨_, rfl⟩
        rw [← ey]
        have hB : Below y15.heap.size y15 y19 := by rw [ey]; exact (Below.refl _ _).alloc (Nat.le_refl _) _
        have PB2 : Hid (Bare y19 y15.heap.size) := by show Bare _ _; rw [ey]; exact bare_new _
        have GE2 : Hid (X.heap.size ≤ y15.heap.size) := BX.out.size
        have ne1_2 : Hid (y1.heap.size ≠ y15.heap.size) := Nat.ne_of_lt PB1.out.lt
        have PB1 : Hid (Bare y19 y1.heap.size) := (hB.block _ PB1.out.lt).trans PB1.out
        have DN0_2 : Hid (∀ q, (Value.slice pa0 ls.length pk0).ownBlock = some q → q ≠ y15.heap.size) := fun q e => Nat.ne_of_lt (World.ownsRow.lt OW0.out q e).2
        have OW0 : Hid (Own y19 X.heap.size (Value.slice pa0 ls.length pk0) ls) := row_below OW0.out hB
        have BX : Hid (Below X.heap.size X y19) := BX.out.trans (hB.mono BX.out.size)
        clear ey hB
        refine hK.out _ _ ?_ (fun hHeld => ?_)
        · exact RR.out _ BX.out
        clear hK K
        try simp only [Act.put, List.setIfInBounds_toArray, List.set_cons_zero, List.set_cons_succ]
        refine wpAnyH_ready (rs := [7]) (by kernel_rfl) (by simp) ?_
        refine AllReadyH.cons rfl (fun K hK => ?_) AllReadyH.nil
        refine step_copy0 X y19 rfl _ _ rfl (y1.heap.size) rfl PB1.out GE1.out BX.out a1 l1 c1 rfl ss H1.out x1 J1.out ?_
        intro v1 y20 hown hC
        obtain ⟨pa1, pk1, ee1, _⟩ := hown.mine
        subst ee1
        have OW1 : Hid (Own y20 X.heap.size (Value.slice pa1 ss.length pk1) ss) := hown
        have DN1_2 : Hid (∀ q, (Value.slice pa1 ss.length pk1).ownBlock = some q → q ≠ y15.heap.size) := fun q e r => by
          rcases hC.at_ with s | s
          · rw [s] at e; exact (Ne.symm ne1_2.out) ((Option.some.inj e).trans r).symm
          · rw [s] at e; have := PB2.out.lt; have := Option.some.inj e; omega
        have PB2 : Hid (Bare y20 (y15.heap.size)) := hC.bare PB2.out (Ne.symm ne1_2.out)
        have DD0_1 : Hid (∀ q, (Value.slice pa0 ls.length pk0).ownBlock = some q → (Value.slice pa1 ss.length pk1).ownBlock ≠ some q) := fun q e r => by
          rcases hC.at_ with s | s
          · rw [s] at r; exact DN0_1.out q e (Option.some.inj r).symm
          · rw [s] at r; have := (World.ownsRow.lt OW0.out q e).2; have := Option.some.inj r; omega
        have OW0 : Hid (Own y20 X.heap.size (Value.slice pa0 ls.length pk0) ls) := hC.own OW0.out DN0_1.out
        have BX : Hid (Below X.heap.size X y20) := hC.bel
        clear hown hC
        refine hK.out _ _ ?_ (fun hHeld => ?_)
        · exact RR.out _ BX.out
        clear hK K
        try simp only [Act.put, List.setIfInBounds_toArray, List.set_cons_zero, List.set_cons_succ]
        refine wpAnyH_ready (rs := [11]) (by kernel_rfl) (by simp) ?_
        refine AllReadyH.cons rfl (fun K hK => ?_) AllReadyH.nil
        refine step_copy0 X y20 rfl _ _ rfl (y15.heap.size) rfl PB2.out GE2.out BX.out a2 l2 c2 rfl ts H2.out x2 J2.out ?_
        intro v2 y21 hown hC
        obtain ⟨pa2, pk2, ee2, _⟩ := hown.mine
        subst ee2
        have OW2 : Hid (Own y21 X.heap.size (Value.slice pa2 ts.length pk2) ts) := hown
        have DD0_2 : Hid (∀ q, (Value.slice pa0 ls.length pk0).ownBlock = some q → (Value.slice pa2 ts.length pk2).ownBlock ≠ some q) := fun q e r => by
          rcases hC.at_ with s | s
          · rw [s] at r; exact DN0_2.out q e (Option.some.inj r).symm
          · rw [s] at r; have := (World.ownsRow.lt OW0.out q e).2; have := Option.some.inj r; omega
        have OW0 : Hid (Own y21 X.heap.size (Value.slice pa0 ls.length pk0) ls) := hC.own OW0.out DN0_2.out
        have DD1_2 : Hid (∀ q, (Value.slice pa1 ss.length pk1).ownBlock = some q → (Value.slice pa2 ts.length pk2).ownBlock ≠ some q) := fun q e r => by
          rcases hC.at_ with s | s
          · rw [s] at r; exact DN1_2.out q e (Option.some.inj r).symm
          · rw [s] at r; have := (World.ownsRow.lt OW1.out q e).2; have := Option.some.inj r; omega
        have OW1 : Hid (Own y21 X.heap.size (Value.slice pa1 ss.length pk1) ss) := hC.own OW1.out DN1_2.out
        have BX : Hid (Below X.heap.size X y21) := hC.bel
        clear hown hC
        refine hK.out _ _ ?_ (fun hHeld => ?_)
        · exact RR.out _ BX.out
        clear hK K
        try simp only [Act.put, List.setIfInBounds_toArray, List.set_cons_zero, List.set_cons_succ]
        refine wpAnyH_take (i := 12) (v := ?v11) rfl (by kernel_rfl) (by kernel_rfl) (by kernel_rfl) (fun _ _ _ h => h) (Or.inl ⟨by rfl, ?hy11⟩) (by assumption) ?_
        case hy11 => (intro w hSw; (try dsimp only at hSw); go_simp; try with_reducible rfl)
        try simp only [Act.put, List.setIfInBounds_toArray, List.set_cons_zero, List.set_cons_succ]
        have KZ := HKZ.out y21 BX.out
        have z0 : y21.cell? ⟨W.heap.size + 1, 0, none⟩ = some (.slice none 0 0) := KZ.cell (i := 0) (by decide)
        have fz0 : y21.frozen? ⟨W.heap.size + 1, 0, none⟩ = false := KZ.frozen 0
        have z1 : y21.cell? ⟨W.heap.size + 1, 1, none⟩ = some (.slice none 0 0) := KZ.cell (i := 1) (by decide)
        have fz1 : y21.frozen? ⟨W.heap.size + 1, 1, none⟩ = false := KZ.frozen 1
        have z2 : y21.cell? ⟨W.heap.size + 1, 2, none⟩ = some (.slice none 0 0) := KZ.cell (i := 2) (by decide)
        have fz2 : y21.frozen? ⟨W.heap.size + 1, 2, none⟩ = false := KZ.frozen 2
        have lz : W.heap.size + 1 < y21.heap.size := KZ.lt
        refine wpAnyH_ready (rs := [13]) (by kernel_rfl) (by simp) ?_
        refine AllReadyH.cons rfl (fun K hK => ?_) AllReadyH.nil
        go_simp
        refine hK.out _ _ ?_ (fun hHeld => ?_)
        · exact ⟨cell_box3 (by omega) (RR.out y21 BX.out).1 _ _ _, cell_box3 (by omega) (RR.out y21 BX.out).2.1 _ _ _, cell_box3 (by omega) (RR.out y21 BX.out).2.2 _ _ _⟩
        clear hK K
        refine wpAnyH_done (by kernel_rfl) ?_ _
        refine NoPanic.normal ?_
        go_wp2
        refine bodyPost_ret (v := .agg #[(Value.slice pa0 ls.length pk0), (Value.slice pa1 ss.length pk1), (Value.slice pa2 ts.length pk2)]) (by simp only [results, Try.results40]; go_simp) rfl (HFIN.out y21 _ _ _ BX.out OW0.out OW1.out OW2.out DD0_1.out DD0_2.out DD1_2.out)
      refine AllReadyH.cons rfl (fun K hK => ?_) AllReadyH.nil
      go_simp
      obtain ⟨y22, ey⟩ : ∃ q, q = y14.alloc (.cells #[] 3) := ⟨_, rfl⟩
      rw [← ey]
      have hB : Below y14.heap.size y14 y22 := by rw [ey]; exact (Below.refl _ _).alloc (Nat.le_refl _) _
      have PB2 : Hid (Bare y22 y14.heap.size) := by show Bare _ _; rw [ey]; exact bare_new _
      have GE2 : Hid (X.heap.size ≤ y14.heap.size) := BX.out.size
      have ne0_2 : Hid (y0.heap.size ≠ y14.heap.size) := Nat.ne_of_lt PB0.out.lt
      have PB0 : Hid (Bare y22 y0.heap.size) := (hB.block _ PB0.out.lt).trans PB0.out
      have ne1_2 : Hid (y1.heap.size ≠ y14.heap.size) := Nat.ne_of_lt PB1.out.lt
      have PB1 : Hid (Bare y22 y1.heap.size) := (hB.block _ PB1.out.lt).trans PB1.out
      have BX : Hid (Below X.heap.size X y22) := BX.out.trans (hB.mono BX.out.size)
      clear ey hB
      refine hK.out _ _ ?_ (fun hHeld => ?_)
      · exact RR.out _ BX.out
      clear hK K
      try simp only [Act.put, List.setIfInBounds_toArray, List.set_cons_zero, List.set_cons_succ]
      refine wpAnyH_ready (rs := [3]) (by kernel_rfl) (by simp) ?_
      refine AllReadyH.cons rfl (fun K hK => ?_) AllReadyH.nil
      refine step_copy0 X y22 rfl _ _ rfl (y0.heap.size) rfl PB0.out GE0.out BX.out a0 l0 c0 rfl ls H0.out x0 J0.out ?_
      intro v0 y23 hown hC
      obtain ⟨pa0, pk0, ee0, _⟩ := hown.mine
      subst ee0
      have OW0 : Hid (Own y23 X.heap.size (Value.slice pa0 ls.length pk0) ls) := hown
      have DN0_1 : Hid (∀ q, (Value.slice pa0 ls.length pk0).ownBlock = some q → q ≠ y1.heap.size) := fun q e r => by
        rcases hC.at_ with s | s
        · rw [s] at e; exact (Ne.symm ne0_1.out) ((Option.some.inj e).trans r).symm
        · rw [s] at e; have := PB1.out.lt; have := Option.some.inj e; omega
      have PB1 : Hid (Bare y23 (y1.heap.size)) := hC.bare PB1.out (Ne.symm ne0_1.out)
      have DN0_2 : Hid (∀ q, (Value.slice pa0 ls.length pk0).ownBlock = some q → q ≠ y14.heap.size) := fun q e r => by
        rcases hC.at_ with s | s
        · rw [s] at e; exact (Ne.symm ne0_2.out) ((Option.some.inj e).trans r).symm
        · rw [s] at e; have := PB2.out.lt; have := Option.some.inj e; omega
      have PB2 : Hid (Bare y23 (y14.heap.size)) := hC.bare PB2.out (Ne.symm ne0_2.out)
      have BX : Hid (Below X.heap.size X y23) := hC.bel
      clear hown hC
      refine hK.out _ _ ?_ (fun hHeld => ?_)
      · exact RR.out _ BX.out
      clear hK K
      try simp only [Act.put, List.setIfInBounds_toArray, List.set_cons_zero, List.set_cons_succ]
      refine wpAnyH_ready (rs := [7]) (by kernel_rfl) (by simp) ?_
      refine AllReadyH.cons rfl (fun K hK => ?_) AllReadyH.nil
      refine step_copy0 X y23 rfl _ _ rfl (y1.heap.size) rfl PB1.out GE1.out BX.out a1 l1 c1 rfl ss H1.out x1 J1.out ?_
      intro v1 y24 hown hC
      obtain ⟨pa1, pk1, ee1, _⟩ := hown.mine
      subst ee1
      have OW1 : Hid (Own y24 X.heap.size (Value.slice pa1 ss.length pk1) ss) := hown
      have DN1_2 : Hid (∀ q, (Value.slice pa1 ss.length pk1).ownBlock = some q → q ≠ y14.heap.size) := fun q e r => by
        rcases hC.at_ with s | s
        · rw [s] at e; exact (Ne.symm ne1_2.out) ((Option.some.inj e).trans r).symm
        · rw [s] at e; have := PB2.out.lt; have := Option.some.inj e; omega
      have PB2 : Hid (Bare y24 (y14.heap.size)) := hC.bare PB2.out (Ne.symm ne1_2.out)
      have DD0_1 : Hid (∀ q, (Value.slice pa0 ls.length pk0).ownBlock = some q → (Value.slice pa1 ss.length pk1).ownBlock ≠ some q) := fun q e r => by
        rcases hC.at_ with s | s
        · rw [s] at r; exact DN0_1.out q e (Option.some.inj r).symm
        · rw [s] at r; have := (World.ownsRow.lt OW0.out q e).2; have := Option.some.inj r; omega
      have OW0 : Hid (Own y24 X.heap.size (Value.slice pa0 ls.length pk0) ls) := hC.own OW0.out DN0_1.out
      have BX : Hid (Below X.heap.size X y24) := hC.bel
      clear hown hC
      refine hK.out _ _ ?_ (fun hHeld => ?_)
      · exact RR.out _ BX.out
      clear hK K
      try simp only [Act.put, List.setIfInBounds_toArray, List.set_cons_zero, List.set_cons_succ]
      refine wpAnyH_ready (rs := [11]) (by kernel_rfl) (by simp) ?_
      refine AllReadyH.cons rfl (fun K hK => ?_) AllReadyH.nil
      refine step_copy0 X y24 rfl _ _ rfl (y14.heap.size) rfl PB2.out GE2.out BX.out a2 l2 c2 rfl ts H2.out x2 J2.out ?_
      intro v2 y25 hown hC
      obtain ⟨pa2, pk2, ee2, _⟩ := hown.mine
      subst ee2
      have OW2 : Hid (Own y25 X.heap.size (Value.slice pa2 ts.length pk2) ts) := hown
      have DD0_2 : Hid (∀ q, (Value.slice pa0 ls.length pk0).ownBlock = some q → (Value.slice pa2 ts.length pk2).ownBlock ≠ some q) := fun q e r => by
        rcases hC.at_ with s | s
        · rw [s] at r; exact DN0_2.out q e (Option.some.inj r).symm
        · rw [s] at r; have := (World.ownsRow.lt OW0.out q e).2; have := Option.some.inj r; omega
      have OW0 : Hid (Own y25 X.heap.size (Value.slice pa0 ls.length pk0) ls) := hC.own OW0.out DN0_2.out
      have DD1_2 : Hid (∀ q, (Value.slice pa1 ss.length pk1).ownBlock = some q → (Value.slice pa2 ts.length pk2).ownBlock ≠ some q) := fun q e r => by
        rcases hC.at_ with s | s
        · rw [s] at r; exact DN1_2.out q e (Option.some.inj r).symm
        · rw [s] at r; have := (World.ownsRow.lt OW1.out q e).2; have := Option.some.inj r; omega
      have OW1 : Hid (Own y25 X.heap.size (Value.slice pa1 ss.length pk1) ss) := hC.own OW1.out DN1_2.out
      have BX : Hid (Below X.heap.size X y25) := hC.bel
      clear hown hC
      refine hK.out _ _ ?_ (fun hHeld => ?_)
      · exact RR.out _ BX.out
      clear hK K
      try simp only [Act.put, List.setIfInBounds_toArray, List.set_cons_zero, List.set_cons_succ]
      refine wpAnyH_take (i := 12) (v := ?v12) rfl (by kernel_rfl) (by kernel_rfl) (by kernel_rfl) (fun _ _ _ h => h) (Or.inl ⟨by rfl, ?hy12⟩) (by assumption) ?_
      case hy12 => (intro w hSw; (try dsimp only at hSw); go_simp; try with_reducible rfl)
      try simp only [Act.put, List.setIfInBounds_toArray, List.set_cons_zero, List.set_cons_succ]
      have KZ := HKZ.out y25 BX.out
      have z0 : y25.cell? ⟨W.heap.size + 1, 0, none⟩ = some (.slice none 0 0) := KZ.cell (i := 0) (by decide)
      have fz0 : y25.frozen? ⟨W.heap.size + 1, 0, none⟩ = false := KZ.frozen 0
      have z1 : y25.cell? ⟨W.heap.size + 1, 1, none⟩ = some (.slice none 0 0) := KZ.cell (i := 1) (by decide)
      have fz1 : y25.frozen? ⟨W.heap.size + 1, 1, none⟩ = false := KZ.frozen 1
      have z2 : y25.cell? ⟨W.heap.size + 1, 2, none⟩ = some (.slice none 0 0) := KZ.cell (i := 2) (by decide)
      have fz2 : y25.frozen? ⟨W.heap.size + 1, 2, none⟩ = false := KZ.frozen 2
      have lz : W.heap.size + 1 < y25.heap.size := KZ.lt
      refine wpAnyH_ready (rs := [13]) (by kernel_rfl) (by simp) ?_
      refine AllReadyH.cons rfl (fun K hK => ?_) AllReadyH.nil
      go_simp
      refine hK.out _ _ ?_ (fun hHeld => ?_)
      · exact ⟨cell_box3 (by omega) (RR.out y25 BX.out).1 _ _ _, cell_box3 (by omega) (RR.out y25 BX.out).2.1 _ _ _, cell_box3 (by omega) (RR.out y25 BX.out).2.2 _ _ _⟩
      clear hK K
      refine wpAnyH_done (by kernel_rfl) ?_ _
      refine NoPanic.normal ?_
      go_wp2
      refine bodyPost_ret (v := .agg #[(Value.slice pa0 ls.length pk0), (Value.slice pa1 ss.length pk1), (Value.slice pa2 ts.length pk2)]) (by simp only [results, Try.results40]; go_simp) rfl (HFIN.out y25 _ _ _ BX.out OW0.out OW1.out OW2.out DD0_1.out DD0_2.out DD1_2.out)
    refine AllReadyH.cons rfl (fun K hK => ?_) AllReadyH.nil
    go_simp
    obtain ⟨y26, ey⟩ : ∃ q, q = y1.alloc (.cells #[] 3) := ⟨_, rfl⟩
    rw [← ey]
    have hB : Below y1.heap.size y1 y26 := by rw [ey]; exact (Below.refl _ _).alloc (Nat.le_refl _) _
    have PB2 : Hid (Bare y26 y1.heap.size) := by show Bare _ _; rw [ey]; exact bare_new _
    have GE2 : Hid (X.heap.size ≤ y1.heap.size) := BX.out.size
    have ne0_2 : Hid (y0.heap.size ≠ y1.heap.size) := Nat.ne_of_lt PB0.out.lt
    have PB0 : Hid (Bare y26 y0.heap.size) := (hB.block _ PB0.out.lt).trans PB0.out
    have BX : Hid (Below X.heap.size X y26) := BX.out.trans (hB.mono BX.out.size)
    clear ey hB
    refine hK.out _ _ ?_ (fun hHeld => ?_)
    · exact RR.out _ BX.out
    clear hK K
    try simp only [Act.put, List.setIfInBounds_toArray, List.set_cons_zero, List.set_cons_succ]
    refine wpAnyH_ready (rs := [3, 4]) (by kernel_rfl) (by simp) ?_
    refine AllReadyH.cons rfl (fun K hK => ?_) ?_
    · refine step_copy0 X y26 rfl _ _ rfl (y0.heap.size) rfl PB0.out GE0.out BX.out a0 l0 c0 rfl ls H0.out x0 J0.out ?_
      intro v0 y27 hown hC
      obtain ⟨pa0, pk0, ee0, _⟩ := hown.mine
      subst ee0
      have OW0 : Hid (Own y27 X.heap.size (Value.slice pa0 ls.length pk0) ls) := hown
      have DN0_2 : Hid (∀ q, (Value.slice pa0 ls.length pk0).ownBlock = some q → q ≠ y1.heap.size) := fun q e r => by
        rcases hC.at_ with s | s
        · rw [s] at e; exact (Ne.symm ne0_2.out) ((Option.some.inj e).trans r).symm
        · rw [s] at e; have := PB2.out.lt; have := Option.some.inj e; omega
      have PB2 : Hid (Bare y27 (y1.heap.size)) := hC.bare PB2.out (Ne.symm ne0_2.out)
      have BX : Hid (Below X.heap.size X y27) := hC.bel
      clear hown hC
      refine hK.out _ _ ?_ (fun hHeld => ?_)
      · exact RR.out _ BX.out
      clear hK K
      try simp only [Act.put, List.setIfInBounds_toArray, List.set_cons_zero, List.set_cons_succ]
      refine wpAnyH_ready (rs := [4]) (by kernel_rfl) (by simp) ?_
      refine AllReadyH.cons rfl (fun K hK => ?_) AllReadyH.nil
      go_simp
      obtain ⟨y28, ey⟩ : ∃ q, q = y27.alloc (.cells #[] 3) := ⟨_, rfl⟩
      rw [← ey]
      have hB : Below y27.heap.size y27 y28 := by rw [ey]; exact (Below.refl _ _).alloc (Nat.le_refl _) _
      have PB1 : Hid (Bare y28 y27.heap.size) := by show Bare _ _; rw [ey]; exact bare_new _
      have GE1 : Hid (X.heap.size ≤ y27.heap.size) := BX.out.size
      have ne2_1 : Hid (y1.heap.size ≠ y27.heap.size) := Nat.ne_of_lt PB2.out.lt
      have PB2 : Hid (Bare y28 y1.heap.size) := (hB.block _ PB2.out.lt).trans PB2.out
      have DN0_1 : Hid (∀ q, (Value.slice pa0 ls.length pk0).ownBlock = some q → q ≠ y27.heap.size) := fun q e => Nat.ne_of_lt (World.ownsRow.lt OW0.out q e).2
      have OW0 : Hid (Own y28 X.heap.size (Value.slice pa0 ls.length pk0) ls) := row_below OW0.out hB
      have BX : Hid (Below X.heap.size X y28) := BX.out.trans (hB.mono BX.out.size)
      clear ey hB
      refine hK.out _ _ ?_ (fun hHeld => ?_)
      · exact RR.out _ BX.out
      clear hK K
      try simp only [Act.put, List.setIfInBounds_toArray, List.set_cons_zero, List.set_cons_succ]
      refine wpAnyH_ready (rs := [7]) (by kernel_rfl) (by simp) ?_
      refine AllReadyH.cons rfl (fun K hK => ?_) AllReadyH.nil
      refine step_copy0 X y28 rfl _ _ rfl (y27.heap.size) rfl PB1.out GE1.out BX.out a1 l1 c1 rfl ss H1.out x1 J1.out ?_
      intro v1 y29 hown hC
      obtain ⟨pa1, pk1, ee1, _⟩ := hown.mine
      subst ee1
      have OW1 : Hid (Own y29 X.heap.size (Value.slice pa1 ss.length pk1) ss) := hown
      have DN1_2 : Hid (∀ q, (Value.slice pa1 ss.length pk1).ownBlock = some q → q ≠ y1.heap.size) := fun q e r => by
        rcases hC.at_ with s | s
        · rw [s] at e; exact ne2_1.out ((Option.some.inj e).trans r).symm
        · rw [s] at e; have := PB2.out.lt; have := Option.some.inj e; omega
      have PB2 : Hid (Bare y29 (y1.heap.size)) := hC.bare PB2.out ne2_1.out
      have DD0_1 : Hid (∀ q, (Value.slice pa0 ls.length pk0).ownBlock = some q → (Value.slice pa1 ss.length pk1).ownBlock ≠ some q) := fun q e r => by
        rcases hC.at_ with s | s
        · rw [s] at r; exact DN0_1.out q e (Option.some.inj r).symm
        · rw [s] at r; have := (World.ownsRow.lt OW0.out q e).2; have := Option.some.inj r; omega
      have OW0 : Hid (Own y29 X.heap.size (Value.slice pa0 ls.length pk0) ls) := hC.own OW0.out DN0_1.out
      have BX : Hid (Below X.heap.size X y29) := hC.bel
      clear hown hC
      refine hK.out _ _ ?_ (fun hHeld => ?_)
      · exact RR.out _ BX.out
      clear hK K
      try simp only [Act.put, List.setIfInBounds_toArray, List.set_cons_zero, List.set_cons_succ]
      refine wpAnyH_ready (rs := [11]) (by kernel_rfl) (by simp) ?_
      refine AllReadyH.cons rfl (fun K hK => ?_) AllReadyH.nil
      refine step_copy0 X y29 rfl _ _ rfl (y1.heap.size) rfl PB2.out GE2.out BX.out a2 l2 c2 rfl ts H2.out x2 J2.out ?_
      intro v2 y30 hown hC
      obtain ⟨pa2, pk2, ee2, _⟩ := hown.mine
      subst ee2
      have OW2 : Hid (Own y30 X.heap.size (Value.slice pa2 ts.length pk2) ts) := hown
      have DD0_2 : Hid (∀ q, (Value.slice pa0 ls.length pk0).ownBlock = some q → (Value.slice pa2 ts.length pk2).ownBlock ≠ some q) := fun q e r => by
        rcases hC.at_ with s | s
        · rw [s] at r; exact DN0_2.out q e (Option.some.inj r).symm
        · rw [s] at r; have := (World.ownsRow.lt OW0.out q e).2; have := Option.some.inj r; omega
      have OW0 : Hid (Own y30 X.heap.size (Value.slice pa0 ls.length pk0) ls) := hC.own OW0.out DN0_2.out
      have DD1_2 : Hid (∀ q, (Value.slice pa1 ss.length pk1).ownBlock = some q → (Value.slice pa2 ts.length pk2).ownBlock ≠ some q) := fun q e r => by
        rcases hC.at_ with s | s
        · rw [s] at r; exact DN1_2.out q e (Option.some.inj r).symm
        · rw [s] at r; have := (World.ownsRow.lt OW1.out q e).2; have := Option.some.inj r; omega
      have OW1 : Hid (Own y30 X.heap.size (Value.slice pa1 ss.length pk1) ss) := hC.own OW1.out DN1_2.out
      have BX : Hid (Below X.heap.size X y30) := hC.bel
      clear hown hC
      refine hK.out _ _ ?_ (fun hHeld => ?_)
      · exact RR.out _ BX.out
      clear hK K
      try simp only [Act.put, List.setIfInBounds_toArray, List.set_cons_zero, List.set_cons_succ]
      refine wpAnyH_take (i := 12) (v := ?v13) rfl (by kernel_rfl) (by kernel_rfl) (by kernel_rfl) (fun _ _ _ h => h) (Or.inl ⟨by rfl, ?hy13⟩) (by assumption) ?_
      case hy13 => (intro w hSw; (try dsimp only at hSw); go_simp; try with_reducible rfl)
      try simp only [Act.put, List.setIfInBounds_toArray, List.set_cons_zero, List.set_cons_succ]
      have KZ := HKZ.out y30 BX.out
      have z0 : y30.cell? ⟨W.heap.size + 1, 0, none⟩ = some (.slice none 0 0) := KZ.cell (i := 0) (by decide)
      have fz0 : y30.frozen? ⟨W.heap.size + 1, 0, none⟩ = false := KZ.frozen 0
      have z1 : y30.cell? ⟨W.heap.size + 1, 1, none⟩ = some (.slice none 0 0) := KZ.cell (i := 1) (by decide)
      have fz1 : y30.frozen? ⟨W.heap.size + 1, 1, none⟩ = false := KZ.frozen 1
      have z2 : y30.cell? ⟨W.heap.size + 1, 2, none⟩ = some (.slice none 0 0) := KZ.cell (i := 2) (by decide)
      have fz2 : y30.frozen? ⟨W.heap.size + 1, 2, none⟩ = false := KZ.frozen 2
      have lz : W.heap.size + 1 < y30.heap.size := KZ.lt
      refine wpAnyH_ready (rs := [13]) (by kernel_rfl) (by simp) ?_
      refine AllReadyH.cons rfl (fun K hK => ?_) AllReadyH.nil
      go_simp
      refine hK.out _ _ ?_ (fun hHeld => ?_)
      · exact ⟨cell_box3 (by omega) (RR.out y30 BX.out).1 _ _ _, cell_box3 (by omega) (RR.out y30 BX.out).2.1 _ _ _, cell_box3 (by omega) (RR.out y30 BX.out).2.2 _ _ _⟩
      clear hK K
      refine wpAnyH_done (by kernel_rfl) ?_ _
      refine NoPanic.normal ?_
      go_wp2
      refine bodyPost_ret (v := .agg #[(Value.slice pa0 ls.length pk0), (Value.slice pa1 ss.length pk1), (Value.slice pa2 ts.length pk2)]) (by simp only [results, Try.results40]; go_simp) rfl (HFIN.out y30 _ _ _ BX.out OW0.out OW1.out OW2.out DD0_1.out DD0_2.out DD1_2.out)
    refine AllReadyH.cons rfl (fun K hK => ?_) AllReadyH.nil
    go_simp
    obtain ⟨y31, ey⟩ : ∃ q, q = y26.alloc (.cells #[] 3) := ⟨_, rfl⟩
    rw [← ey]
    have hB : Below y26.heap.size y26 y31 := by rw [ey]; exact (Below.refl _ _).alloc (Nat.le_refl _) _
    have PB1 : Hid (Bare y31 y26.heap.size) := by show Bare _ _; rw [ey]; exact bare_new _
    have GE1 : Hid (X.heap.size ≤ y26.heap.size) := BX.out.size
    have ne0_1 : Hid (y0.heap.size ≠ y26.heap.size) := Nat.ne_of_lt PB0.out.lt
    have PB0 : Hid (Bare y31 y0.heap.size) := (hB.block _ PB0.out.lt).trans PB0.out
    have ne2_1 : Hid (y1.heap.size ≠ y26.heap.size) := Nat.ne_of_lt PB2.out.lt
    have PB2 : Hid (Bare y31 y1.heap.size) := (hB.block _ PB2.out.lt).trans PB2.out
    have BX : Hid (Below X.heap.size X y31) := BX.out.trans (hB.mono BX.out.size)
    clear ey hB
    refine hK.out _ _ ?_ (fun hHeld => ?_)
    · exact RR.out _ BX.out
    clear hK K
    try simp only [Act.put, List.setIfInBounds_toArray, List.set_cons_zero, List.set_cons_succ]
    refine wpAnyH_ready (rs := [3]) (by kernel_rfl) (by simp) ?_
    refine AllReadyH.cons rfl (fun K hK => ?_) AllReadyH.nil
    refine step_copy0 X y31 rfl _ _ rfl (y0.heap.size) rfl PB0.out GE0.out BX.out a0 l0 c0 rfl ls H0.out x0 J0.out ?_
    intro v0 y32 hown hC
    obtain ⟨pa0, pk0, ee0, _⟩ := hown.mine
    subst ee0
    have OW0 : Hid (Own y32 X.heap.size (Value.slice pa0 ls.length pk0) ls) := hown
    have DN0_2 : Hid (∀ q, (Value.slice pa0 ls.length pk0).ownBlock = some q → q ≠ y1.heap.size) := fun q e r => by
      rcases hC.at_ with s | s
      · rw [s] at e; exact (Ne.symm ne0_2.out) ((Option.some.inj e).trans r).symm
      · rw [s] at e; have := PB2.out.lt; have := Option.some.inj e; omega
    have PB2 : Hid (Bare y32 (y1.heap.size)) := hC.bare PB2.out (Ne.symm ne0_2.out)
    have DN0_1 : Hid (∀ q, (Value.slice pa0 ls.length pk0).ownBlock = some q → q ≠ y26.heap.size) := fun q e r => by
      rcases hC.at_ with s | s
      · rw [s] at e; exact (Ne.symm ne0_1.out) ((Option.some.inj e).trans r).symm
      · rw [s] at e; have := PB1.out.lt; have := Option.some.inj e; omega
    have PB1 : Hid (Bare y32 (y26.heap.size)) := hC.bare PB1.out (Ne.symm ne0_1.out)
    have BX : Hid (Below X.heap.size X y32) := hC.bel
    clear hown hC
    refine hK.out _ _ ?_ (fun hHeld => ?_)
    · exact RR.out _ BX.out
    clear hK K
    try simp only [Act.put, List.setIfInBounds_toArray, List.set_cons_zero, List.set_cons_succ]
    refine wpAnyH_ready (rs := [7]) (by kernel_rfl) (by simp) ?_
    refine AllReadyH.cons rfl (fun K hK => ?_) AllReadyH.nil
    refine step_copy0 X y32 rfl _ _ rfl (y26.heap.size) rfl PB1.out GE1.out BX.out a1 l1 c1 rfl ss H1.out x1 J1.out ?_
    intro v1 y33 hown hC
    obtain ⟨pa1, pk1, ee1, _⟩ := hown.mine
    subst ee1
    have OW1 : Hid (Own y33 X.heap.size (Value.slice pa1 ss.length pk1) ss) := hown
    have DN1_2 : Hid (∀ q, (Value.slice pa1 ss.length pk1).ownBlock = some q → q ≠ y1.heap.size) := fun q e r => by
      rcases hC.at_ with s | s
      · rw [s] at e; exact ne2_1.out ((Option.some.inj e).trans r).symm
      · rw [s] at e; have := PB2.out.lt; have := Option.some.inj e; omega
    have PB2 : Hid (Bare y33 (y1.heap.size)) := hC.bare PB2.out ne2_1.out
    have DD0_1 : Hid (∀ q, (Value.slice pa0 ls.length pk0).ownBlock = some q → (Value.slice pa1 ss.length pk1).ownBlock ≠ some q) := fun q e r => by
      rcases hC.at_ with s | s
      · rw [s] at r; exact DN0_1.out q e (Option.some.inj r).symm
      · rw [s] at r; have := (World.ownsRow.lt OW0.out q e).2; have := Option.some.inj r; omega
    have OW0 : Hid (Own y33 X.heap.size (Value.slice pa0 ls.length pk0) ls) := hC.own OW0.out DN0_1.out
    have BX : Hid (Below X.heap.size X y33) := hC.bel
    clear hown hC
    refine hK.out _ _ ?_ (fun hHeld => ?_)
    · exact RR.out _ BX.out
    clear hK K
    try simp only [Act.put, List.setIfInBounds_toArray, List.set_cons_zero, List.set_cons_succ]
    refine wpAnyH_ready (rs := [11]) (by kernel_rfl) (by simp) ?_
    refine AllReadyH.cons rfl (fun K hK => ?_) AllReadyH.nil
    refine step_copy0 X y33 rfl _ _ rfl (y1.heap.size) rfl PB2.out GE2.out BX.out a2 l2 c2 rfl ts H2.out x2 J2.out ?_
    intro v2 y34 hown hC
    obtain ⟨pa2, pk2, ee2, _⟩ := hown.mine
    subst ee2
    have OW2 : Hid (Own y34 X.heap.size (Value.slice pa2 ts.length pk2) ts) := hown
    have DD0_2 : Hid (∀ q, (Value.slice pa0 ls.length pk0).ownBlock = some q → (Value.slice pa2 ts.length pk2).ownBlock ≠ some q) := fun q e r => by
      rcases hC.at_ with s | s
      · rw [s] at r; exact DN0_2.out q e (Option.some.inj r).symm
      · rw [s] at r; have := (World.ownsRow.lt OW0.out q e).2; have := Option.some.inj r; omega
    have OW0 : Hid (Own y34 X.heap.size (Value.slice pa0 ls.length pk0) ls) := hC.own OW0.out DN0_2.out
    have DD1_2 : Hid (∀ q, (Value.slice pa1 ss.length pk1).ownBlock = some q → (Value.slice pa2 ts.length pk2).ownBlock ≠ some q) := fun q e r => by
      rcases hC.at_ with s | s
      · rw [s] at r; exact DN1_2.out q e (Option.some.inj r).symm
      · rw [s] at r; have := (World.ownsRow.lt OW1.out q e).2; have := Option.some.inj r; omega
    have OW1 : Hid (Own y34 X.heap.size (Value.slice pa1 ss.length pk1) ss) := hC.own OW1.out DN1_2.out
    have BX : Hid (Below X.heap.size X y34) := hC.bel
    clear hown hC
    refine hK.out _ _ ?_ (fun hHeld => ?_)
    · exact RR.out _ BX.out
    clear hK K
    try simp only [Act.put, List.setIfInBounds_toArray, List.set_cons_zero, List.set_cons_succ]
    refine wpAnyH_take (i := 12) (v := ?v14) rfl (by kernel_rfl) (by kernel_rfl) (by kernel_rfl) (fun _ _ _ h => h) (Or.inl ⟨by rfl, ?hy14⟩) (by assumption) ?_
    case hy14 => (intro w hSw; (try dsimp only at hSw); go_simp; try with_reducible rfl)
    try simp only [Act.put, List.setIfInBounds_toArray, List.set_cons_zero, List.set_cons_succ]
    have KZ := HKZ.out y34 BX.out
    have z0 : y34.cell? ⟨W.heap.size + 1, 0, none⟩ = some (.slice none 0 0) := KZ.cell (i := 0) (by decide)
    have fz0 : y34.frozen? ⟨W.heap.size + 1, 0, none⟩ = false := KZ.frozen 0
    have z1 : y34.cell? ⟨W.heap.size + 1, 1, none⟩ = some (.slice none 0 0) := KZ.cell (i := 1) (by decide)
    have fz1 : y34.frozen? ⟨W.heap.size + 1, 1, none⟩ = false := KZ.frozen 1
    have z2 : y34.cell? ⟨W.heap.size + 1, 2, none⟩ = some (.slice none 0 0) := KZ.cell (i := 2) (by decide)
    have fz2 : y34.frozen? ⟨W.heap.size + 1, 2, none⟩ = false := KZ.frozen 2
    have lz : W.heap.size + 1 < y34.heap.size := KZ.lt
    refine wpAnyH_ready (rs := [13]) (by kernel_rfl) (by simp) ?_
    refine AllReadyH.cons rfl (fun K hK => ?_) AllReadyH.nil
    go_simp
    refine hK.out _ _ ?_ (fun hHeld => ?_)
    · exact ⟨cell_box3 (by omega) (RR.out y34 BX.out).1 _ _ _, cell_box3 (by omega) (RR.out y34 BX.out).2.1 _ _ _, cell_box3 (by omega) (RR.out y34 BX.out).2.2 _ _ _⟩
    clear hK K
    refine wpAnyH_done (by kernel_rfl) ?_ _
    refine NoPanic.normal ?_
    go_wp2
    refine bodyPost_ret (v := .agg #[(Value.slice pa0 ls.length pk0), (Value.slice pa1 ss.length pk1), (Value.slice pa2 ts.length pk2)]) (by simp only [results, Try.results40]; go_simp) rfl (HFIN.out y34 _ _ _ BX.out OW0.out OW1.out OW2.out DD0_1.out DD0_2.out DD1_2.out)
  refine AllReadyH.cons rfl (fun K hK => ?_) ?_
  · go_simp
    obtain ⟨y35, ey⟩ : ∃ q, q = y0.alloc (.cells #[] 3) := ⟨_, rfl⟩
    rw [← ey]
    have hB : Below y0.heap.size y0 y35 := by rw [ey]; exact (Below.refl _ _).alloc (Nat.le_refl _) _
    have PB1 : Hid (Bare y35 y0.heap.size) := by show Bare _ _; rw [ey]; exact bare_new _
    have GE1 : Hid (X.heap.size ≤ y0.heap.size) := BX.out.size
    have BX : Hid (Below X.heap.size X y35) := BX.out.trans (hB.mono BX.out.size)
    clear ey hB
    refine hK.out _ _ ?_ (fun hHeld => ?_)
    · exact RR.out _ BX.out
    clear hK K
    try simp only [Act.put, List.setIfInBounds_toArray, List.set_cons_zero, List.set_cons_succ]
    refine wpAnyH_ready (rs := [0, 8]) (by kernel_rfl) (by simp) ?_
    refine AllReadyH.cons rfl (fun K hK => ?_) ?_
    · go_simp
      obtain ⟨y36, ey⟩ : ∃ q, q = y35.alloc (.cells #[] 3) := ⟨_, rfl⟩
      rw [← ey]
      have hB : Below y35.heap.size y35 y36 := by rw [ey]; exact (Below.refl _ _).alloc (Nat.le_refl _) _
      have PB0 : Hid (Bare y36 y35.heap.size) := by show Bare _ _; rw [ey]; exact bare_new _
      have GE0 : Hid (X.heap.size ≤ y35.heap.size) := BX.out.size
      have ne1_0 : Hid (y0.heap.size ≠ y35.heap.size) := Nat.ne_of_lt PB1.out.lt
      have PB1 : Hid (Bare y36 y0.heap.size) := (hB.block _ PB1.out.lt).trans PB1.out
      have BX : Hid (Below X.heap.size X y36) := BX.out.trans (hB.mono BX.out.size)
      clear ey hB
      refine hK.out _ _ ?_ (fun hHeld => ?_)
      · exact RR.out _ BX.out
      clear hK K
      try simp only [Act.put, List.setIfInBounds_toArray, List.set_cons_zero, List.set_cons_succ]
      refine wpAnyH_ready (rs := [3, 8]) (by kernel_rfl) (by simp) ?_
      refine AllReadyH.cons rfl (fun K hK => ?_) ?_
      · refine step_copy0 X y36 rfl _ _ rfl (y35.heap.size) rfl PB0.out GE0.out BX.out a0 l0 c0 rfl ls H0.out x0 J0.out ?_
        intro v0 y37 hown hC
        obtain ⟨pa0, pk0, ee0, _⟩ := hown.mine
        subst ee0
        have OW0 : Hid (Own y37 X.heap.size (Value.slice pa0 ls.length pk0) ls) := hown
        have DN0_1 : Hid (∀ q, (Value.slice pa0 ls.length pk0).ownBlock = some q → q ≠ y0.heap.size) := fun q e r => by
          rcases hC.at_ with s | s
          · rw [s] at e; exact ne1_0.out ((Option.some.inj e).trans r).symm
          · rw [s] at e; have := PB1.out.lt; have := Option.some.inj e; omega
        have PB1 : Hid (Bare y37 (y0.heap.size)) := hC.bare PB1.out ne1_0.out
        have BX : Hid (Below X.heap.size X y37) := hC.bel
        clear hown hC
        refine hK.out _ _ ?_ (fun hHeld => ?_)
        · exact RR.out _ BX.out
        clear hK K
        try simp only [Act.put, List.setIfInBounds_toArray, List.set_cons_zero, List.set_cons_succ]
        refine wpAnyH_ready (rs := [7, 8]) (by kernel_rfl) (by simp) ?_
        refine AllReadyH.cons rfl (fun K hK => ?_) ?_
        · refine step_copy0 X y37 rfl _ _ rfl (y0.heap.size) rfl PB1.out GE1.out BX.out a1 l1 c1 rfl ss H1.out x1 J1.out ?_
          intro v1 y38 hown hC
          obtain ⟨pa1, pk1, ee1, _⟩ := hown.mine
          subst ee1
          have OW1 : Hid (Own y38 X.heap.size (Value.slice pa1 ss.length pk1) ss) := hown
          have DD0_1 : Hid (∀ q, (Value.slice pa0 ls.length pk0).ownBlock = some q → (Value.slice pa1 ss.length pk1).ownBlock ≠ some q) := fun q e r => by
            rcases hC.at_ with s | s
            · rw [s] at r; exact DN0_1.out q e (Option.some.inj r).symm
            · rw [s] at r; have := (World.ownsRow.lt OW0.out q e).2; have := Option.some.inj r; omega
          have OW0 : Hid (Own y38 X.heap.size (Value.slice pa0 ls.length pk0) ls) := hC.own OW0.out DN0_1.out
          have BX : Hid (Below X.heap.size X y38) := hC.bel
          clear hown hC
          refine hK.out _ _ ?_ (fun hHeld => ?_)
          · exact RR.out _ BX.out
          clear hK K
          try simp only [Act.put, List.setIfInBounds_toArray, List.set_cons_zero, List.set_cons_succ]
          refine wpAnyH_ready (rs := [8]) (by kernel_rfl) (by simp) ?_
          refine AllReadyH.cons rfl (fun K hK => ?_) AllReadyH.nil
          go_simp
          obtain ⟨y39, ey⟩ : ∃ q, q = y38.alloc (.cells #[] 3) := ⟨_, rfl⟩
          rw [← ey]
          have hB : Below y38.heap.size y38 y39 := by rw [ey]; exact (Below.refl _ _).alloc (Nat.le_refl _) _
          have PB2 : Hid (Bare y39 y38.heap.size) := by show Bare _ _; rw [ey]; exact bare_new _
          have GE2 : Hid (X.heap.size ≤ y38.heap.size) := BX.out.size
          have DN0_2 : Hid (∀ q, (Value.slice pa0 ls.length pk0).ownBlock = some q → q ≠ y38.heap.size) := fun q e => Nat.ne_of_lt (World.ownsRow.lt OW0.out q e).2
          have OW0 : Hid (Own y39 X.heap.size (Value.slice pa0 ls.length pk0) ls) := row_below OW0.out hB
          have DN1_2 : Hid (∀ q, (Value.slice pa1 ss.length pk1).ownBlock = some q → q ≠ y38.heap.size) := fun q e => Nat.ne_of_lt (World.ownsRow.lt OW1.out q e).2
          have OW1 : Hid (Own y39 X.heap.size (Value.slice pa1 ss.length pk1) ss) := row_below OW1.out hB
          have BX : Hid (Below X.heap.size X y39) := BX.out.trans (hB.mono BX.out.size)
          clear ey hB
          refine hK.out _ _ ?_ (fun hHeld => ?_)
          · exact RR.out _ BX.out
          clear hK K
          try simp only [Act.put, List.setIfInBounds_toArray, List.set_cons_zero, List.set_cons_succ]
          refine wpAnyH_ready (rs := [11]) (by kernel_rfl) (by simp) ?_
          refine AllReadyH.cons rfl (fun K hK => ?_) AllReadyH.nil
          refine step_copy0 X y39 rfl _ _ rfl (y38.heap.size) rfl PB2.out GE2.out BX.out a2 l2 c2 rfl ts H2.out x2 J2.out ?_
          intro v2 y40 hown hC
          obtain ⟨pa2, pk2, ee2, _⟩ := hown.mine
          subst ee2
          have OW2 : Hid (Own y40 X.heap.size (Value.slice pa2 ts.length pk2) ts) := hown
          have DD0_2 : Hid (∀ q, (Value.slice pa0 ls.length pk0).ownBlock = some q → (Value.slice pa2 ts.length pk2).ownBlock ≠ some q) := fun q e r => by
            rcases hC.at_ with s | s
            · rw [s] at r; exact DN0_2.out q e (Option.some.inj r).symm
            · rw [s] at r; have := (World.ownsRow.lt OW0.out q e).2; have := Option.some.inj r; omega
          have OW0 : Hid (Own y40 X.heap.size (Value.slice pa0 ls.length pk0) ls) := hC.own OW0.out DN0_2.out
          have DD1_2 : Hid (∀ q, (Value.slice pa1 ss.length pk1).ownBlock = some q → (Value.slice pa2 ts.length pk2).ownBlock ≠ some q) := fun q e r => by
            rcases hC.at_ with s | s
            · rw [s] at r; exact DN1_2.out q e (Option.some.inj r).symm
            · rw [s] at r; have := (World.ownsRow.lt OW1.out q e).2; have := Option.some.inj r; omega
          have OW1 : Hid (Own y40 X.heap.size (Value.slice pa1 ss.length pk1) ss) := hC.own OW1.out DN1_2.out
          have BX : Hid (Below X.heap.size X y40) := hC.bel
          clear hown hC
          refine hK.out _ _ ?_ (fun hHeld => ?_)
          · exact RR.out _ BX.out
          clear hK K
          try simp only [Act.put, List.setIfInBounds_toArray, List.set_cons_zero, List.set_cons_succ]
          refine wpAnyH_take (i := 12) (v := ?v15) rfl (by kernel_rfl) (by kernel_rfl) (by kernel_rfl) (fun _ _ _ h => h) (Or.inl ⟨by rfl, ?hy15⟩) (by assumption) ?_
          case hy15 => (intro w hSw; (try dsimp only at hSw); go_simp; try with_reducible rfl)
          try simp only [Act.put, List.setIfInBounds_toArray, List.set_cons_zero, List.set_cons_succ]
          have KZ := HKZ.out y40 BX.out
          have z0 : y40.cell? ⟨W.heap.size + 1, 0, none⟩ = some (.slice none 0 0) := KZ.cell (i := 0) (by decide)
          have fz0 : y40.frozen? ⟨W.heap.size + 1, 0, none⟩ = false := KZ.frozen 0
          have z1 : y40.cell? ⟨W.heap.size + 1, 1, none⟩ = some (.slice none 0 0) := KZ.cell (i := 1) (by decide)
          have fz1 : y40.frozen? ⟨W.heap.size + 1, 1, none⟩ = false := KZ.frozen 1
          have z2 : y40.cell? ⟨W.heap.size + 1, 2, none⟩ = some (.slice none 0 0) := KZ.cell (i := 2) (by decide)
          have fz2 : y40.frozen? ⟨W.heap.size + 1, 2, none⟩ = false := KZ.frozen 2
          have lz : W.heap.size + 1 < y40.heap.size := KZ.lt
          refine wpAnyH_ready (rs := [13]) (by kernel_rfl) (by simp) ?_
          refine AllReadyH.cons rfl (fun K hK => ?_) AllReadyH.nil
          go_simp
          refine hK.out _ _ ?_ (fun hHeld => ?_)
          · exact ⟨cell_box3 (by omega) (RR.out y40 BX.out).1 _ _ _, cell_box3 (by omega) (RR.out y40 BX.out).2.1 _ _ _, cell_box3 (by omega) (RR.out y40 BX.out).2.2 _ _ _⟩
          clear hK K
          refine wpAnyH_done (by kernel_rfl) ?_ _
          refine NoPanic.normal ?_
          go_wp2
          refine bodyPost_ret (v := .agg #[(Value.slice pa0 ls.length pk0), (Value.slice pa1 ss.length pk1), (Value.slice pa2 ts.length pk2)]) (by simp only [results, Try.results40]; go_simp) rfl (HFIN.out y40 _ _ _ BX.out OW0.out OW1.out OW2.out DD0_1.out DD0_2.out DD1_2.out)
        refine AllReadyH.cons rfl (fun K hK => ?_) AllReadyH.nil
        go_simp
        obtain ⟨y41, ey⟩ : ∃ q, q = y37.alloc (.cells #[] 3) := ⟨_, rfl⟩
        rw [← ey]
        have hB : Below y37.heap.size y37 y41 := by rw [ey]; exact (Below.refl _ _).alloc (Nat.le_refl _) _
        have PB2 : Hid (Bare y41 y37.heap.size) := by show Bare _ _; rw [ey]; exact bare_new _
        have GE2 : Hid (X.heap.size ≤ y37.heap.size) := BX.out.size
        have ne1_2 : Hid (y0.heap.size ≠ y37.heap.size) := Nat.ne_of_lt PB1.out.lt
        have PB1 : Hid (Bare y41 y0.heap.size) := (hB.block _ PB1.out.lt).trans PB1.out
        have DN0_2 : Hid (∀ q, (Value.slice pa0 ls.length pk0).ownBlock = some q → q ≠ y37.heap.size) := fun q e => Nat.ne_of_lt (World.ownsRow.lt OW0.out q e).2
        have OW0 : Hid (Own y41 X.heap.size (Value.slice pa0 ls.length pk0) ls) := row_below OW0.out hB
        have BX : Hid (Below X.heap.size X y41) := BX.out.trans (hB.mono BX.out.size)
        clear ey hB
        refine hK.out _ _ ?_ (fun hHeld => ?_)
        · exact RR.out _ BX.out
        clear hK K
        try simp only [Act.put, List.setIfInBounds_toArray, List.set_cons_zero, List.set_cons_succ]
        refine wpAnyH_ready (rs := [7]) (by kernel_rfl) (by simp) ?_
        refine AllReadyH.cons rfl (fun K hK => ?_) AllReadyH.nil
        refine step_copy0 X y41 rfl _ _ rfl (y0.heap.size) rfl PB1.out GE1.out BX.out a1 l1 c1 rfl ss H1.out x1 J1.out ?_
        intro v1 y42 hown hC
        obtain ⟨pa1, pk1, ee1, _⟩ := hown.mine
        subst ee1
        have OW1 : Hid (Own y42 X.heap.size (Value.slice pa1 ss.length pk1) ss) := hown
        have DN1_2 : Hid (∀ q, (Value.slice pa1 ss.length pk1).ownBlock = some q → q ≠ y37.heap.size) := fun q e r => by
          rcases hC.at_ with s | s
          · rw [s] at e; exact (Ne.symm ne1_2.out) ((Option.some.inj e).trans r).symm
          · rw [s] at e; have := PB2.out.lt; have := Option.some.inj e; omega
        have PB2 : Hid (Bare y42 (y37.heap.size)) := hC.bare PB2.out (Ne.symm ne1_2.out)
        have DD0_1 : Hid (∀ q, (Value.slice pa0 ls.length pk0).ownBlock = some q → (Value.slice pa1 ss.length pk1).ownBlock ≠ some q) := fun q e r => by
          rcases hC.at_ with s | s
          · rw [s] at r; exact DN0_1.out q e (Option.some.inj r).symm
          · rw [s] at r; have := (World.ownsRow.lt OW0.out q e).2; have := Option.some.inj r; omega
        have OW0 : Hid (Own y42 X.heap.size (Value.slice pa0 ls.length pk0) ls) := hC.own OW0.out DN0_1.out
        have BX : Hid (Below X.heap.size X y42) := hC.bel
        clear hown hC
        refine hK.out _ _ ?_ (fun hHeld => ?_)
        · exact RR.out _ BX.out
        clear hK K
        try simp only [Act.put, List.setIfInBounds_toArray, List.set_cons_zero, List.set_cons_succ]
        refine wpAnyH_ready (rs := [11]) (by kernel_rfl) (by simp) ?_
        refine AllReadyH.cons rfl (fun K hK => ?_) AllReadyH.nil
        refine step_copy0 X y42 rfl _ _ rfl (y37.heap.size) rfl PB2.out GE2.out BX.out a2 l2 c2 rfl ts H2.out x2 J2.out ?_
        intro v2 y43 hown hC
        obtain ⟨pa2, pk2, ee2, _⟩ := hown.mine
        subst ee2
        have OW2 : Hid (Own y43 X.heap.size (Value.slice pa2 ts.length pk2) ts) := hown
        have DD0_2 : Hid (∀ q, (Value.slice pa0 ls.length pk0).ownBlock = some q → (Value.slice pa2 ts.length pk2).ownBlock ≠ some q) := fun q e r => by
          rcases hC.at_ with s | s
          · rw [s] at r; exact DN0_2.out q e (Option.some.inj r).symm
          · rw [s] at r; have := (World.ownsRow.lt OW0.out q e).2; have := Option.some.inj r; omega
        have OW0 : Hid (Own y43 X.heap.size (Value.slice pa0 ls.length pk0) ls) := hC.own OW0.out DN0_2.out
        have DD1_2 : Hid (∀ q, (Value.slice pa1 ss.length pk1).ownBlock = some q → (Value.slice pa2 ts.length pk2).ownBlock ≠ some q) := fun q e r => by
          rcases hC.at_ with s | s
          · rw [s] at r; exact DN1_2.out q e (Option.some.inj r).symm
          · rw [s] at r; have := (World.ownsRow.lt OW1.out q e).2; have := Option.some.inj r; omega
        have OW1 : Hid (Own y43 X.heap.size (Value.slice pa1 ss.length pk1) ss) := hC.own OW1.out DN1_2.out
        have BX : Hid (Below X.heap.size X y43) := hC.bel
        clear hown hC
        refine hK.out _ _ ?_ (fun hHeld => ?_)
        · exact RR.out _ BX.out
        clear hK K
        try simp only [Act.put, List.setIfInBounds_toArray, List.set_cons_zero, List.set_cons_succ]
        refine wpAnyH_take (i := 12) (v := ?v16) rfl (by kernel_rfl) (by kernel_rfl) (by kernel_rfl) (fun _ _ _ h => h) (Or.inl ⟨by rfl, ?hy16⟩) (by assumption) ?_
        case hy16 => (intro w hSw; (try dsimp only at hSw); go_simp; try with_reducible rfl)
        try simp only [Act.put, List.setIfInBounds_toArray, List.set_cons_zero, List.set_cons_succ]
        have KZ := HKZ.out y43 BX.out
        have z0 : y43.cell? ⟨W.heap.size + 1, 0, none⟩ = some (.slice none 0 0) := KZ.cell (i := 0) (by decide)
        have fz0 : y43.frozen? ⟨W.heap.size + 1, 0, none⟩ = false := KZ.frozen 0
        have z1 : y43.cell? ⟨W.heap.size + 1, 1, none⟩ = some (.slice none 0 0) := KZ.cell (i := 1) (by decide)
        have fz1 : y43.frozen? ⟨W.heap.size + 1, 1, none⟩ = false := KZ.frozen 1
        have z2 : y43.cell? ⟨W.heap.size + 1, 2, none⟩ = some (.slice none 0 0) := KZ.cell (i := 2) (by decide)
        have fz2 : y43.frozen? ⟨W.heap.size + 1, 2, none⟩ = false := KZ.frozen 2
        have lz : W.heap.size + 1 < y43.heap.size := KZ.lt
        refine wpAnyH_ready (rs := [13]) (by kernel_rfl) (by simp) ?_
        refine AllReadyH.cons rfl (fun K hK => ?_) AllReadyH.nil
        go_simp
        refine hK.out _ _ ?_ (fun hHeld => ?_)
        · exact ⟨cell_box3 (by omega) (RR.out y43 BX.out).1 _ _ _, cell_box3 (by omega) (RR.out y43 BX.out).2.1 _ _ _, cell_box3 (by omega) (RR.out y43 BX.out).2.2 _ _ _⟩
        clear hK K
        refine wpAnyH_done (by kernel_rfl) ?_ _
        refine NoPanic.normal ?_
        go_wp2
        refine bodyPost_ret (v := .agg #[(Value.slice pa0 ls.length pk0), (Value.slice pa1 ss.length pk1), (Value.slice pa2 ts.length pk2)]) (by simp only [results, Try.results40]; go_simp) rfl (HFIN.out y43 _ _ _ BX.out OW0.out OW1.out OW2.out DD0_1.out DD0_2.out DD1_2.out)
      refine AllReadyH.cons rfl (fun K hK => ?_) AllReadyH.nil
      go_simp
      obtain ⟨y44, ey⟩ : ∃ q, q = y36.alloc (.cells #[] 3) := ⟨_, rfl⟩
      rw [← ey]
      have hB : Below y36.heap.size y36 y44 := by rw [ey]; exact (Below.refl _ _).alloc (Nat.le_refl _) _
      have PB2 : Hid (Bare y44 y36.heap.size) := by show Bare _ _; rw [ey]; exact bare_new _
      have GE2 : Hid (X.heap.size ≤ y36.heap.size) := BX.out.size
      have ne1_2 : Hid (y0.heap.size ≠ y36.heap.size) := Nat.ne_of_lt PB1.out.lt
      have PB1 : Hid (Bare y44 y0.heap.size) := (hB.block _ PB1.out.lt).trans PB1.out
      have ne0_2 : Hid (y35.heap.size ≠ y36.heap.size) := Nat.ne_of_lt PB0.out.lt
      have PB0 : Hid (Bare y44 y35.heap.size) := (hB.block _ PB0.out.lt).trans PB0.out
      have BX : Hid (Below X.heap.size X y44) := BX.out.trans (hB.mono BX.out.size)
      clear ey hB
      refine hK.out _ _ ?_ (fun hHeld => ?_)
      · exact RR.out _ BX.out
      clear hK K
      try simp only [Act.put, List.setIfInBounds_toArray, List.set_cons_zero, List.set_cons_succ]
      refine wpAnyH_ready (rs := [3]) (by kernel_rfl) (by simp) ?_
      refine AllReadyH.cons rfl (fun K hK => ?_) AllReadyH.nil
      refine step_copy0 X y44 rfl _ _ rfl (y35.heap.size) rfl PB0.out GE0.out BX.out a0 l0 c0 rfl ls H0.out x0 J0.out ?_
      intro v0 y45 hown hC
      obtain ⟨pa0, pk0, ee0, _⟩ := hown.mine
      subst ee0
      have OW0 : Hid (Own y45 X.heap.size (Value.slice pa0 ls.length pk0) ls) := hown
      have DN0_1 : Hid (∀ q, (Value.slice pa0 ls.length pk0).ownBlock = some q → q ≠ y0.heap.size) := fun q e r => by
        rcases hC.at_ with s | s
        · rw [s] at e; exact ne1_0.out ((Option.some.inj e).trans r).symm
        · rw [s] at e; have := PB1.out.lt; have := Option.some.inj e; omega
      have PB1 : Hid (Bare y45 (y0.heap.size)) := hC.bare PB1.out ne1_0.out
      have DN0_2 : Hid (∀ q, (Value.slice pa0 ls.length pk0).ownBlock = some q → q ≠ y36.heap.size) := fun q e r => by
        rcases hC.at_ with s | s
        · rw [s] at e; exact (Ne.symm ne0_2.out) ((Option.some.inj e).trans r).symm
        · rw [s] at e; have := PB2.out.lt; have := Option.some.inj e; omega
      have PB2 : Hid (Bare y45 (y36.heap.size)) := hC.bare PB2.out (Ne.symm ne0_2.out)
      have BX : Hid (Below X.heap.size X y45) := hC.bel
      clear hown hC
      refine hK.out _ _ ?_ (fun hHeld => ?_)
      · exact RR.out _ BX.out
      clear hK K
      try simp only [Act.put, List.setIfInBounds_toArray, List.set_cons_zero, List.set_cons_succ]
      refine wpAnyH_ready (rs := [7]) (by kernel_rfl) (by simp) ?_
      refine AllReadyH.cons rfl (fun K hK => ?_) AllReadyH.nil
      refine step_copy0 X y45 rfl _ _ rfl (y0.heap.size) rfl PB1.out GE1.out BX.out a1 l1 c1 rfl ss H1.out x1 J1.out ?_
      intro v1 y46 hown hC
      obtain ⟨pa1, pk1, ee1, _⟩ := hown.mine
      subst ee1
      have OW1 : Hid (Own y46 X.heap.size (Value.slice pa1 ss.length pk1) ss) := hown
      have DN1_2 : Hid (∀ q, (Value.slice pa1 ss.length pk1).ownBlock = some q → q ≠ y36.heap.size) := fun q e r => by
        rcases hC.at_ with s | s
        · rw [s] at e; exact (Ne.symm ne1_2.out) ((Option.some.inj e).trans r).symm
        · rw [s] at e; have := PB2.out.lt; have := Option.some.inj e; omega
      have PB2 : Hid (Bare y46 (y36.heap.size)) := hC.bare PB2.out (Ne.symm ne1_2.out)
      have DD0_1 : Hid (∀ q, (Value.slice pa0 ls.length pk0).ownBlock = some q → (Value.slice pa1 ss.length pk1).ownBlock ≠ some q) := fun q e r => by
        rcases hC.at_ with s | s
        · rw [s] at r; exact DN0_1.out q e (Option.some.inj r).symm
        · rw [s] at r; have := (World.ownsRow.lt OW0.out q e).2; have := Option.some.inj r; omega
      have OW0 : Hid (Own y46 X.heap.size (Value.slice pa0 ls.length pk0) ls) := hC.own OW0.out DN0_1.out
      have BX : Hid (Below X.heap.size X y46) := hC.bel
      clear hown hC
      refine hK.out _ _ ?_ (fun hHeld => ?_)
      · exact RR.out _ BX.out
      clear hK K
      try simp only [Act.put, List.setIfInBounds_toArray, List.set_cons_zero, List.set_cons_succ]
      refine wpAnyH_ready (rs := [11]) (by kernel_rfl) (by simp) ?_
      refine AllReadyH.cons rfl (fun K hK => ?_) AllReadyH.nil
      refine step_copy0 X y46 rfl _ _ rfl (y36.heap.size) rfl PB2.out GE2.out BX.out a2 l2 c2 rfl ts H2.out x2 J2.out ?_
      intro v2 y47 hown hC
      obtain ⟨pa2, pk2, ee2, _⟩ := hown.mine
      subst ee2
      have OW2 : Hid (Own y47 X.heap.size (Value.slice pa2 ts.length pk2) ts) := hown
      have DD0_2 : Hid (∀ q, (Value.slice pa0 ls.length pk0).ownBlock = some q → (Value.slice pa2 ts.length pk2).ownBlock ≠ some q) := fun q e r => by
        rcases hC.at_ with s | s
        · rw [s] at r; exact DN0_2.out q e (Option.some.inj r).symm
        · rw [s] at r; have := (World.ownsRow.lt OW0.out q e).2; have := Option.some.inj r; omega
      have OW0 : Hid (Own y47 X.heap.size (Value.slice pa0 ls.length pk0) ls) := hC.own OW0.out DN0_2.out
      have DD1_2 : Hid (∀ q, (Value.slice pa1 ss.length pk1).ownBlock = some q → (Value.slice pa2 ts.length pk2).ownBlock ≠ some q) := fun q e r => by
        rcases hC.at_ with s | s
        · rw [s] at r; exact DN1_2.out q e (Option.some.inj r).symm
        · rw [s] at r; have := (World.ownsRow.lt OW1.out q e).2; have := Option.some.inj r; omega
      have OW1 : Hid (Own y47 X.heap.size (Value.slice pa1 ss.length pk1) ss) := hC.own OW1.out DN1_2.out
      have BX : Hid (Below X.heap.size X y47) := hC.bel
      clear hown hC
      refine hK.out _ _ ?_ (fun hHeld => ?_)
      · exact RR.out _ BX.out
      clear hK K
      try simp only [Act.put, List.setIfInBounds_toArray, List.set_cons_zero, List.set_cons_succ]
      refine wpAnyH_take (i := 12) (v := ?v17) rfl (by kernel_rfl) (by kernel_rfl) (by kernel_rfl) (fun _ _ _ h => h) (Or.inl ⟨by rfl, ?hy17⟩) (by assumption) ?_
      case hy17 => (intro w hSw; (try dsimp only at hSw); go_simp; try with_reducible rfl)
      try simp only [Act.put, List.setIfInBounds_toArray, List.set_cons_zero, List.set_cons_succ]
      have KZ := HKZ.out y47 BX.out
      have z0 : y47.cell? ⟨W.heap.size + 1, 0, none⟩ = some (.slice none 0 0) := KZ.cell (i := 0) (by decide)
      have fz0 : y47.frozen? ⟨W.heap.size + 1, 0, none⟩ = false := KZ.frozen 0
      have z1 : y47.cell? ⟨W.heap.size + 1, 1, none⟩ = some (.slice none 0 0) := KZ.cell (i := 1) (by decide)
      have fz1 : y47.frozen? ⟨W.heap.size + 1, 1, none⟩ = false := KZ.frozen 1
      have z2 : y47.cell? ⟨W.heap.size + 1, 2, none⟩ = some (.slice none 0 0) := KZ.cell (i := 2) (by decide)
      have fz2 : y47.frozen? ⟨W.heap.size + 1, 2, none⟩ = false := KZ.frozen 2
      have lz : W.heap.size + 1 < y47.heap.size := KZ.lt
      refine wpAnyH_ready (rs := [13]) (by kernel_rfl) (by simp) ?_
      refine AllReadyH.cons rfl (fun K hK => ?_) AllReadyH.nil
      go_simp
      refine hK.out _ _ ?_ (fun hHeld => ?_)
      · exact ⟨cell_box3 (by omega) (RR.out y47 BX.out).1 _ _ _, cell_box3 (by omega) (RR.out y47 BX.out).2.1 _ _ _, cell_box3 (by omega) (RR.out y47 BX.out).2.2 _ _ _⟩
      clear hK K
      refine wpAnyH_done (by kernel_rfl) ?_ _
      refine NoPanic.normal ?_
      go_wp2
      refine bodyPost_ret (v := .agg #[(Value.slice pa0 ls.length pk0), (Value.slice pa1 ss.length pk1), (Value.slice pa2 ts.length pk2)]) (by simp only [results, Try.results40]; go_simp) rfl (HFIN.out y47 _ _ _ BX.out OW0.out OW1.out OW2.out DD0_1.out DD0_2.out DD1_2.out)
    refine AllReadyH.cons rfl (fun K hK => ?_) AllReadyH.nil
    go_simp
    obtain ⟨y48, ey⟩ : ∃ q, q = y35.alloc (.cells #[] 3) := ⟨_, rfl⟩
    rw [← ey]
    have hB : Below y35.heap.size y35 y48 := by rw [ey]; exact (Below.refl _ _).alloc (Nat.le_refl _) _
    have PB2 : Hid (Bare y48 y35.heap.size) := by show Bare _ _; rw [ey]; exact bare_new _
    have GE2 : Hid (X.heap.size ≤ y35.heap.size) := BX.out.size
    have ne1_2 : Hid (y0.heap.size ≠ y35.heap.size) := Nat.ne_of_lt PB1.out.lt
    have PB1 : Hid (Bare y48 y0.heap.size) := (hB.block _ PB1.out.lt).trans PB1.out
    have BX : Hid (Below X.heap.size X y48) := BX.out.trans (hB.mono BX.out.size)
    clear ey hB
    refine hK.out _ _ ?_ (fun hHeld => ?_)
    · exact RR.out _ BX.out
    clear hK K
    try simp only [Act.put, List.setIfInBounds_toArray, List.set_cons_zero, List.set_cons_succ]
    refine wpAnyH_ready (rs := [0]) (by kernel_rfl) (by simp) ?_
    refine AllReadyH.cons rfl (fun K hK => ?_) AllReadyH.nil
    go_simp
    obtain ⟨y49, ey⟩ : ∃ q, q = y48.alloc (.cells #[] 3) := ⟨_, rfl⟩
    rw [← ey]
    have hB : Below y48.heap.size y48 y49 := by rw [ey]; exact (Below.refl _ _).alloc (Nat.le_refl _) _
    have PB0 : Hid (Bare y49 y48.heap.size) := by show Bare _ _; rw [ey]; exact bare_new _
    have GE0 : Hid (X.heap.size ≤ y48.heap.size) := BX.out.size
    have ne1_0 : Hid (y0.heap.size ≠ y48.heap.size) := Nat.ne_of_lt PB1.out.lt
    have PB1 : Hid (Bare y49 y0.heap.size) := (hB.block _ PB1.out.lt).trans PB1.out
    have ne2_0 : Hid (y35.heap.size ≠ y48.heap.size) := Nat.ne_of_lt PB2.out.lt
    have PB2 : Hid (Bare y49 y35.heap.size) := (hB.block _ PB2.out.lt).trans PB2.out
    have BX : Hid (Below X.heap.size X y49) := BX.out.trans (hB.mono BX.out.size)
    clear ey hB
    refine hK.out _ _ ?_ (fun hHeld => ?_)
    · exact RR.out _ BX.out
    clear hK K
    try simp only [Act.put, List.setIfInBounds_toArray, List.set_cons_zero, List.set_cons_succ]
    refine wpAnyH_ready (rs := [3]) (by kernel_rfl) (by simp) ?_
    refine AllReadyH.cons rfl (fun K hK => ?_) AllReadyH.nil
    refine step_copy0 X y49 rfl _ _ rfl (y48.heap.size) rfl PB0.out GE0.out BX.out a0 l0 c0 rfl ls H0.out x0 J0.out ?_
    intro v0 y50 hown hC
    obtain ⟨pa0, pk0, ee0, _⟩ := hown.mine
    subst ee0
    have OW0 : Hid (Own y50 X.heap.size (Value.slice pa0 ls.length pk0) ls) := hown
    have DN0_1 : Hid (∀ q, (Value.slice pa0 ls.length pk0).ownBlock = some q → q ≠ y0.heap.size) := fun q e r => by
      rcases hC.at_ with s | s
      · rw [s] at e; exact ne1_0.out ((Option.some.inj e).trans r).symm
      · rw [s] at e; have := PB1.out.lt; have := Option.some.inj e; omega
    have PB1 : Hid (Bare y50 (y0.heap.size)) := hC.bare PB1.out ne1_0.out
    have DN0_2 : Hid (∀ q, (Value.slice pa0 ls.length pk0).ownBlock = some q → q ≠ y35.heap.size) := fun q e r => by
      rcases hC.at_ with s | s
      · rw [s] at e; exact ne2_0.out ((Option.some.inj e).trans r).symm
      · rw [s] at e; have := PB2.out.lt; have := Option.some.inj e; omega
    have PB2 : Hid (Bare y50 (y35.heap.size)) := hC.bare PB2.out ne2_0.out
    have BX : Hid (Below X.heap.size X y50) := hC.bel
    clear hown hC
    refine hK.out _ _ ?_ (fun hHeld => ?_)
    · exact RR.out _ BX.out
    clear hK K
    try simp only [Act.put, List.setIfInBounds_toArray, List.set_cons_zero, List.set_cons_succ]
    refine wpAnyH_ready (rs := [7]) (by kernel_rfl) (by simp) ?_
    refine AllReadyH.cons rfl (fun K hK => ?_) AllReadyH.nil
    refine step_copy0 X y50 rfl _ _ rfl (y0.heap.size) rfl PB1.out GE1.out BX.out a1 l1 c1 rfl ss H1.out x1 J1.out ?_
    intro v1 y51 hown hC
    obtain ⟨pa1, pk1, ee1, _⟩ := hown.mine
    subst ee1
    have OW1 : Hid (Own y51 X.heap.size (Value.slice pa1 ss.length pk1) ss) := hown
    have DN1_2 : Hid (∀ q, (Value.slice pa1 ss.length pk1).ownBlock = some q → q ≠ y35.heap.size) := fun q e r => by
      rcases hC.at_ with s | s
      · rw [s] at e; exact (Ne.symm ne1_2.out) ((Option.some.inj e).trans r).symm
      · rw [s] at e; have := PB2.out.lt; have := Option.some.inj e; omega
    have PB2 : Hid (Bare y51 (y35.heap.size)) := hC.bare PB2.out (Ne.symm ne1_2.out)
    have DD0_1 : Hid (∀ q, (Value.slice pa0 ls.length pk0).ownBlock = some q → (Value.slice pa1 ss.length pk1).ownBlock ≠ some q) := fun q e r => by
      rcases hC.at_ with s | s
      · rw [s] at r; exact DN0_1.out q e (Option.some.inj r).symm
      · rw [s] at r; have := (World.ownsRow.lt OW0.out q e).2; have := Option.some.inj r; omega
    have OW0 : Hid (Own y51 X.heap.size (Value.slice pa0 ls.length pk0) ls) := hC.own OW0.out DN0_1.out
    have BX : Hid (Below X.heap.size X y51) := hC.bel
    clear hown hC
    refine hK.out _ _ ?_ (fun hHeld => ?_)
    · exact RR.out _ BX.out
    clear hK K
    try simp only [Act.put, List.setIfInBounds_toArray, List.set_cons_zero, List.set_cons_succ]
    refine wpAnyH_ready (rs := [11]) (by kernel_rfl) (by simp) ?_
    refine AllReadyH.cons rfl (fun K hK => ?_) AllReadyH.nil
    refine step_copy0 X y51 rfl _ _ rfl (y35.heap.size) rfl PB2.out GE2.out BX.out a2 l2 c2 rfl ts H2.out x2 J2.out ?_
    intro v2 y52 hown hC
    obtain ⟨pa2, pk2, ee2, _⟩ := hown.mine
    subst ee2
    have OW2 : Hid (Own y52 X.heap.size (Value.slice pa2 ts.length pk2) ts) := hown
    have DD0_2 : Hid (∀ q, (Value.slice pa0 ls.length pk0).ownBlock = some q → (Value.slice pa2 ts.length pk2).ownBlock ≠ some q) := fun q e r => by
      rcases hC.at_ with s | s
      · rw [s] at r; exact DN0_2.out q e (Option.some.inj r).symm
      · rw [s] at r; have := (World.ownsRow.lt OW0.out q e).2; have := Option.some.inj r; omega
    have OW0 : Hid (Own y52 X.heap.size (Value.slice pa0 ls.length pk0) ls) := hC.own OW0.out DN0_2.out
    have DD1_2 : Hid (∀ q, (Value.slice pa1 ss.length pk1).ownBlock = some q → (Value.slice pa2 ts.length pk2).ownBlock ≠ some q) := fun q e r => by
      rcases hC.at_ with s | s
      · rw [s] at r; exact DN1_2.out q e (Option.some.inj r).symm
      · rw [s] at r; have := (World.ownsRow.lt OW1.out q e).2; have := Option.some.inj r; omega
    have OW1 : Hid (Own y52 X.heap.size (Value.slice pa1 ss.length pk1) ss) := hC.own OW1.out DN1_2.out
    have BX : Hid (Below X.heap.size X y52) := hC.bel
    clear hown hC
    refine hK.out _ _ ?_ (fun hHeld => ?_)
    · exact RR.out _ BX.out
    clear hK K
    try simp only [Act.put, List.setIfInBounds_toArray, List.set_cons_zero, List.set_cons_succ]
    refine wpAnyH_take (i := 12) (v := ?v18) rfl (by kernel_rfl) (by kernel_rfl) (by kernel_rfl) (fun _ _ _ h => h) (Or.inl ⟨by rfl, ?hy18⟩) (by assumption) ?_
    case hy18 => (intro w hSw; (try dsimp only at hSw); go_simp; try with_reducible rfl)
    try simp only [Act.put, List.setIfInBounds_toArray, List.set_cons_zero, List.set_cons_succ]
    have KZ := HKZ.out y52 BX.out
    have z0 : y52.cell? ⟨W.heap.size + 1, 0, none⟩ = some (.slice none 0 0) := KZ.cell (i := 0) (by decide)
    have fz0 : y52.frozen? ⟨W.heap.size + 1, 0, none⟩ = false := KZ.frozen 0
    have z1 : y52.cell? ⟨W.heap.size + 1, 1, none⟩ = some (.slice none 0 0) := KZ.cell (i := 1) (by decide)
    have fz1 : y52.frozen? ⟨W.heap.size + 1, 1, none⟩ = false := KZ.frozen 1
    have z2 : y52.cell? ⟨W.heap.size + 1, 2, none⟩ = some (.slice none 0 0) := KZ.cell (i := 2) (by decide)
    have fz2 : y52.frozen? ⟨W.heap.size + 1, 2, none⟩ = false := KZ.frozen 2
    have lz : W.heap.size + 1 < y52.heap.size := KZ.lt
    refine wpAnyH_ready (rs := [13]) (by kernel_rfl) (by simp) ?_
    refine AllReadyH.cons rfl (fun K hK => ?_) AllReadyH.nil
    go_simp
    refine hK.out _ _ ?_ (fun hHeld => ?_)
    · exact ⟨cell_box3 (by omega) (RR.out y52 BX.out).1 _ _ _, cell_box3 (by omega) (RR.out y52 BX.out).2.1 _ _ _, cell_box3 (by omega) (RR.out y52 BX.out).2.2 _ _ _⟩
    clear hK K
    refine wpAnyH_done (by kernel_rfl) ?_ _
    refine NoPanic.normal ?_
    go_wp2
    refine bodyPost_ret (v := .agg #[(Value.slice pa0 ls.length pk0), (Value.slice pa1 ss.length pk1), (Value.slice pa2 ts.length pk2)]) (by simp only [results, Try.results40]; go_simp) rfl (HFIN.out y52 _ _ _ BX.out OW0.out OW1.out OW2.out DD0_1.out DD0_2.out DD1_2.out)
  refine AllReadyH.cons rfl (fun K hK => ?_) AllReadyH.nil
  go_simp
  obtain ⟨y53, ey⟩ : ∃ q, q = y0.alloc (.cells #[] 3) := ⟨_, rfl⟩
  rw [← ey]
  have hB : Below y0.heap.size y0 y53 := by rw [ey]; exact (Below.refl _ _).alloc (Nat.le_refl _) _
  have PB2 : Hid (Bare y53 y0.heap.size) := by show Bare _ _; rw [ey]; exact bare_new _
  have GE2 : Hid (X.heap.size ≤ y0.heap.size) := BX.out.size
  have BX : Hid (Below X.heap.size X y53) := BX.out.trans (hB.mono BX.out.size)
  clear ey hB
  refine hK.out _ _ ?_ (fun hHeld => ?_)
  · exact RR.out _ BX.out
  clear hK K
  try simp only [Act.put, List.setIfInBounds_toArray, List.set_cons_zero, List.set_cons_succ]
  refine wpAnyH_ready (rs := [0, 4]) (by kernel_rfl) (by simp) ?_
  refine AllReadyH.cons rfl (fun K hK => ?_) ?_
  · go_simp
    obtain ⟨y54, ey⟩ : ∃ q, q = y53.alloc (.cells #[] 3) := ⟨_, rfl⟩
    rw [← ey]
    have hB : Below y53.heap.size y53 y54 := by rw [ey]; exact (Below.refl _ _).alloc (Nat.le_refl _) _
    have PB0 : Hid (Bare y54 y53.heap.size) := by show Bare _ _; rw [ey]; exact bare_new _
    have GE0 : Hid (X.heap.size ≤ y53.heap.size) := BX.out.size
    have ne2_0 : Hid (y0.heap.size ≠ y53.heap.size) := Nat.ne_of_lt PB2.out.lt
    have PB2 : Hid (Bare y54 y0.heap.size) := (hB.block _ PB2.out.lt).trans PB2.out
    have BX : Hid (Below X.heap.size X y54) := BX.out.trans (hB.mono BX.out.size)
    clear ey hB
    refine hK.out _ _ ?_ (fun hHeld => ?_)
    · exact RR.out _ BX.out
    clear hK K
    try simp only [Act.put, List.setIfInBounds_toArray, List.set_cons_zero, List.set_cons_succ]
    refine wpAnyH_ready (rs := [3, 4]) (by kernel_rfl) (by simp) ?_
    refine AllReadyH.cons rfl (fun K hK => ?_) ?_
    · refine step_copy0 X y54 rfl _ _ rfl (y53.heap.size) rfl PB0.out GE0.out BX.out a0 l0 c0 rfl ls H0.out x0 J0.out ?_
      intro v0 y55 hown hC
      obtain ⟨pa0, pk0, ee0, _⟩ := hown.mine
      subst ee0
      have OW0 : Hid (Own y55 X.heap.size (Value.slice pa0 ls.length pk0) ls) := hown
      have DN0_2 : Hid (∀ q, (Value.slice pa0 ls.length pk0).ownBlock = some q → q ≠ y0.heap.size) := fun q e r => by
        rcases hC.at_ with s | s
        · rw [s] at e; exact ne2_0.out ((Option.some.inj e).trans r).symm
        · rw [s] at e; have := PB2.out.lt; have := Option.some.inj e; omega
      have PB2 : Hid (Bare y55 (y0.heap.size)) := hC.bare PB2.out ne2_0.out
      have BX : Hid (Below X.heap.size X y55) := hC.bel
      clear hown hC
      refine hK.out _ _ ?_ (fun hHeld => ?_)
      · exact RR.out _ BX.out
      clear hK K
      try simp only [Act.put, List.setIfInBounds_toArray, List.set_cons_zero, List.set_cons_succ]
      refine wpAnyH_ready (rs := [4]) (by kernel_rfl) (by simp) ?_
      refine AllReadyH.cons rfl (fun K hK => ?_) AllReadyH.nil
      go_simp
      obtain ⟨y56, ey⟩ : ∃ q, q = y55.alloc (.cells #[] 3) := ⟨_, rfl⟩
      rw [← ey]
      have hB : Below y55.heap.size y55 y56 := by rw [ey]; exact (Below.refl _ _).alloc (Nat.le_refl _) _
      have PB1 : Hid (Bare y56 y55.heap.size) := by show Bare _ _; rw [ey]; exact bare_new _
      have GE1 : Hid (X.heap.size ≤ y55.heap.size) := BX.out.size
      have ne2_1 : Hid (y0.heap.size ≠ y55.heap.size) := Nat.ne_of_lt PB2.out.lt
      have PB2 : Hid (Bare y56 y0.heap.size) := (hB.block _ PB2.out.lt).trans PB2.out
      have DN0_1 : Hid (∀ q, (Value.slice pa0 ls.length pk0).ownBlock = some q → q ≠ y55.heap.size) := fun q e => Nat.ne_of_lt (World.ownsRow.lt OW0.out q e).2
      have OW0 : Hid (Own y56 X.heap.size (Value.slice pa0 ls.length pk0) ls) := row_below OW0.out hB
      have BX : Hid (Below X.heap.size X y56) := BX.out.trans (hB.mono BX.out.size)
      clear ey hB
      refine hK.out _ _ ?_ (fun hHeld => ?_)
      · exact RR.out _ BX.out
      clear hK K
      try simp only [Act.put, List.setIfInBounds_toArray, List.set_cons_zero, List.set_cons_succ]
      refine wpAnyH_ready (rs := [7]) (by kernel_rfl) (by simp) ?_
      refine AllReadyH.cons rfl (fun K hK => ?_) AllReadyH.nil
      refine step_copy0 X y56 rfl _ _ rfl (y55.heap.size) rfl PB1.out GE1.out BX.out a1 l1 c1 rfl ss H1.out x1 J1.out ?_
      intro v1 y57 hown hC
      obtain ⟨pa1, pk1, ee1, _⟩ := hown.mine
      subst ee1
      have OW1 : Hid (Own y57 X.heap.size (Value.slice pa1 ss.length pk1) ss) := hown
      have DN1_2 : Hid (∀ q, (Value.slice pa1 ss.length pk1).ownBlock = some q → q ≠ y0.heap.size) := fun q e r => by
        rcases hC.at_ with s | s
        · rw [s] at e; exact ne2_1.out ((Option.some.inj e).trans r).symm
        · rw [s] at e; have := PB2.out.lt; have := Option.some.inj e; omega
      have PB2 : Hid (Bare y57 (y0.heap.size)) := hC.bare PB2.out ne2_1.out
      have DD0_1 : Hid (∀ q, (Value.slice pa0 ls.length pk0).ownBlock = some q → (Value.slice pa1 ss.length pk1).ownBlock ≠ some q) := fun q e r => by
        rcases hC.at_ with s | s
        · rw [s] at r; exact DN0_1.out q e (Option.some.inj r).symm
        · rw [s] at r; have := (World.ownsRow.lt OW0.out q e).2; have := Option.some.inj r; omega
      have OW0 : Hid (Own y57 X.heap.size (Value.slice pa0 ls.length pk0) ls) := hC.own OW0.out DN0_1.out
      have BX : Hid (Below X.heap.size X y57) := hC.bel
      clear hown hC
      refine hK.out _ _ ?_ (fun hHeld => ?_)
      · exact RR.out _ BX.out
      clear hK K
      try simp only [Act.put, List.setIfInBounds_toArray, List.set_cons_zero, List.set_cons_succ]
      refine wpAnyH_ready (rs := [11]) (by kernel_rfl) (by simp) ?_
      refine AllReadyH.cons rfl (fun K hK => ?_) AllReadyH.nil
      refine step_copy0 X y57 rfl _ _ rfl (y0.heap.size) rfl PB2.out GE2.out BX.out a2 l2 c2 rfl ts H2.out x2 J2.out ?_
      intro v2 y58 hown hC
      obtain ⟨pa2, pk2, ee2, _⟩ := hown.mine
      subst ee2
      have OW2 : Hid (Own y58 X.heap.size (Value.slice pa2 ts.length pk2) ts) := hown
      have DD0_2 : Hid (∀ q, (Value.slice pa0 ls.length pk0).ownBlock = some q → (Value.slice pa2 ts.length pk2).ownBlock ≠ some q) := fun q e r => by
        rcases hC.at_ with s | s
        · rw [s] at r; exact DN0_2.out q e (Option.some.inj r).symm
        · rw [s] at r; have := (World.ownsRow.lt OW0.out q e).2; have := Option.some.inj r; omega
      have OW0 : Hid (Own y58 X.heap.size (Value.slice pa0 ls.length pk0) ls) := hC.own OW0.out DN0_2.out
      have DD1_2 : Hid (∀ q, (Value.slice pa1 ss.length pk1).ownBlock = some q → (Value.slice pa2 ts.length pk2).ownBlock ≠ some q) := fun q e r => by
        rcases hC.at_ with s | s
        · rw [s] at r; exact DN1_2.out q e (Option.some.inj r).symm
        · rw [s] at r; have := (World.ownsRow.lt OW1.out q e).2; have := Option.some.inj r; omega
      have OW1 : Hid (Own y58 X.heap.size (Value.slice pa1 ss.length pk1) ss) := hC.own OW1.out DN1_2.out
      have BX : Hid (Below X.heap.size X y58) := hC.bel
      clear hown hC
      refine hK.out _ _ ?_ (fun hHeld => ?_)
      · exact RR.out _ BX.out
      clear hK K
      try simp only [Act.put, List.setIfInBounds_toArray, List.set_cons_zero, List.set_cons_succ]
      refine wpAnyH_take (i := 12) (v := ?v19) rfl (by kernel_rfl) (by kernel_rfl) (by kernel_rfl) (fun _ _ _ h => h) (Or.inl ⟨by rfl, ?hy19⟩) (by assumption) ?_
      case hy19 => (intro w hSw; (try dsimp only at hSw); go_simp; try with_reducible rfl)
      try simp only [Act.put, List.setIfInBounds_toArray, List.set_cons_zero, List.set_cons_succ]
      have KZ := HKZ.out y58 BX.out
      have z0 : y58.cell? ⟨W.heap.size + 1, 0, none⟩ = some (.slice none 0 0) := KZ.cell (i := 0) (by decide)
      have fz0 : y58.frozen? ⟨W.heap.size + 1, 0, none⟩ = false := KZ.frozen 0
      have z1 : y58.cell? ⟨W.heap.size + 1, 1, none⟩ = some (.slice none 0 0) := KZ.cell (i := 1) (by decide)
      have fz1 : y58.frozen? ⟨W.heap.size + 1, 1, none⟩ = false := KZ.frozen 1
      have z2 : y58.cell? ⟨W.heap.size + 1, 2, none⟩ = some (.slice none 0 0) := KZ.cell (i := 2) (by decide)
      have fz2 : y58.frozen? ⟨W.heap.size + 1, 2, none⟩ = false := KZ.frozen 2
      have lz : W.heap.size + 1 < y58.heap.size := KZ.lt
      refine wpAnyH_ready (rs := [13]) (by kernel_rfl) (by simp) ?_
      refine AllReadyH.cons rfl (fun K hK => ?_) AllReadyH.nil
      go_simp
      refine hK.out _ _ ?_ (fun hHeld => ?_)
      · exact ⟨cell_box3 (by omega) (RR.out y58 BX.out).1 _ _ _, cell_box3 (by omega) (RR.out y58 BX.out).2.1 _ _ _, cell_box3 (by omega) (RR.out y58 BX.out).2.2 _ _ _⟩
      clear hK K
      refine wpAnyH_done (by kernel_rfl) ?_ _
      refine NoPanic.normal ?_
      go_wp2
      refine bodyPost_ret (v := .agg #[(Value.slice pa0 ls.length pk0), (Value.slice pa1 ss.length pk1), (Value.slice pa2 ts.length pk2)]) (by simp only [results, Try.results40]; go_simp) rfl (HFIN.out y58 _ _ _ BX.out OW0.out OW1.out OW2.out DD0_1.out DD0_2.out DD1_2.out)
    refine AllReadyH.cons rfl (fun K hK => ?_) AllReadyH.nil
    go_simp
    obtain ⟨y59, ey⟩ : ∃ q, q = y54.alloc (.cells #[] 3) := ⟨_, rfl⟩
    rw [← ey]
    have hB : Below y54.heap.size y54 y59 := by rw [ey]; exact (Below.refl _ _).alloc (Nat.le_refl _) _
    have PB1 : Hid (Bare y59 y54.heap.size) := by show Bare _ _; rw [ey]; exact bare_new _
    have GE1 : Hid (X.heap.size ≤ y54.heap.size) := BX.out.size
    have ne2_1 : Hid (y0.heap.size ≠ y54.heap.size) := Nat.ne_of_lt PB2.out.lt
    have PB2 : Hid (Bare y59 y0.heap.size) := (hB.block _ PB2.out.lt).trans PB2.out
    have ne0_1 : Hid (y53.heap.size ≠ y54.heap.size) := Nat.ne_of_lt PB0.out.lt
    have PB0 : Hid (Bare y59 y53.heap.size) := (hB.block _ PB0.out.lt).trans PB0.out
    have BX : Hid (Below X.heap.size X y59) := BX.out.trans (hB.mono BX.out.size)
    clear ey hB
    refine hK.out _ _ ?_ (fun hHeld => ?_)
    · exact RR.out _ BX.out
    clear hK K
    try simp only [Act.put, List.setIfInBounds_toArray, List.set_cons_zero, List.set_cons_succ]
    refine wpAnyH_ready (rs := [3]) (by kernel_rfl) (by simp) ?_
    refine AllReadyH.cons rfl (fun K hK => ?_) AllReadyH.nil
    refine step_copy0 X y59 rfl _ _ rfl (y53.heap.size) rfl PB0.out GE0.out BX.out a0 l0 c0 rfl ls H0.out x0 J0.out ?_
    intro v0 y60 hown hC
    obtain ⟨pa0, pk0, ee0, _⟩ := hown.mine
    subst ee0
    have OW0 : Hid (Own y60 X.heap.size (Value.slice pa0 ls.length pk0) ls) := hown
    have DN0_2 : Hid (∀ q, (Value.slice pa0 ls.length pk0).ownBlock = some q → q ≠ y0.heap.size) := fun q e r => by
      rcases hC.at_ with s | s
      · rw [s] at e; exact ne2_0.out ((Option.some.inj e).trans r).symm
      · rw [s] at e; have := PB2.out.lt; have := Option.some.inj e; omega
    have PB2 : Hid (Bare y60 (y0.heap.size)) := hC.bare PB2.out ne2_0.out
    have DN0_1 : Hid (∀ q, (Value.slice pa0 ls.length pk0).ownBlock = some q → q ≠ y54.heap.size) := fun q e r => by
      rcases hC.at_ with s | s
      · rw [s] at e; exact (Ne.symm ne0_1.out) ((Option.some.inj e).trans r).symm
      · rw [s] at e; have := PB1.out.lt; have := Option.some.inj e; omega
    have PB1 : Hid (Bare y60 (y54.heap.size)) := hC.bare PB1.out (Ne.symm ne0_1.out)
    have BX : Hid (Below X.heap.size X y60) := hC.bel
    clear hown hC
    refine hK.out _ _ ?_ (fun hHeld => ?_)
    · exact RR.out _ BX.out
    clear hK K
    try simp only [Act.put, List.setIfInBounds_toArray, List.set_cons_zero, List.set_cons_succ]
    refine wpAnyH_ready (rs := [7]) (by kernel_rfl) (by simp) ?_
    refine AllReadyH.cons rfl (fun K hK => ?_) AllReadyH.nil
    refine step_copy0 X y60 rfl _ _ rfl (y54.heap.size) rfl PB1.out GE1.out BX.out a1 l1 c1 rfl ss H1.out x1 J1.out ?_
    intro v1 y61 hown hC
    obtain ⟨pa1, pk1, ee1, _⟩ := hown.mine
    subst ee1
    have OW1 : Hid (Own y61 X.heap.size (Value.slice pa1 ss.length pk1) ss) := hown
    have DN1_2 : Hid (∀ q, (Value.slice pa1 ss.length pk1).ownBlock = some q → q ≠ y0.heap.size) := fun q e r => by
      rcases hC.at_ with s | s
      · rw [s] at e; exact ne2_1.out ((Option.some.inj e).trans r).symm
      · rw [s] at e; have := PB2.out.lt; have := Option.some.inj e; omega
    have PB2 : Hid (Bare y61 (y0.heap.size)) := hC.bare PB2.out ne2_1.out
    have DD0_1 : Hid (∀ q, (Value.slice pa0 ls.length pk0).ownBlock = some q → (Value.slice pa1 ss.length pk1).ownBlock ≠ some q) := fun q e r => by
      rcases hC.at_ with s | s
      · rw [s] at r; exact DN0_1.out q e (Option.some.inj r).symm
      · rw [s] at r; have := (World.ownsRow.lt OW0.out q e).2; have := Option.some.inj r; omega
    have OW0 : Hid (Own y61 X.heap.size (Value.slice pa0 ls.length pk0) ls) := hC.own OW0.out DN0_1.out
    have BX : Hid (Below X.heap.size X y61) := hC.bel
    clear hown hC
    refine hK.out _ _ ?_ (fun hHeld => ?_)
    · exact RR.out _ BX.out
    clear hK K
    try simp only [Act.put, List.setIfInBounds_toArray, List.set_cons_zero, List.set_cons_succ]
    refine wpAnyH_ready (rs := [11]) (by kernel_rfl) (by simp) ?_
    refine AllReadyH.cons rfl (fun K hK => ?_) AllReadyH.nil
    refine step_copy0 X y61 rfl _ _ rfl (y0.heap.size) rfl PB2.out GE2.out BX.out a2 l2 c2 rfl ts H2.out x2 J2.out ?_
    intro v2 y62 hown hC
    obtain ⟨pa2, pk2, ee2, _⟩ := hown.mine
    subst ee2
    have OW2 : Hid (Own y62 X.heap.size (Value.slice pa2 ts.length pk2) ts) := hown
    have DD0_2 : Hid (∀ q, (Value.slice pa0 ls.length pk0).ownBlock = some q → (Value.slice pa2 ts.length pk2).ownBlock ≠ some q) := fun q e r => by
      rcases hC.at_ with s | s
      · rw [s] at r; exact DN0_2.out q e (Option.some.inj r).symm
      · rw [s] at r; have := (World.ownsRow.lt OW0.out q e).2; have := Option.some.inj r; omega
    have OW0 : Hid (Own y62 X.heap.size (Value.slice pa0 ls.length pk0) ls) := hC.own OW0.out DN0_2.out
    have DD1_2 : Hid (∀ q, (Value.slice pa1 ss.length pk1).ownBlock = some q → (Value.slice pa2 ts.length pk2).ownBlock ≠ some q) := fun q e r => by
      rcases hC.at_ with s | s
      · rw [s] at r; exact DN1_2.out q e (Option.some.inj r).symm
      · rw [s] at r; have := (World.ownsRow.lt OW1.out q e).2; have := Option.some.inj r; omega
    have OW1 : Hid (Own y62 X.heap.size (Value.slice pa1 ss.length pk1) ss) := hC.own OW1.out DN1_2.out
    have BX : Hid (Below X.heap.size X y62) := hC.bel
    clear hown hC
    refine hK.out _ _ ?_ (fun hHeld => ?_)
    · exact RR.out _ BX.out
    clear hK K
    try simp only [Act.put, List.setIfInBounds_toArray, List.set_cons_zero, List.set_cons_succ]
    refine wpAnyH_take (i := 12) (v := ?v20) rfl (by kernel_rfl) (by kernel_rfl) (by kernel_rfl) (fun _ _ _ h => h) (Or.inl ⟨by rfl, ?hy20⟩) (by assumption) ?_
    case hy20 => (intro w hSw; (try dsimp only at hSw); go_simp; try with_reducible rfl)
    try simp only [Act.put, List.setIfInBounds_toArray, List.set_cons_zero, List.set_cons_succ]
    have KZ := HKZ.out y62 BX.out
    have z0 : y62.cell? ⟨W.heap.size + 1, 0, none⟩ = some (.slice none 0 0) := KZ.cell (i := 0) (by decide)
    have fz0 : y62.frozen? ⟨W.heap.size + 1, 0, none⟩ = false := KZ.frozen 0
    have z1 : y62.cell? ⟨W.heap.size + 1, 1, none⟩ = some (.slice none 0 0) := KZ.cell (i := 1) (by decide)
    have fz1 : y62.frozen? ⟨W.heap.size + 1, 1, none⟩ = false := KZ.frozen 1
    have z2 : y62.cell? ⟨W.heap.size + 1, 2, none⟩ = some (.slice none 0 0) := KZ.cell (i := 2) (by decide)
    have fz2 : y62.frozen? ⟨W.heap.size + 1, 2, none⟩ = false := KZ.frozen 2
    have lz : W.heap.size + 1 < y62.heap.size := KZ.lt
    refine wpAnyH_ready (rs := [13]) (by kernel_rfl) (by simp) ?_
    refine AllReadyH.cons rfl (fun K hK => ?_) AllReadyH.nil
    go_simp
    refine hK.out _ _ ?_ (fun hHeld => ?_)
    · exact ⟨cell_box3 (by omega) (RR.out y62 BX.out).1 _ _ _, cell_box3 (by omega) (RR.out y62 BX.out).2.1 _ _ _, cell_box3 (by omega) (RR.out y62 BX.out).2.2 _ _ _⟩
    clear hK K
    refine wpAnyH_done (by kernel_rfl) ?_ _
    refine NoPanic.normal ?_
    go_wp2
    refine bodyPost_ret (v := .agg #[(Value.slice pa0 ls.length pk0), (Value.slice pa1 ss.length pk1), (Value.slice pa2 ts.length pk2)]) (by simp only [results, Try.results40]; go_simp) rfl (HFIN.out y62 _ _ _ BX.out OW0.out OW1.out OW2.out DD0_1.out DD0_2.out DD1_2.out)
  refine AllReadyH.cons rfl (fun K hK => ?_) AllReadyH.nil
  go_simp
  obtain ⟨y63, ey⟩ : ∃ q, q = y53.alloc (.cells #[] 3) := ⟨_, rfl⟩
  rw [← ey]
  have hB : Below y53.heap.size y53 y63 := by rw [ey]; exact (Below.refl _ _).alloc (Nat.le_refl _) _
  have PB1 : Hid (Bare y63 y53.heap.size) := by show Bare _ _; rw [ey]; exact bare_new _
  have GE1 : Hid (X.heap.size ≤ y53.heap.size) := BX.out.size
  have ne2_1 : Hid (y0.heap.size ≠ y53.heap.size) := Nat.ne_of_lt PB2.out.lt
  have PB2 : Hid (Bare y63 y0.heap.size) := (hB.block _ PB2.out.lt).trans PB2.out
  have BX : Hid (Below X.heap.size X y63) := BX.out.trans (hB.mono BX.out.size)
  clear ey hB
  refine hK.out _ _ ?_ (fun hHeld => ?_)
  · exact RR.out _ BX.out
  clear hK K
  try simp only [Act.put, List.setIfInBounds_toArray, List.set_cons_zero, List.set_cons_succ]
  refine wpAnyH_ready (rs := [0]) (by kernel_rfl) (by simp) ?_
  refine AllReadyH.cons rfl (fun K hK => ?_) AllReadyH.nil
  go_simp
  obtain ⟨y64, ey⟩ : ∃ q, q = y63.alloc (.cells #[] 3) := ⟨_, rfl⟩
  rw [← ey]
  have hB : Below y63.heap.size y63 y64 := by rw [ey]; exact (Below.refl _ _).alloc (Nat.le_refl _) _
  have PB0 : Hid (Bare y64 y63.heap.size) := by show Bare _ _; rw [ey]; exact bare_new _
  have GE0 : Hid (X.heap.size ≤ y63.heap.size) := BX.out.size
  have ne2_0 : Hid (y0.heap.size ≠ y63.heap.size) := Nat.ne_of_lt PB2.out.lt
  have PB2 : Hid (Bare y64 y0.heap.size) := (hB.block _ PB2.out.lt).trans PB2.out
  have ne1_0 : Hid (y53.heap.size ≠ y63.heap.size) := Nat.ne_of_lt PB1.out.lt
  have PB1 : Hid (Bare y64 y53.heap.size) := (hB.block _ PB1.out.lt).trans PB1.out
  have BX : Hid (Below X.heap.size X y64) := BX.out.trans (hB.mono BX.out.size)
  clear ey hB
  refine hK.out _ _ ?_ (fun hHeld => ?_)
  · exact RR.out _ BX.out
  clear hK K
  try simp only [Act.put, List.setIfInBounds_toArray, List.set_cons_zero, List.set_cons_succ]
  refine wpAnyH_ready (rs := [3]) (by kernel_rfl) (by simp) ?_
  refine AllReadyH.cons rfl (fun K hK => ?_) AllReadyH.nil
  refine step_copy0 X y64 rfl _ _ rfl (y63.heap.size) rfl PB0.out GE0.out BX.out a0 l0 c0 rfl ls H0.out x0 J0.out ?_
  intro v0 y65 hown hC
  obtain ⟨pa0, pk0, ee0, _⟩ := hown.mine
  subst ee0
  have OW0 : Hid (Own y65 X.heap.size (Value.slice pa0 ls.length pk0) ls) := hown
  have DN0_2 : Hid (∀ q, (Value.slice pa0 ls.length pk0).ownBlock = some q → q ≠ y0.heap.size) := fun q e r => by
    rcases hC.at_ with s | s
    · rw [s] at e; exact ne2_0.out ((Option.some.inj e).trans r).symm
    · rw [s] at e; have := PB2.out.lt; have := Option.some.inj e; omega
  have PB2 : Hid (Bare y65 (y0.heap.size)) := hC.bare PB2.out ne2_0.out
  have DN0_1 : Hid (∀ q, (Value.slice pa0 ls.length pk0).ownBlock = some q → q ≠ y53.heap.size) := fun q e r => by
    rcases hC.at_ with s | s
    · rw [s] at e; exact ne1_0.out ((Option.some.inj e).trans r).symm
    · rw [s] at e; have := PB1.out.lt; have := Option.some.inj e; omega
  have PB1 : Hid (Bare y65 (y53.heap.size)) := hC.bare PB1.out ne1_0.out
  have BX : Hid (Below X.heap.size X y65) := hC.bel
  clear hown hC
  refine hK.out _ _ ?_ (fun hHeld => ?_)
  · exact RR.out _ BX.out
  clear hK K
  try simp only [Act.put, List.setIfInBounds_toArray, List.set_cons_zero, List.set_cons_succ]
  refine wpAnyH_ready (rs := [7]) (by kernel_rfl) (by simp) ?_
  refine AllReadyH.cons rfl (fun K hK => ?_) AllReadyH.nil
  refine step_copy0 X y65 rfl _ _ rfl (y53.heap.size) rfl PB1.out GE1.out BX.out a1 l1 c1 rfl ss H1.out x1 J1.out ?_
  intro v1 y66 hown hC
  obtain ⟨pa1, pk1, ee1, _⟩ := hown.mine
  subst ee1
  have OW1 : Hid (Own y66 X.heap.size (Value.slice pa1 ss.length pk1) ss) := hown
  have DN1_2 : Hid (∀ q, (Value.slice pa1 ss.length pk1).ownBlock = some q → q ≠ y0.heap.size) := fun q e r => by
    rcases hC.at_ with s | s
    · rw [s] at e; exact ne2_1.out ((Option.some.inj e).trans r).symm
    · rw [s] at e; have := PB2.out.lt; have := Option.some.inj e; omega
  have PB2 : Hid (Bare y66 (y0.heap.size)) := hC.bare PB2.out ne2_1.out
  have DD0_1 : Hid (∀ q, (Value.slice pa0 ls.length pk0).ownBlock = some q → (Value.slice pa1 ss.length pk1).ownBlock ≠ some q) := fun q e r => by
    rcases hC.at_ with s | s
    · rw [s] at r; exact DN0_1.out q e (Option.some.inj r).symm
    · rw [s] at r; have := (World.ownsRow.lt OW0.out q e).2; have := Option.some.inj r; omega
  have OW0 : Hid (Own y66 X.heap.size (Value.slice pa0 ls.length pk0) ls) := hC.own OW0.out DN0_1.out
  have BX : Hid (Below X.heap.size X y66) := hC.bel
  clear hown hC
  refine hK.out _ _ ?_ (fun hHeld => ?_)
  · exact RR.out _ BX.out
  clear hK K
  try simp only [Act.put, List.setIfInBounds_toArray, List.set_cons_zero, List.set_cons_succ]
  refine wpAnyH_ready (rs := [11]) (by kernel_rfl) (by simp) ?_
  refine AllReadyH.cons rfl (fun K hK => ?_) AllReadyH.nil
  refine step_copy0 X y66 rfl _ _ rfl (y0.heap.size) rfl PB2.out GE2.out BX.out a2 l2 c2 rfl ts H2.out x2 J2.out ?_
  intro v2 y67 hown hC
  obtain ⟨pa2, pk2, ee2, _⟩ := hown.mine
  subst ee2
  have OW2 : Hid (Own y67 X.heap.size (Value.slice pa2 ts.length pk2) ts) := hown
  have DD0_2 : Hid (∀ q, (Value.slice pa0 ls.length pk0).ownBlock = some q → (Value.slice pa2 ts.length pk2).ownBlock ≠ some q) := fun q e r => by
    rcases hC.at_ with s | s
    · rw [s] at r; exact DN0_2.out q e (Option.some.inj r).symm
    · rw [s] at r; have := (World.ownsRow.lt OW0.out q e).2; have := Option.some.inj r; omega
  have OW0 : Hid (Own y67 X.heap.size (Value.slice pa0 ls.length pk0) ls) := hC.own OW0.out DN0_2.out
  have DD1_2 : Hid (∀ q, (Value.slice pa1 ss.length pk1).ownBlock = some q → (Value.slice pa2 ts.length pk2).ownBlock ≠ some q) := fun q e r => by
    rcases hC.at_ with s | s
    · rw [s] at r; exact DN1_2.out q e (Option.some.inj r).symm
    · rw [s] at r; have := (World.ownsRow.lt OW1.out q e).2; have := Option.some.inj r; omega
  have OW1 : Hid (Own y67 X.heap.size (Value.slice pa1 ss.length pk1) ss) := hC.own OW1.out DN1_2.out
  have BX : Hid (Below X.heap.size X y67) := hC.bel
  clear hown hC
  refine hK.out _ _ ?_ (fun hHeld => ?_)
  · exact RR.out _ BX.out
  clear hK K
  try simp only [Act.put, List.setIfInBounds_toArray, List.set_cons_zero, List.set_cons_succ]
  refine wpAnyH_take (i := 12) (v := ?v21) rfl (by kernel_rfl) (by kernel_rfl) (by kernel_rfl) (fun _ _ _ h => h) (Or.inl ⟨by rfl, ?hy21⟩) (by assumption) ?_
  case hy21 => (intro w hSw; (try dsimp only at hSw); go_simp; try with_reducible rfl)
  try simp only [Act.put, List.setIfInBounds_toArray, List.set_cons_zero, List.set_cons_succ]
  have KZ := HKZ.out y67 BX.out
  have z0 : y67.cell? ⟨W.heap.size + 1, 0, none⟩ = some (.slice none 0 0) := KZ.cell (i := 0) (by decide)
  have fz0 : y67.frozen? ⟨W.heap.size + 1, 0, none⟩ = false := KZ.frozen 0
  have z1 : y67.cell? ⟨W.heap.size + 1, 1, none⟩ = some (.slice none 0 0) := KZ.cell (i := 1) (by decide)
  have fz1 : y67.frozen? ⟨W.heap.size + 1, 1, none⟩ = false := KZ.frozen 1
  have z2 : y67.cell? ⟨W.heap.size + 1, 2, none⟩ = some (.slice none 0 0) := KZ.cell (i := 2) (by decide)
  have fz2 : y67.frozen? ⟨W.heap.size + 1, 2, none⟩ = false := KZ.frozen 2
  have lz : W.heap.size + 1 < y67.heap.size := KZ.lt
  refine wpAnyH_ready (rs := [13]) (by kernel_rfl) (by simp) ?_
  refine AllReadyH.cons rfl (fun K hK => ?_) AllReadyH.nil
  go_simp
  refine hK.out _ _ ?_ (fun hHeld => ?_)
  · exact ⟨cell_box3 (by omega) (RR.out y67 BX.out).1 _ _ _, cell_box3 (by omega) (RR.out y67 BX.out).2.1 _ _ _, cell_box3 (by omega) (RR.out y67 BX.out).2.2 _ _ _⟩
  clear hK K
  refine wpAnyH_done (by kernel_rfl) ?_ _
  refine NoPanic.normal ?_
  go_wp2
  refine bodyPost_ret (v := .agg #[(Value.slice pa0 ls.length pk0), (Value.slice pa1 ss.length pk1), (Value.slice pa2 ts.length pk2)]) (by simp only [results, Try.results40]; go_simp) rfl (HFIN.out y67 _ _ _ BX.out OW0.out OW1.out OW2.out DD0_1.out DD0_2.out DD1_2.out)
end Go.Proofs.Ytdacpbhdemkacaa.walks
