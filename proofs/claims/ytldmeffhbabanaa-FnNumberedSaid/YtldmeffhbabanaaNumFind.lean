/-
  What the specification's find, constant and is do: a value's number; it is put behind all where it is new.
-/
import Derived.Test.YtldmeffhbabanaaProg
import Derived.Test.YtldmeffhbabanaaNumEq
import Derived.Test.YtldmeffhbabanaaNumState
import Derived.WalkKit
import Derived.WalkSpells
import Derived.Below
import Derived.Handy
import Derived.Deep.RegionWith
import Derived.Deep.RegionHeld3
import Derived.Deep.AppendLies
namespace Go.Proofs.Ytldmeffhbabanaa.nums
open Go.RowKit Go.Proofs.Ytldmeffhbabanaa.ints
set_option linter.unusedVariables false
set_option linter.unusedSimpArgs false

theorem Seen.kept {w w' : World} {B sb gv gn cv cn : Nat} {vs : List V} {ks : List Int} (h : Seen w B sb gv gn cv cn vs ks) (hb : Below w.heap.size w w') : Seen w' B sb gv gn cv cn vs ks :=
  ⟨(hb.block sb h.lt.1).trans h.heap, own_below h.vals hb, own_below h.nums hb, h.n0, h.n1, h.n2, h.low⟩
theorem value_row : (Try.prog.info? 49).map (fun i => (i.zero, i.size, i.bytes)) = some (some (.agg #[.int .i64 0, .int .i64 0, .int .i64 0, .int .i64 0]), 4, 32) := by kernel_rfl
theorem four_cell (w : World) (a b c d : Int) {g : Nat} (h0 : w.cell? ⟨g, 0, none⟩ = some (.int .i64 a)) (h1 : w.cell? ⟨g, 1, none⟩ = some (.int .i64 b)) (h2 : w.cell? ⟨g, 2, none⟩ = some (.int .i64 c)) (h3 : w.cell? ⟨g, 3, none⟩ = some (.int .i64 d)) : ∀ (j : Nat) (u : Value), [Value.int .i64 a, .int .i64 b, .int .i64 c, .int .i64 d][j]? = some u → w.cell? ((⟨g, 0, none⟩ : Addr).add j) = some u := by
  intro j u hj
  match j, hj with
  | 0, hj => simp at hj; subst hj; simpa [Addr.add] using h0
  | 1, hj => simp at hj; subst hj; simpa [Addr.add] using h1
  | 2, hj => simp at hj; subst hj; simpa [Addr.add] using h2
  | 3, hj => simp at hj; subst hj; simpa [Addr.add] using h3
theorem four_of (a b c d : Int) : ∀ u ∈ [Value.int .i64 a, .int .i64 b, .int .i64 c, .int .i64 d], u.oneCell' = true := by
  intro u hu; simp at hu; rcases hu with rfl | rfl | rfl | rfl <;> rfl
theorem find_more {W wr wq w1 : World} {B sb gv gn cv cn gg cap : Nat} {vs : List V} {ks : List Int} {v : V} (h : Seen wr B sb gv gn cv cn vs ks) (hb : Below W.heap.size W wr) (hB : B ≤ W.heap.size)
    (hown : w1.ownsRow B 49 4 (.slice (some ⟨gg, 0, none⟩) (vs.length + 1) cap) (vs.length + 1) (flatV vs ++ [.int .i64 v.1, .int .i64 v.2.1, .int .i64 v.2.2.1, .int .i64 v.2.2.2])) (hgrow : wq.grownBy w1 (Value.ownBlock (.slice (some ⟨gv, 0, none⟩) vs.length cv))) (hat : gg = gv ∨ wr.heap.size + 1 ≤ gg) (hq : Below wr.heap.size wr wq := by go_grown) (hqs : wq.heap.size = wr.heap.size + 1 := by simp) :
    St (w1.setCell ⟨sb, 0, none⟩ (.slice (some ⟨gg, 0, none⟩) (vs.length + 1) cap)) B sb (vs ++ [v]) ks ∧ Below B W w1 := by
  have hs := (h.kept hq).more (v := v) hown hgrow (by omega)
  refine ⟨hs.st, ?_⟩
  refine Below.grown (w := wq) ((hb.trans (hq.mono hb.size)).mono hB) hgrow (by have := hb.size; omega) (fun j hj => ?_)
  simp [Value.ownBlock] at hj
  subst hj
  exact h.lt.2.2.2.1
/-- Nothing else has turned: no block but the state's own and its values' row, nor the state's second cell. -/
def Frame (W W' : World) (B sb : Nat) (vs : List V) (ks : List Int) : Prop := ∀ gv gn cv cn, Seen W B sb gv gn cv cn vs ks → (∀ g, g < W.heap.size → g ≠ sb → g ≠ gv → W'.heap[g]? = W.heap[g]?) ∧ W'.cell? ⟨sb, 1, none⟩ = W.cell? ⟨sb, 1, none⟩
theorem frame_far {W W' : World} {B sb : Nat} {vs : List V} {ks : List Int} (hb : Below W.heap.size W W') : Frame W W' B sb vs ks := fun gv gn cv cn h => ⟨fun g h1 _ _ => hb.block g h1, hb.cell (p := ⟨sb, 1, none⟩) h.lt.1⟩
theorem Frame.pre {W W2 W' : World} {B sb : Nat} {vs : List V} {ks : List Int} (h : Frame W2 W' B sb vs ks) (hb : Below W.heap.size W W2) : Frame W W' B sb vs ks := fun gv gn cv cn hs => by
  obtain ⟨h1, h2⟩ := h gv gn cv cn (hs.kept hb)
  exact ⟨fun g k1 k2 k3 => (h1 g (Nat.lt_of_lt_of_le k1 hb.size) k2 k3).trans (hb.block g k1), h2.trans (hb.cell (p := ⟨sb, 1, none⟩) hs.lt.1)⟩
theorem Seen.same {w : World} {B sb gv gn cv cn gv' gn' cv' cn' : Nat} {vs : List V} {ks : List Int} (h : Seen w B sb gv gn cv cn vs ks) (h' : Seen w B sb gv' gn' cv' cn' vs ks) : gv' = gv ∧ gn' = gn ∧ cv' = cv ∧ cn' = cn := by
  have := h'.heap
  rw [h.heap] at this
  simp at this
  obtain ⟨⟨h1, h2⟩, h3, h4⟩ := this
  exact ⟨h1.symm, h3.symm, h2.symm, h4.symm⟩
theorem more_frame {W wr wq w1 : World} {B sb gv gn cv cn : Nat} {vs : List V} {ks : List Int} {u : Value} (h : Seen W B sb gv gn cv cn vs ks) (hb : Below W.heap.size W wr) (hgrow : wq.grownBy w1 (Value.ownBlock (.slice (some ⟨gv, 0, none⟩) vs.length cv))) (hq : Below wr.heap.size wr wq := by go_grown) : Frame W (w1.setCell ⟨sb, 0, none⟩ u) B sb vs ks := fun gv' gn' cv' cn' hs => by
  obtain ⟨rfl, rfl, rfl, rfl⟩ := h.same hs
  have hwq : Below W.heap.size W wq := hb.trans (hq.mono hb.size)
  have hsz := hwq.size
  refine ⟨fun g k1 k2 k3 => ?_, ?_⟩
  · rw [RowKit.Below.heap_setCell _ _ _ _ k2]
    exact (hgrow.block g (by omega) (by simp [Value.ownBlock]; omega)).trans (hwq.block g k1)
  · rw [World.cell?_setCell_other _ _ _ _ (by simp)]
    have h0 := h.n0
    exact (World.cell?_of_block (a := ⟨sb, 1, none⟩) (hgrow.block sb (by have := h.lt.1; omega) (by simp [Value.ownBlock]; omega))).trans (hwq.cell (p := ⟨sb, 1, none⟩) h.lt.1)
/-- What find leaves. -/
def FindAns (W : World) (B sb : Nat) (vs : List V) (ks : List Int) (v : V) (e : Ending) (W' : World) : Prop := e = .returned (.int .i64 (idx (addV vs v) v : Int)) ∧ St W' B sb (addV vs v) ks ∧ Below B W W' ∧ Frame W W' B sb vs ks
set_option maxRecDepth 100000 in
set_option maxHeartbeats 4000000 in
theorem find_at (v0 v1 v2 v3 : Int) (B sb : Nat) (vs : List V) (ks : List Int) (W : World) (hS : Hid (St W B sb vs ks)) (hBW : B ≤ W.heap.size) (hv : 0 < vs.length) (hks : 0 < ks.length) (hl : vs.length ≤ 1000) :
    Calls Try.prog 64 #[.pointer (some ⟨sb, 0, none⟩), .agg #[.int .i64 v0, .int .i64 v1, .int .i64 v2, .int .i64 v3]] W fun e W' => FindAns W B sb vs ks (v0, v1, v2, v3) e W' := by
  obtain ⟨gv, gn, cv, cn, hE⟩ := hS.out.seen hv hks
  have e0 := hE.v
  obtain ⟨l0, l1, l2, hBv, hBn⟩ := hE.lt
  have hBs := hE.low
  have hsv := hE.n0
  have HE : Hid (Seen W B sb gv gn cv cn vs ks) := hE
  clear hE
  obtain ⟨i0, hi, hz0, hz1, hz2⟩ := info_parts value_row
  have hlen : (vs.length : Int) ≤ 1000 := by omega
  go_enter Try.func64, Try.ntmps64
  go_wp2
  go_loopw [12] (fun vi wr => ∃ k : Nat, k ≤ vs.length ∧ vi = .int .i64 k ∧ Hid (∀ i, i < k → vs.getD i zV ≠ (v0, v1, v2, v3)) ∧ Hid (Below (W.heap.size + 1) (W.alloc (.cells #[.int .i64 v0, .int .i64 v1, .int .i64 v2, .int .i64 v3] 49)) wr)) (fun vi _ => vs.length - (intOf vi).toNat)
  case atStart => exact ⟨0, Nat.zero_le _, rfl, fun i hi => by omega, by show Below _ _ _; go_grown⟩
  case round =>
    obtain ⟨k, hk, rfl, HN, HB1⟩ := hrel
    have HB : Hid (Below W.heap.size W wr) := by show Below _ _ _; exact ((Below.refl _ _).alloc (Nat.le_refl _) _).trans (HB1.out.mono (by omega))
    have hws : W.heap.size + 1 ≤ wr.heap.size := by have := HB1.out.size; simpa using this
    have HR : Hid (Seen wr B sb gv gn cv cn vs ks) := HE.out.kept HB.out
    have b0 : wr.cell? ⟨W.heap.size, 0, none⟩ = some (.int .i64 v0) := (HB1.out.cell (p := ⟨W.heap.size, 0, none⟩) (by simp)).trans (by go_simp)
    have b1 : wr.cell? ⟨W.heap.size, 1, none⟩ = some (.int .i64 v1) := (HB1.out.cell (p := ⟨W.heap.size, 1, none⟩) (by simp)).trans (by go_simp)
    have b2 : wr.cell? ⟨W.heap.size, 2, none⟩ = some (.int .i64 v2) := (HB1.out.cell (p := ⟨W.heap.size, 2, none⟩) (by simp)).trans (by go_simp)
    have b3 : wr.cell? ⟨W.heap.size, 3, none⟩ = some (.int .i64 v3) := (HB1.out.cell (p := ⟨W.heap.size, 3, none⟩) (by simp)).trans (by go_simp)
    have hwl : W.heap.size < wr.heap.size := by omega
    by_cases hlt : k < vs.length
    · obtain ⟨x0, x1, x2, x3, hx⟩ : ∃ x0 x1 x2 x3, vs.getD k zV = (x0, x1, x2, x3) := ⟨_, _, _, _, rfl⟩
      have c0 := HR.out.val (k := k) (i := 0) hlt (by omega)
      have c1 := HR.out.val (k := k) (i := 1) hlt (by omega)
      have c2 := HR.out.val (k := k) (i := 2) hlt (by omega)
      have c3 := HR.out.val (k := k) (i := 3) hlt (by omega)
      rw [hx] at c0 c1 c2 c3
      simp only [Nat.add_zero, fldV] at c0 c1 c2 c3
      have qg := eqG
      by_cases heq : ((x0, x1, x2, x3) : V) = (v0, v1, v2, v3)
      · have q : ∀ w : World, (binOp .eql 49 (.agg #[.int .i64 x0, .int .i64 x1, .int .i64 x2, .int .i64 x3]) (.agg #[.int .i64 v0, .int .i64 v1, .int .i64 v2, .int .i64 v3])).run Try.prog w = .ok (.bool true) w := by intro w; rw [eqV, decide_eq_true heq]
        have HA : Hid ((v0, v1, v2, v3) ∈ vs ∧ idx vs (v0, v1, v2, v3) = k) := ⟨by rw [← heq, ← hx]; exact get_mem hlt, idx_is hlt (hx.trans heq) HN.out⟩
        clear heq hx
        go_wp2
        go_ret
        refine ⟨by rw [add_old HA.out.1, HA.out.2]; rfl, by rw [add_old HA.out.1]; exact (hS.out.kept HB.out).alloc _, (HB.out.mono hBW).trans ?_, frame_far (HB.out.trans ?_)⟩
        all_goals go_grown
      · have q : ∀ w : World, (binOp .eql 49 (.agg #[.int .i64 x0, .int .i64 x1, .int .i64 x2, .int .i64 x3]) (.agg #[.int .i64 v0, .int .i64 v1, .int .i64 v2, .int .i64 v3])).run Try.prog w = .ok (.bool false) w := by intro w; rw [eqV, decide_eq_false heq]
        have HN' : Hid (∀ i, i < k + 1 → vs.getD i zV ≠ (v0, v1, v2, v3)) := by
          show ∀ i, i < k + 1 → _
          intro i hi'
          by_cases e : i = k
          · rw [e, hx]; exact heq
          · exact HN.out i (by omega)
        clear heq hx
        go_wp2
        go_roundw
        case rel => exact ⟨k + 1, by omega, by go_num, HN', by show Below _ _ _; refine Below.trans HB1.out ?_; go_grown⟩
        case measure => simp [intOf]; omega
    · have hke : k = vs.length := by omega
      have e0' := HR.out.v
      have f0' := HR.out.f 0
      have HQN : Hid ((v0, v1, v2, v3) ∉ vs) := not_mem_of (fun i hi' => HN.out i (by omega))
      clear HN
      subst hke
      have hsl : sb < wr.heap.size := HR.out.lt.1
      have hvl : gv < W.heap.size := l1
      go_wp2
      refine wp_region_noPanic ?_
      refine wp_region_held_drew (S := fun w' => w'.cell? ⟨W.heap.size, 0, none⟩ = some (.int .i64 v0) ∧ w'.cell? ⟨W.heap.size, 1, none⟩ = some (.int .i64 v1) ∧ w'.cell? ⟨W.heap.size, 2, none⟩ = some (.int .i64 v2) ∧ w'.cell? ⟨W.heap.size, 3, none⟩ = some (.int .i64 v3)) (by kernel_rfl) ?_ (fun hHeld => ?_)
      · (try dsimp only); exact ⟨b0, b1, b2, b3⟩
      refine wpAnyH_take (i := 0) (v := ?v1) rfl (by kernel_rfl) (by kernel_rfl) (by kernel_rfl) (fun _ _ _ h => h) (Or.inl ⟨by rfl, ?hy1⟩) (by assumption) ?_
      case hy1 => (intro w hSw; (try dsimp only at hSw); go_simp; try with_reducible rfl)
      try simp only [Act.put, List.setIfInBounds_toArray, List.set_cons_zero, List.set_cons_succ]
      refine wpAnyH_take (i := 1) (v := ?v2) rfl (by kernel_rfl) (by kernel_rfl) (by kernel_rfl) (fun _ _ _ h => h) (Or.inl ⟨by rfl, ?hy2⟩) (by assumption) ?_
      case hy2 => (intro w hSw; (try dsimp only at hSw); go_simp; try with_reducible rfl)
      try simp only [Act.put, List.setIfInBounds_toArray, List.set_cons_zero, List.set_cons_succ]
      refine wpAnyH_take (i := 2) (v := ?v3) rfl (by kernel_rfl) (by kernel_rfl) (by kernel_rfl) (fun _ _ _ h => h) (Or.inl ⟨by rfl, ?hy3⟩) (by assumption) ?_
      case hy3 => (intro w hSw; (try dsimp only at hSw); go_simp; try with_reducible rfl)
      try simp only [Act.put, List.setIfInBounds_toArray, List.set_cons_zero, List.set_cons_succ]
      refine wpAnyH_take (i := 3) (v := ?v4) rfl (by kernel_rfl) (by kernel_rfl) (by kernel_rfl) (fun _ _ _ h => h) (Or.inl ⟨by rfl, ?hy4⟩) (by assumption) ?_
      case hy4 => (intro w hSw; (try dsimp only at hSw); go_simp; try with_reducible rfl)
      try simp only [Act.put, List.setIfInBounds_toArray, List.set_cons_zero, List.set_cons_succ]
      refine wpAnyH_take (i := 5) (v := ?v5) rfl (by kernel_rfl) (by kernel_rfl) (by kernel_rfl) (fun _ _ _ h => h) (Or.inl ⟨by rfl, ?hy5⟩) (by assumption) ?_
      case hy5 => (intro w hSw; (try dsimp only at hSw); go_simp; try with_reducible rfl)
      try simp only [Act.put, List.setIfInBounds_toArray, List.set_cons_zero, List.set_cons_succ]
      refine wpAnyH_ready (rs := [4, 6]) (by kernel_rfl) (by simp) ?_
      refine AllReadyH.cons rfl (fun K hK => ?_) ?_
      · go_simp
        refine hK.out _ _ ?_ (fun hHeld => ?_)
        · (try dsimp only); first | assumption | exact ⟨G0, G1, G2, G3⟩ | (refine ⟨?_, ?_, ?_, ?_⟩ <;> go_simp) | go_keep
        clear hK K
        try simp only [Act.put, List.setIfInBounds_toArray, List.set_cons_zero, List.set_cons_succ]
        refine wpAnyH_ready (rs := [6]) (by kernel_rfl) (by simp) ?_
        refine AllReadyH.cons rfl (fun K hK => ?_) AllReadyH.nil
        go_simp
        refine hK.out _ _ ?_ (fun hHeld => ?_)
        · (try dsimp only); first | assumption | exact ⟨G0, G1, G2, G3⟩ | (refine ⟨?_, ?_, ?_, ?_⟩ <;> go_simp) | go_keep
        clear hK K
        try simp only [Act.put, List.setIfInBounds_toArray, List.set_cons_zero, List.set_cons_succ]
        refine wpAnyH_ready (rs := [7]) (by kernel_rfl) (by simp) ?_
        refine AllReadyH.cons rfl (fun K hK => ?_) AllReadyH.nil
        (refine step_append_lies _ (by rfl) _ _ 37 (by rfl) B 49 i0 _ 4 32 Try.underlying37 hi hz0 hz1 hz2 rfl (by omega) (.slice (some ⟨gv, 0, none⟩) vs.length cv) vs.length (flatV vs) (by rfl) (by first | exact HQ.out.vals | exact ((HR.out.vals.alloc _).drew) | exact ((HR.out.vals.drew).alloc _)) ⟨wr.heap.size, 0, none⟩ 1 1 [.int .i64 v0, .int .i64 v1, .int .i64 v2, .int .i64 v3] (by rfl) (by rfl) (four_cell _ _ _ _ _ (by go_simp) (by go_simp) (by go_simp) (by go_simp)) (four_of _ _ _ _) (by omega) (by unfold maxLen; omega) (by omega) (by simp; omega) (wr.heap.size + 1) (by simp) ?_)
        intro gg cap w1 hown1 hgrow hat hlt
        have hat' : gg = gv ∨ wr.heap.size + 1 ≤ gg := by
          rcases hat with e | e
          · left; simpa [Value.ownBlock] using e.symm
          · right; omega
        have G0 : w1.cell? ⟨W.heap.size, 0, none⟩ = some (.int .i64 v0) := (World.cell?_of_block (a := ⟨W.heap.size, 0, none⟩) (hgrow.block W.heap.size (by simp; omega) (by simp [Value.ownBlock]; omega))).trans (by go_simp)
        have G1 : w1.cell? ⟨W.heap.size, 1, none⟩ = some (.int .i64 v1) := (World.cell?_of_block (a := ⟨W.heap.size, 1, none⟩) (hgrow.block W.heap.size (by simp; omega) (by simp [Value.ownBlock]; omega))).trans (by go_simp)
        have G2 : w1.cell? ⟨W.heap.size, 2, none⟩ = some (.int .i64 v2) := (World.cell?_of_block (a := ⟨W.heap.size, 2, none⟩) (hgrow.block W.heap.size (by simp; omega) (by simp [Value.ownBlock]; omega))).trans (by go_simp)
        have G3 : w1.cell? ⟨W.heap.size, 3, none⟩ = some (.int .i64 v3) := (World.cell?_of_block (a := ⟨W.heap.size, 3, none⟩) (hgrow.block W.heap.size (by simp; omega) (by simp [Value.ownBlock]; omega))).trans (by go_simp)
        have G8 : w1.cell? ⟨sb, 0, none⟩ = some (.slice (some ⟨gv, 0, none⟩) vs.length cv) := (World.cell?_of_block (a := ⟨sb, 0, none⟩) (hgrow.block sb (by simp; omega) (by simp [Value.ownBlock]; omega))).trans (by go_simp)
        have G9 : w1.frozen? ⟨sb, 0, none⟩ = false := (World.frozen?_of_block (a := ⟨sb, 0, none⟩) (hgrow.block sb (by simp; omega) (by simp [Value.ownBlock]; omega))).trans (by go_simp)
        have HFr : Hid (Frame W (w1.setCell ⟨sb, 0, none⟩ (.slice (some ⟨gg, 0, none⟩) (vs.length + 1) cap)) B sb vs ks) := more_frame HE.out HB.out hgrow
        have HF : Hid (St (w1.setCell ⟨sb, 0, none⟩ (.slice (some ⟨gg, 0, none⟩) (vs.length + 1) cap)) B sb (vs ++ [(v0, v1, v2, v3)]) ks ∧ Below B W w1) := find_more HR.out HB.out hBW hown1 hgrow hat'
        clear hown1 hgrow hat hlt
        refine hK.out _ _ ?_ (fun hHeld => ?_)
        · (try dsimp only); first | assumption | exact ⟨G0, G1, G2, G3⟩ | (refine ⟨?_, ?_, ?_, ?_⟩ <;> go_simp) | go_keep
        clear hK K
        try simp only [Act.put, List.setIfInBounds_toArray, List.set_cons_zero, List.set_cons_succ]
        refine wpAnyH_take (i := 8) (v := ?v6) rfl (by kernel_rfl) (by kernel_rfl) (by kernel_rfl) (fun _ _ _ h => h) (Or.inl ⟨by rfl, ?hy6⟩) (by assumption) ?_
        case hy6 => (intro w hSw; (try dsimp only at hSw); go_simp; try with_reducible rfl)
        try simp only [Act.put, List.setIfInBounds_toArray, List.set_cons_zero, List.set_cons_succ]
        refine wpAnyH_take (i := 9) (v := ?v7) rfl (by kernel_rfl) (by kernel_rfl) (by kernel_rfl) (fun _ _ _ h => h) (Or.inl ⟨by rfl, ?hy7⟩) (by assumption) ?_
        case hy7 => (intro w hSw; (try dsimp only at hSw); go_simp; try with_reducible rfl)
        try simp only [Act.put, List.setIfInBounds_toArray, List.set_cons_zero, List.set_cons_succ]
        refine wpAnyH_ready (rs := [10]) (by kernel_rfl) (by simp) ?_
        refine AllReadyH.cons rfl (fun K hK => ?_) AllReadyH.nil
        go_simp
        refine hK.out _ _ ?_ (fun hHeld => ?_)
        · (try dsimp only); first | assumption | exact ⟨G0, G1, G2, G3⟩ | (refine ⟨?_, ?_, ?_, ?_⟩ <;> go_simp) | go_keep
        clear hK K
        try simp only [Act.put, List.setIfInBounds_toArray, List.set_cons_zero, List.set_cons_succ]
        refine wpAnyH_done (by kernel_rfl) ?_ _
        refine NoPanic.normal ?_
        go_wp2
        go_ret
        exact ⟨by rw [add_new HQN.out, idx_new HQN.out]; simp, by rw [add_new HQN.out]; exact HF.out.1, HF.out.2.setCell hBs _, HFr.out⟩
      refine AllReadyH.cons rfl (fun K hK => ?_) AllReadyH.nil
      go_simp
      refine hK.out _ _ ?_ (fun hHeld => ?_)
      · (try dsimp only); first | assumption | exact ⟨G0, G1, G2, G3⟩ | (refine ⟨?_, ?_, ?_, ?_⟩ <;> go_simp) | go_keep
      clear hK K
      try simp only [Act.put, List.setIfInBounds_toArray, List.set_cons_zero, List.set_cons_succ]
      refine wpAnyH_ready (rs := [4]) (by kernel_rfl) (by simp) ?_
      refine AllReadyH.cons rfl (fun K hK => ?_) AllReadyH.nil
      go_simp
      refine hK.out _ _ ?_ (fun hHeld => ?_)
      · (try dsimp only); first | assumption | exact ⟨G0, G1, G2, G3⟩ | (refine ⟨?_, ?_, ?_, ?_⟩ <;> go_simp) | go_keep
      clear hK K
      try simp only [Act.put, List.setIfInBounds_toArray, List.set_cons_zero, List.set_cons_succ]
      refine wpAnyH_ready (rs := [7]) (by kernel_rfl) (by simp) ?_
      refine AllReadyH.cons rfl (fun K hK => ?_) AllReadyH.nil
      (refine step_append_lies _ (by rfl) _ _ 37 (by rfl) B 49 i0 _ 4 32 Try.underlying37 hi hz0 hz1 hz2 rfl (by omega) (.slice (some ⟨gv, 0, none⟩) vs.length cv) vs.length (flatV vs) (by rfl) (by first | exact HQ.out.vals | exact ((HR.out.vals.alloc _).drew) | exact ((HR.out.vals.drew).alloc _)) ⟨wr.heap.size, 0, none⟩ 1 1 [.int .i64 v0, .int .i64 v1, .int .i64 v2, .int .i64 v3] (by rfl) (by rfl) (four_cell _ _ _ _ _ (by go_simp) (by go_simp) (by go_simp) (by go_simp)) (four_of _ _ _ _) (by omega) (by unfold maxLen; omega) (by omega) (by simp; omega) (wr.heap.size + 1) (by simp) ?_)
      intro gg cap w1 hown1 hgrow hat hlt
      have hat' : gg = gv ∨ wr.heap.size + 1 ≤ gg := by
        rcases hat with e | e
        · left; simpa [Value.ownBlock] using e.symm
        · right; omega
      have G0 : w1.cell? ⟨W.heap.size, 0, none⟩ = some (.int .i64 v0) := (World.cell?_of_block (a := ⟨W.heap.size, 0, none⟩) (hgrow.block W.heap.size (by simp; omega) (by simp [Value.ownBlock]; omega))).trans (by go_simp)
      have G1 : w1.cell? ⟨W.heap.size, 1, none⟩ = some (.int .i64 v1) := (World.cell?_of_block (a := ⟨W.heap.size, 1, none⟩) (hgrow.block W.heap.size (by simp; omega) (by simp [Value.ownBlock]; omega))).trans (by go_simp)
      have G2 : w1.cell? ⟨W.heap.size, 2, none⟩ = some (.int .i64 v2) := (World.cell?_of_block (a := ⟨W.heap.size, 2, none⟩) (hgrow.block W.heap.size (by simp; omega) (by simp [Value.ownBlock]; omega))).trans (by go_simp)
      have G3 : w1.cell? ⟨W.heap.size, 3, none⟩ = some (.int .i64 v3) := (World.cell?_of_block (a := ⟨W.heap.size, 3, none⟩) (hgrow.block W.heap.size (by simp; omega) (by simp [Value.ownBlock]; omega))).trans (by go_simp)
      have G8 : w1.cell? ⟨sb, 0, none⟩ = some (.slice (some ⟨gv, 0, none⟩) vs.length cv) := (World.cell?_of_block (a := ⟨sb, 0, none⟩) (hgrow.block sb (by simp; omega) (by simp [Value.ownBlock]; omega))).trans (by go_simp)
      have G9 : w1.frozen? ⟨sb, 0, none⟩ = false := (World.frozen?_of_block (a := ⟨sb, 0, none⟩) (hgrow.block sb (by simp; omega) (by simp [Value.ownBlock]; omega))).trans (by go_simp)
      have HFr : Hid (Frame W (w1.setCell ⟨sb, 0, none⟩ (.slice (some ⟨gg, 0, none⟩) (vs.length + 1) cap)) B sb vs ks) := more_frame HE.out HB.out hgrow
      have HF : Hid (St (w1.setCell ⟨sb, 0, none⟩ (.slice (some ⟨gg, 0, none⟩) (vs.length + 1) cap)) B sb (vs ++ [(v0, v1, v2, v3)]) ks ∧ Below B W w1) := find_more HR.out HB.out hBW hown1 hgrow hat'
      clear hown1 hgrow hat hlt
      refine hK.out _ _ ?_ (fun hHeld => ?_)
      · (try dsimp only); first | assumption | exact ⟨G0, G1, G2, G3⟩ | (refine ⟨?_, ?_, ?_, ?_⟩ <;> go_simp) | go_keep
      clear hK K
      try simp only [Act.put, List.setIfInBounds_toArray, List.set_cons_zero, List.set_cons_succ]
      refine wpAnyH_take (i := 8) (v := ?v8) rfl (by kernel_rfl) (by kernel_rfl) (by kernel_rfl) (fun _ _ _ h => h) (Or.inl ⟨by rfl, ?hy8⟩) (by assumption) ?_
      case hy8 => (intro w hSw; (try dsimp only at hSw); go_simp; try with_reducible rfl)
      try simp only [Act.put, List.setIfInBounds_toArray, List.set_cons_zero, List.set_cons_succ]
      refine wpAnyH_take (i := 9) (v := ?v9) rfl (by kernel_rfl) (by kernel_rfl) (by kernel_rfl) (fun _ _ _ h => h) (Or.inl ⟨by rfl, ?hy9⟩) (by assumption) ?_
      case hy9 => (intro w hSw; (try dsimp only at hSw); go_simp; try with_reducible rfl)
      try simp only [Act.put, List.setIfInBounds_toArray, List.set_cons_zero, List.set_cons_succ]
      refine wpAnyH_ready (rs := [10]) (by kernel_rfl) (by simp) ?_
      refine AllReadyH.cons rfl (fun K hK => ?_) AllReadyH.nil
      go_simp
      refine hK.out _ _ ?_ (fun hHeld => ?_)
      · (try dsimp only); first | assumption | exact ⟨G0, G1, G2, G3⟩ | (refine ⟨?_, ?_, ?_, ?_⟩ <;> go_simp) | go_keep
      clear hK K
      try simp only [Act.put, List.setIfInBounds_toArray, List.set_cons_zero, List.set_cons_succ]
      refine wpAnyH_done (by kernel_rfl) ?_ _
      refine NoPanic.normal ?_
      go_wp2
      go_ret
      exact ⟨by rw [add_new HQN.out, idx_new HQN.out]; simp, by rw [add_new HQN.out]; exact HF.out.1, HF.out.2.setCell hBs _, HFr.out⟩
theorem spec_find (v : V) (B sb : Nat) (vs : List V) (ks : List Int) (W : World) (hS : St W B sb vs ks) (hBW : B ≤ W.heap.size) (hv : 0 < vs.length) (hks : 0 < ks.length) (hl : vs.length ≤ 1000) :
    Calls Try.prog 64 #[.pointer (some ⟨sb, 0, none⟩), vV v] W fun e W' => FindAns W B sb vs ks v e W' := by
  obtain ⟨v0, v1, v2, v3⟩ := v
  exact find_at v0 v1 v2 v3 B sb vs ks W hS hBW hv hks hl
end Go.Proofs.Ytldmeffhbabanaa.nums
