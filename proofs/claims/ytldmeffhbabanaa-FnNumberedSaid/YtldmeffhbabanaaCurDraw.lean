/-
  What the draws of code and of words answer, as lists: code3, vars, DrawRunCode, DrawGoodCode, DrawCostOf.
-/
import Derived.Test.YtldmeffhbabanaaProg
import Derived.Test.YtldmeffhbabanaaCurCode
import Derived.Test.YtldmeffhbabanaaInts
import Derived.Test.YtldmeffhbabanaaOwnInts
import Derived.WalkKit
import Derived.WalkSpells
import Derived.Below
import Derived.Handy
import Derived.Lib.SmallJoins
namespace Go.Proofs.Ytldmeffhbabanaa.cur
open Go.RowKit Go.Proofs.Ytldmeffhbabanaa.math Go.Proofs.Ytldmeffhbabanaa.ints Go.Proofs.Ytldmeffhbabanaa.walks
set_option linter.unusedVariables false

theorem ins_row : (Try.prog.info? 61).map (fun i => (i.zero, i.size, i.bytes)) = some (some (.agg #[.int .i64 0, .int .i64 0, .int .i64 0, .int .i64 0, .int .i64 0]), 5, 40) := by kernel_rfl
theorem ins_cell (w : World) (a b c d f : Int) {g : Nat} (h0 : w.cell? ⟨g, 0, none⟩ = some (.int .i64 a)) (h1 : w.cell? ⟨g, 1, none⟩ = some (.int .i64 b)) (h2 : w.cell? ⟨g, 2, none⟩ = some (.int .i64 c)) (h3 : w.cell? ⟨g, 3, none⟩ = some (.int .i64 d)) (h4 : w.cell? ⟨g, 4, none⟩ = some (.int .i64 f)) : ∀ (j : Nat) (u : Value), [Value.int .i64 a, .int .i64 b, .int .i64 c, .int .i64 d, .int .i64 f][j]? = some u → w.cell? ((⟨g, 0, none⟩ : Addr).add j) = some u := by
  intro j u hj
  match j, hj with
  | 0, hj => simp at hj; subst hj; simpa [Addr.add] using h0
  | 1, hj => simp at hj; subst hj; simpa [Addr.add] using h1
  | 2, hj => simp at hj; subst hj; simpa [Addr.add] using h2
  | 3, hj => simp at hj; subst hj; simpa [Addr.add] using h3
  | 4, hj => simp at hj; subst hj; simpa [Addr.add] using h4
theorem ins_of (a b c d f : Int) : ∀ u ∈ [Value.int .i64 a, .int .i64 b, .int .i64 c, .int .i64 d, .int .i64 f], u.oneCell' = true := by
  intro u hu; simp at hu; rcases hu with rfl | rfl | rfl | rfl | rfl <;> rfl
/-- Steps in a row of the call's own, flat. -/
def OwnL (w : World) (B : Nat) (v : Value) (k : Nat) (fl : List Int) : Prop := w.ownsRow B 61 5 v k (fl.map (Value.int .i64))
theorem OwnL.len {w : World} {B k : Nat} {v : Value} {fl : List Int} (h : OwnL w B v k fl) : fl.length = k * 5 := by simpa using h.1
theorem OwnL.mine {w : World} {B n : Nat} {v : Value} {fl : List Int} (h : OwnL w B v n fl) : ∃ a cap, v = .slice a n cap ∧ Mine w B a fl := by
  have h0 := h
  have hlen := h.1
  rcases h.2 with ⟨rfl, hn⟩ | ⟨g, cap, cur, rfl, hg, hw, _, _, _, hcur⟩
  · refine ⟨none, 0, by rw [hn], Or.inl ?_⟩
    rw [hn] at hlen
    simpa using hlen
  · refine ⟨some ⟨g, 0, none⟩, cap, rfl, Or.inr ⟨g, 0, rfl, hg, (h0.lt g rfl).2, fun i hi => ⟨?_, ?_⟩⟩⟩
    · have := h0.cellAt i (by simp at hlen; omega)
      simp only [Nat.zero_add]
      rw [this]
      simp [List.getD, List.getElem?_eq_getElem hi]
    · have := h0.frozenAt i
      simpa using this
theorem cur_grown {b len cap n B : Nat} {a : Option Addr} {w w' : World} {row : Option Nat} (h : Cur b a len cap n w) (hg : w.grownBy w' row) (hr : ∀ g, row = some g → B ≤ g) (hb : b < B) : Cur b a len cap n w' := by
  have hlt := h.lt
  obtain ⟨hc, k, s, hk, h0, h1, c0, c1, c2, f1, f2⟩ := h
  have hne : some b ≠ row := fun e => by have := hr b e.symm; omega
  have hbk := hg.block b hlt hne
  refine ⟨?_, k, s, hk, h0, h1, (World.cell?_of_block (a := ⟨b, 0, none⟩) hbk).trans c0, (World.cell?_of_block (a := ⟨b, 1, none⟩) hbk).trans c1, (World.cell?_of_block (a := ⟨b, 2, none⟩) hbk).trans c2, (World.frozen?_of_block (a := ⟨b, 1, none⟩) hbk).trans f1, (World.frozen?_of_block (a := ⟨b, 2, none⟩) hbk).trans f2⟩
  rcases hc with e | ⟨x, off, rfl, hx, hl, hz⟩
  · exact Or.inl e
  · refine Or.inr ⟨x, off, rfl, hx, Nat.lt_of_lt_of_le hl hg.size, fun j hj => ?_⟩
    obtain ⟨z, z0, z1, hcz⟩ := hz j hj
    exact ⟨z, z0, z1, (World.cell?_of_block (a := ⟨x, off + j, none⟩) (hg.block x hl (fun e => by have := hr x e.symm; omega))).trans hcz⟩
theorem grown_own {w w1 w2 : World} {b B : Nat} {row : Option Nat} (h : w.grownBy w1 (some b)) (hg : w1.grownBy w2 row) (hr : ∀ g, row = some g → B ≤ g) (hB : w.heap.size ≤ B) : w.grownBy w2 (some b) :=
  ⟨hg.os.trans h.os, hg.tape.trans h.tape, hg.output.trans h.output, Nat.le_trans h.size hg.size, fun k hk hne => (hg.block k (Nat.lt_of_lt_of_le hk h.size) (fun e => by have := hr k e.symm; omega)).trans (h.block k hk hne)⟩
/-- What code3 leaves: some steps, at most 31. -/
def CodeDrawn (b : Nat) (a : Option Addr) (len cap n : Nat) (w : World) (e : Ending) (w' : World) : Prop := ∃ (k : Nat) (fl : List Int) (v : Value), k ≤ 31 ∧ e = .returned v ∧ OwnL w' w.heap.size v k fl ∧ Cur b a len cap (n + 1000) w' ∧ w.grownBy w' (some b)
set_option maxRecDepth 100000 in
set_option maxHeartbeats 4000000 in
theorem code3_loop {b len cap n : Nat} {a : Option Addr} {w : World} (h : Cur b a len cap n w) (hlen : len ≤ 1048576) (hn : n ≤ 100000000) :
    Calls Try.prog 23 #[.pointer (some ⟨b, 0, none⟩)] w fun e w' => CodeDrawn b a len cap n w e w' := by
  have H : Hid (Cur b a len cap n w) := h
  have hbw := h.lt
  clear h
  obtain ⟨i0, hi, hz0, hz1, hz2⟩ := info_parts ins_row
  go_enter Try.func23, Try.ntmps23
  go_wp2_with fail
  refine (pick_any 10 H.out hlen (by omega) (by omega)).mono ?_
  rintro e w1 ⟨r, r0, r1, rfl, HC, HG⟩
  have H1 : Hid (Cur b a len cap (n + 2) w1) := HC
  have G1 : Hid (w.grownBy w1 (some b)) := HG
  clear HC HG H
  go_wp2_with fail
  refine (one_any 20 H1.out hlen (by omega) (by omega)).mono ?_
  rintro e w2 ⟨yes, rfl, HC, HG⟩
  have H2 : Hid (Cur b a len cap (n + 4) w2) := HC
  have G2 : Hid (w.grownBy w2 (some b)) := grown_trans G1.out HG
  clear HC HG H1 G1
  have HLoop : Hid (∀ (w3 : World) (m : Nat), m ≤ 31 → Cur b a len cap (n + 10) w3 → w.grownBy w3 (some b) → True) := fun _ _ _ _ _ => trivial
  cases yes
  · obtain ⟨m0, rfl⟩ := Int.eq_ofNat_of_zero_le r0
    have hm0 : m0 ≤ 9 := by omega
    have hw2 := G2.out.size
    go_wp2
    go_loopw [3, 4] (fun vt vi wr => ∃ (k j : Nat) (fl : List Int), k + j ≤ 31 ∧ vi = .int .i64 (j : Int) ∧ Hid (OwnL wr w.heap.size vt k fl) ∧ Hid (Cur b a len cap (n + 10 + k * 30) wr) ∧ Hid (w.grownBy wr (some b))) (fun _ vi _ => (intOf vi).toNat)
    case atStart => exact ⟨0, m0, [], by omega, rfl, World.ownsRow_nil _ _ _ _, H2.out.up (by omega), G2⟩
    case round =>
      obtain ⟨k, j, fl, hkj, rfl, HO, HC, HG⟩ := hrel
      have hws := HG.out.size
      by_cases hj : 0 < j
      · have hj' : (0 : Int) < (j : Int) := by omega
        have HLo : Hid (∀ g, Value.ownBlock _ = some g → w.heap.size ≤ g ∧ g < wr.heap.size) := World.ownsRow.lt HO.out
        go_wp2_with fail
        refine (instr_any HC.out hlen (by omega)).mono ?_
        rintro e w4 ⟨x0, x1, x2, x3, x4, rfl, hC4, hG4⟩
        have HO4 : Hid (OwnL w4 w.heap.size _ k fl) := World.ownsRow.kept HO.out hG4 (Or.inr (fun e => by have := (HLo.out b e).1; omega))
        have HC4 : Hid (Cur b a len cap (n + 10 + k * 30 + 30) w4) := hC4
        have HG4 : Hid (w.grownBy w4 (some b)) := grown_trans HG.out hG4
        have hs4 : wr.heap.size ≤ w4.heap.size := hG4.size
        clear hC4 hG4
        go_wp2_with (at_builtin; refine wpList_append_own _ rfl _ _ 23 rfl w.heap.size 61 i0 _ 5 40 Try.underlying23 hi hz0 hz1 hz2 rfl (by decide) _ _ _ rfl (World.ownsRow.alloc HO4.out _) ⟨w4.heap.size, 0, none⟩ 1 1 [.int .i64 x0, .int .i64 x1, .int .i64 x2, .int .i64 x3, .int .i64 x4] rfl rfl (ins_cell _ _ _ _ _ _ (by go_simp) (by go_simp) (by go_simp) (by go_simp) (by go_simp)) (ins_of _ _ _ _ _) (by unfold maxLen; omega) (by omega) (by simp; omega) ?_)
        intro v' w5 hown' hgrow _
        have HO5 : Hid (OwnL w5 w.heap.size v' (k + 1) (fl ++ [x0, x1, x2, x3, x4])) := by show OwnL _ _ _ _ _; unfold OwnL; simpa using hown'
        have HC5 : Hid (Cur b a len cap (n + 10 + (k + 1) * 30) w5) := (cur_grown (HC4.out.alloc _) hgrow (fun g hg => (HLo.out g hg).1) hbw).up (by omega)
        have HG5 : Hid (w.grownBy w5 (some b)) := grown_own (grown_alloc HG4.out _) hgrow (fun g hg => (HLo.out g hg).1) (Nat.le_refl _)
        clear hown' hgrow
        obtain ⟨j', rfl⟩ : ∃ j', j = j' + 1 := ⟨j - 1, by omega⟩
        go_wp2
        go_roundw
        case rel => exact ⟨k + 1, j', _, by omega, by go_num, HO5, HC5, HG5⟩
        case measure => simp [intOf] <;> omega
      · have hj0 : j = 0 := by omega
        subst hj0
        go_wp2
        go_ret
        exact ⟨k, fl, _, by omega, rfl, HO.out, HC.out.up (by omega), HG.out⟩
  · go_wp2_with fail
    refine (pick_any 2 H2.out hlen (by omega) (by omega)).mono ?_
    rintro e w3 ⟨r', s0, s1, rfl, HC, HG⟩
    have H3 : Hid (Cur b a len cap (n + 6) w3) := HC
    have G3 : Hid (w.grownBy w3 (some b)) := grown_trans G2.out HG
    clear HC HG H2 G2
    obtain ⟨m1, rfl⟩ := Int.eq_ofNat_of_zero_le s0
    have hm1 : m1 ≤ 1 := by omega
    go_wp2
    go_loopw [3, 4] (fun vt vi wr => ∃ (k j : Nat) (fl : List Int), k + j ≤ 31 ∧ vi = .int .i64 (j : Int) ∧ Hid (OwnL wr w.heap.size vt k fl) ∧ Hid (Cur b a len cap (n + 10 + k * 30) wr) ∧ Hid (w.grownBy wr (some b))) (fun _ vi _ => (intOf vi).toNat)
    case atStart => exact ⟨0, 30 + m1, [], by omega, by go_num, World.ownsRow_nil _ _ _ _, H3.out.up (by omega), G3⟩
    case round =>
      obtain ⟨k, j, fl, hkj, rfl, HO, HC, HG⟩ := hrel
      have hws := HG.out.size
      by_cases hj : 0 < j
      · have hj' : (0 : Int) < (j : Int) := by omega
        have HLo : Hid (∀ g, Value.ownBlock _ = some g → w.heap.size ≤ g ∧ g < wr.heap.size) := World.ownsRow.lt HO.out
        go_wp2_with fail
        refine (instr_any HC.out hlen (by omega)).mono ?_
        rintro e w4 ⟨x0, x1, x2, x3, x4, rfl, hC4, hG4⟩
        have HO4 : Hid (OwnL w4 w.heap.size _ k fl) := World.ownsRow.kept HO.out hG4 (Or.inr (fun e => by have := (HLo.out b e).1; omega))
        have HC4 : Hid (Cur b a len cap (n + 10 + k * 30 + 30) w4) := hC4
        have HG4 : Hid (w.grownBy w4 (some b)) := grown_trans HG.out hG4
        have hs4 : wr.heap.size ≤ w4.heap.size := hG4.size
        clear hC4 hG4
        go_wp2_with (at_builtin; refine wpList_append_own _ rfl _ _ 23 rfl w.heap.size 61 i0 _ 5 40 Try.underlying23 hi hz0 hz1 hz2 rfl (by decide) _ _ _ rfl (World.ownsRow.alloc HO4.out _) ⟨w4.heap.size, 0, none⟩ 1 1 [.int .i64 x0, .int .i64 x1, .int .i64 x2, .int .i64 x3, .int .i64 x4] rfl rfl (ins_cell _ _ _ _ _ _ (by go_simp) (by go_simp) (by go_simp) (by go_simp) (by go_simp)) (ins_of _ _ _ _ _) (by unfold maxLen; omega) (by omega) (by simp; omega) ?_)
        intro v' w5 hown' hgrow _
        have HO5 : Hid (OwnL w5 w.heap.size v' (k + 1) (fl ++ [x0, x1, x2, x3, x4])) := by show OwnL _ _ _ _ _; unfold OwnL; simpa using hown'
        have HC5 : Hid (Cur b a len cap (n + 10 + (k + 1) * 30) w5) := (cur_grown (HC4.out.alloc _) hgrow (fun g hg => (HLo.out g hg).1) hbw).up (by omega)
        have HG5 : Hid (w.grownBy w5 (some b)) := grown_own (grown_alloc HG4.out _) hgrow (fun g hg => (HLo.out g hg).1) (Nat.le_refl _)
        clear hown' hgrow
        obtain ⟨j', rfl⟩ : ∃ j', j = j' + 1 := ⟨j - 1, by omega⟩
        go_wp2
        go_roundw
        case rel => exact ⟨k + 1, j', _, by omega, by go_num, HO5, HC5, HG5⟩
        case measure => simp [intOf] <;> omega
      · have hj0 : j = 0 := by omega
        subst hj0
        go_wp2
        go_ret
        exact ⟨k, fl, _, by omega, rfl, HO.out, HC.out.up (by omega), HG.out⟩
/-- What vars leaves: eight numbers. -/
def VarsDrawn (b : Nat) (a : Option Addr) (len cap n : Nat) (w : World) (e : Ending) (w' : World) : Prop := ∃ (zs : List Int) (v : Value), zs.length = 8 ∧ e = .returned v ∧ Own w' w.heap.size v zs ∧ Cur b a len cap (n + 100) w' ∧ w.grownBy w' (some b)
set_option maxRecDepth 100000 in
set_option maxHeartbeats 4000000 in
theorem vars_any {b len cap n : Nat} {a : Option Addr} {w : World} (h : Cur b a len cap n w) (hlen : len ≤ 1048576) (hn : n ≤ 100000000) :
    Calls Try.prog 24 #[.pointer (some ⟨b, 0, none⟩)] w fun e w' => VarsDrawn b a len cap n w e w' := by
  have H : Hid (Cur b a len cap n w) := h
  have hbw := h.lt
  clear h
  obtain ⟨j0, hj, hy0, hy1, hy2⟩ := info_parts row_info
  go_enter Try.func24, Try.ntmps24
  go_wp2
  go_loopw [3, 4] (fun vt vi wr => ∃ (k : Nat) (zs : List Int), k ≤ 8 ∧ vi = .int .i64 (k : Int) ∧ zs.length = k ∧ Hid (wr.ownsRow w.heap.size 3 1 vt k (zs.map (Value.int .i64))) ∧ Hid (Cur b a len cap (n + k * 2) wr) ∧ Hid (w.grownBy wr (some b))) (fun _ vi _ => 8 - (intOf vi).toNat)
  case atStart => exact ⟨0, [], Nat.zero_le _, rfl, rfl, World.ownsRow_nil _ _ _ _, H, grown_refl _ _⟩
  case round =>
    obtain ⟨k, zs, hk, rfl, hzl, HO, HC, HG⟩ := hrel
    have hws := HG.out.size
    have HLo : Hid (∀ g, Value.ownBlock _ = some g → w.heap.size ≤ g ∧ g < wr.heap.size) := World.ownsRow.lt HO.out
    by_cases hlt : k < 8
    · have hlt' : (k : Int) < 8 := by omega
      have L5 : Hid (Listed b wr.heap.size 5 0 65535 (wr.alloc (.cells #[.int .i64 0, .int .i64 1, .int .i64 2, .int .i64 7, .int .i64 65535] 3))) := listed_new HC.out 3 [0, 1, 2, 7, 65535] (by decide)
      go_wp2_with fail
      refine (among_any (HC.out.alloc _) L5.out (by omega) (by omega) hlen (by omega)).mono ?_
      rintro e w4 ⟨q, q0, q1, rfl, hC4, hG4⟩
      have HO4 : Hid (w4.ownsRow w.heap.size 3 1 _ k (zs.map (Value.int .i64))) := World.ownsRow.kept (World.ownsRow.alloc HO.out _) hG4 (Or.inr (fun e => by have := (HLo.out b e).1; omega))
      have HC4 : Hid (Cur b a len cap (n + k * 2 + 2) w4) := hC4
      have HG4 : Hid (w.grownBy w4 (some b)) := grown_trans (grown_alloc HG.out _) hG4
      have hs4 : wr.heap.size + 1 ≤ w4.heap.size := by have := hG4.size; simpa using this
      clear hC4 hG4 L5
      go_wp2_with (at_builtin; refine wpList_append_own _ rfl _ _ 24 rfl w.heap.size 3 j0 (.int .i64 0) 1 8 Try.underlying24 hj hy0 hy1 hy2 rfl (by decide) _ _ _ rfl (World.ownsRow.alloc HO4.out _) ⟨w4.heap.size, 0, none⟩ 1 1 [.int .i64 q] rfl rfl (new_one w4 q _) (one_of _) (by unfold maxLen; omega) (by omega) (by simp; omega) ?_)
      intro v' w5 hown' hgrow _
      have HO5 : Hid (w5.ownsRow w.heap.size 3 1 v' (k + 1) ((zs ++ [q]).map (Value.int .i64))) := by show World.ownsRow _ _ _ _ _ _ _; simpa using hown'
      have HC5 : Hid (Cur b a len cap (n + (k + 1) * 2) w5) := (cur_grown (HC4.out.alloc _) hgrow (fun g hg => (HLo.out g hg).1) hbw).up (by omega)
      have HG5 : Hid (w.grownBy w5 (some b)) := grown_own (grown_alloc HG4.out _) hgrow (fun g hg => (HLo.out g hg).1) (Nat.le_refl _)
      clear hown' hgrow
      go_wp2
      go_roundw
      case rel => exact ⟨k + 1, zs ++ [q], by omega, by go_num, by simp [hzl], HO5, HC5, HG5⟩
      case measure => simp [intOf]; omega
    · have hk8 : k = 8 := by omega
      subst hk8
      obtain ⟨g, cp, hform⟩ := Joins.ownsRow_form HO.out (by omega)
      subst hform
      have hgl := HLo.out g rfl
      go_wp2_with fail
      refine (one_any 30 HC.out hlen (by omega) (by omega)).mono ?_
      rintro e w4 ⟨yes, rfl, hC4, hG4⟩
      have HO4 : Hid (w4.ownsRow w.heap.size 3 1 (.slice (some ⟨g, 0, none⟩) 8 cp) 8 (zs.map (Value.int .i64))) := World.ownsRow.kept HO.out hG4 (Or.inr (fun e => by have := (HLo.out b e).1; omega))
      have HC4 : Hid (Cur b a len cap (n + 8 * 2 + 2) w4) := hC4
      have HG4 : Hid (w.grownBy w4 (some b)) := grown_trans HG.out hG4
      clear hC4 hG4
      cases yes
      · go_wp2
        go_ret
        exact ⟨zs, _, hzl, rfl, (by unfold Own; rw [hzl]; exact HO4.out), HC4.out.up (by omega), HG4.out⟩
      · have c0 := HO4.out.cellAt 0 (by omega)
        have f0 := HO4.out.frozenAt 0
        obtain ⟨z0, hz0⟩ : ∃ z0, (zs.map (Value.int .i64))[0]? = some z0 := ⟨_, List.getElem?_eq_getElem (by simp; omega)⟩
        rw [hz0] at c0
        obtain ⟨s1, s2⟩ := HO4.out.stored 0 (.int .i64 65536)
        have S1 : Hid ((w4.setCell ⟨g, 0, none⟩ (.int .i64 65536)).ownsRow w.heap.size 3 1 (.slice (some ⟨g, 0, none⟩) 8 cp) 8 ((zs.set 0 65536).map (Value.int .i64))) := by show World.ownsRow _ _ _ _ _ _ _; simpa [List.map_set] using s1
        clear s1 s2 hz0
        go_wp2
        go_ret
        exact ⟨zs.set 0 65536, _, by simpa using hzl, rfl, (by unfold Own; rw [show (zs.set 0 65536).length = 8 by simpa using hzl]; exact S1.out), (cur_set HC4.out (by omega)).up (by omega), grown_new HG4.out (by omega)⟩
theorem drawRun_any {len cap : Nat} {a : Option Addr} {w : World} (hc : Src w.heap.size a len w) (hlen : len ≤ 1048576) :
    Calls Try.prog 5 #[.slice a len cap] w fun e w' => ∃ (k : Nat) (fl zs : List Int) (a1 a2 : Option Addr) (c1 c2 : Nat), k ≤ 31 ∧ fl.length = k * 5 ∧ zs.length = 8 ∧ e = .returned (.tuple #[.slice a1 k c1, .slice a2 8 c2]) ∧ Ints w' a1 fl ∧ Ints w' a2 zs ∧ Below w.heap.size w w' := by
  have HCode : Hid (Src w.heap.size a len w) := hc
  clear hc
  go_enter Try.func5, Try.ntmps5
  go_wp2_with fail
  refine (code3_loop (cur_new _ HCode.out) hlen (by omega)).mono ?_
  rintro e w1 ⟨k, fl, v, hk, rfl, hO, hC, hG⟩
  obtain ⟨a1, c1, rfl, hM⟩ := hO.mine
  have HL : Hid (fl.length = k * 5) := hO.len
  have H1 : Hid (Cur w.heap.size a len cap (0 + 1000) w1) := hC
  have M1 : Hid (Mine w1 (w.heap.size + 1) a1 fl) := by show Mine _ _ _ _; simpa using hM
  have B1 : Hid (Below w.heap.size w w1) := below_of_grown ((Below.refl _ _).alloc (Nat.le_refl _) _) (by simp) hG
  have z1 : w.heap.size < w1.heap.size := by have := hG.size; simp at this; omega
  clear hO hC hG hM
  go_wp2_with fail
  refine (vars_any H1.out hlen (by omega)).mono ?_
  rintro e w2 ⟨zs, v, hzl, rfl, hO, hC, hG⟩
  obtain ⟨a2, c2, rfl, hM⟩ := hO.mine
  rw [hzl]
  have I1 : Hid (Ints w2 a1 fl) := by
    show Ints _ _ _
    rcases M1.out with e | ⟨g, off, rfl, h0, hlt, hcz⟩
    · exact Or.inl e
    · exact Or.inr ⟨g, off, rfl, Nat.lt_of_lt_of_le hlt hG.size, fun i hi => (World.cell?_of_block (a := ⟨g, off + i, none⟩) (hG.block g hlt (by simp; omega))).trans (hcz i hi).1⟩
  have I2 : Hid (Ints w2 a2 zs) := hM.ints
  have B2 : Hid (Below w.heap.size w w2) := below_of_grown B1.out (by omega) hG
  clear hO hC hG hM
  go_wp2
  go_ret2
  exact ⟨k, fl, zs, a1, a2, c1, c2, hk, HL.out, hzl, rfl, I1.out, I2.out, B2.out⟩
theorem drawGood_any {len cap : Nat} {a : Option Addr} {w : World} (hc : Src w.heap.size a len w) (hlen : len ≤ 1048576) :
    Calls Try.prog 36 #[.slice a len cap] w fun e w' => ∃ (k : Nat) (fl : List Int) (a1 : Option Addr) (c1 : Nat), k ≤ 31 ∧ fl.length = k * 5 ∧ e = .returned (.slice a1 k c1) ∧ Ints w' a1 fl ∧ Below w.heap.size w w' := by
  have HCode : Hid (Src w.heap.size a len w) := hc
  clear hc
  go_enter Try.func36, Try.ntmps36
  go_wp2_with fail
  refine (code3_loop (cur_new _ HCode.out) hlen (by omega)).mono ?_
  rintro e w1 ⟨k, fl, v, hk, rfl, hO, hC, hG⟩
  obtain ⟨a1, c1, rfl, hM⟩ := hO.mine
  have HL : Hid (fl.length = k * 5) := hO.len
  have M1 : Hid (Ints w1 a1 fl) := hM.ints
  have B1 : Hid (Below w.heap.size w w1) := below_of_grown ((Below.refl _ _).alloc (Nat.le_refl _) _) (by simp) hG
  clear hO hC hG hM
  go_wp2
  go_ret
  exact ⟨k, fl, a1, c1, hk, HL.out, rfl, M1.out, B1.out⟩
theorem drawCost_any {len cap : Nat} {a : Option Addr} {w : World} (hc : Src w.heap.size a len w) (hlen : len ≤ 1048576) :
    Calls Try.prog 12 #[.slice a len cap] w fun e w' => ∃ (k : Nat) (fl : List Int) (a1 : Option Addr) (c1 : Nat), k ≤ 31 ∧ fl.length = k * 5 ∧ e = .returned (.slice a1 k c1) ∧ Ints w' a1 fl ∧ Below w.heap.size w w' := by
  have HCode : Hid (Src w.heap.size a len w) := hc
  clear hc
  go_enter Try.func12, Try.ntmps12
  go_wp2_with fail
  refine (drawGood_any HCode.out hlen).mono ?_
  rintro e w1 ⟨k, fl, a1, c1, hk, hl, rfl, hI, hB⟩
  have HL : Hid (fl.length = k * 5) := hl
  have M1 : Hid (Ints w1 a1 fl) := hI
  have B1 : Hid (Below w.heap.size w w1) := hB
  clear hl hI hB
  go_wp2
  go_ret
  exact ⟨k, fl, a1, c1, hk, HL.out, rfl, M1.out, B1.out⟩
end Go.Proofs.Ytldmeffhbabanaa.cur
