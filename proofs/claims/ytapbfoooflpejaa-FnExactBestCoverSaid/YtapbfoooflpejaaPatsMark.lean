/-
  The laws' marks on a copy of patterns: what they write is the copy alone.
-/
import Derived.Test.YtapbfoooflpejaaProg
import Derived.Test.YtapbfoooflpejaaInts
import Derived.Test.YtapbfoooflpejaaMarks
import Derived.Test.YtapbfoooflpejaaPats
import Derived.WalkKit
import Derived.WalkSpells
import Derived.Below
import Derived.Handy
namespace Go.Proofs.Ytapbfoooflpejaa.walks
open Go.RowKit Go.Proofs.Ytapbfoooflpejaa.ints
set_option linter.unusedVariables false

/-- What may be marked: a list of blocks in block b, steps in blocks behind it. -/
structure MarkP (w : World) (b E n : Nat) (l : Nat → Nat) (G : Nat → Nat) : Prop where
  lt : b < w.heap.size
  cell : ∀ k, k < n → w.cell? ⟨b, k * 2, none⟩ = some (.slice (some ⟨G k, 0, none⟩) (l k) (l k))
  num : ∀ k, k < n → (∃ v, w.cell? ⟨b, k * 2 + 1, none⟩ = some v) ∧ w.frozen? ⟨b, k * 2 + 1, none⟩ = false
  code : ∀ k, k < n → ∃ zs : List Int, zs.length = l k ∧ Mine w (b + 1) (some ⟨G k, 0, none⟩) zs
  ne : ∀ k, k < n → b < G k
  hi : ∀ k, k < n → 0 < l k → G k < E
  ap : ∀ j k, j < n → k < n → j ≠ k → 0 < l j → 0 < l k → G j ≠ G k
theorem MineP.mark {w : World} {b E n : Nat} {f : Nat → Pv} {G : Nat → Nat} (h : MineP w b E n f G) : MarkP w b E n (fun k => (f k).zs.length) G :=
  ⟨h.lt, fun k hk => by rw [(h.cell (k * 2) (by omega)).1, cellP_s]; rfl, fun k hk => ⟨⟨_, (h.cell (k * 2 + 1) (by omega)).1⟩, (h.cell (k * 2 + 1) (by omega)).2⟩, fun k hk => ⟨(f k).zs, rfl, h.code k hk⟩, h.ne, h.hi, h.ap⟩
/-- Nothing has turned but blocks from b up to E. -/
structure OnlyP (W W' : World) (b E : Nat) : Prop where
  os : W'.os = W.os
  tape : W'.tape = W.tape
  output : W'.output = W.output
  size : W'.heap.size = W.heap.size
  block : ∀ k, k < W.heap.size → (k < b ∨ E ≤ k) → W'.heap[k]? = W.heap[k]?
theorem OnlyP.refl (W : World) (b E : Nat) : OnlyP W W b E := ⟨rfl, rfl, rfl, rfl, fun _ _ _ => rfl⟩
theorem OnlyP.below {W W' : World} {b E : Nat} (h : OnlyP W W' b E) : Below b W W' :=
  ⟨h.os, h.tape, h.output, Nat.le_of_eq h.size.symm, fun k hk => by
    by_cases e : k < W.heap.size
    · exact h.block k e (Or.inl hk)
    · rw [Array.getElem?_eq_none (by have := h.size; omega), Array.getElem?_eq_none (by omega)]⟩
theorem OnlyP.mine {W W' : World} {b E B : Nat} {a : Option Addr} {zs : List Int} (h : OnlyP W W' b E) (hE : E ≤ B) (hi : Mine W B a zs) : Mine W' B a zs := by
  rcases hi with hi | ⟨b', off', e', h0, hl, hc⟩
  · exact Or.inl hi
  · have hb := h.block b' hl (Or.inr (by omega))
    exact Or.inr ⟨b', off', e', h0, by rw [h.size]; exact hl, fun i hi => ⟨(World.cell?_of_block hb).trans (hc i hi).1, (World.frozen?_of_block hb).trans (hc i hi).2⟩⟩
theorem OnlyP.set {W W' : World} {b E i : Nat} {v : Value} (h : OnlyP W W' b E) (hE : b < E) : OnlyP W (W'.setCell ⟨b, i, none⟩ v) b E :=
  ⟨h.os, h.tape, h.output, by simpa [World.setCell] using h.size, fun k hk ho => (Below.heap_setCell _ _ _ _ (by simp; omega)).trans (h.block k hk ho)⟩
theorem OnlyP.only {W W' W'' : World} {b E g len : Nat} (h : OnlyP W W' b E) (hg : b < g) (hE : 0 < len → g < E) (ho : Only W' W'' (b + 1) (some ⟨g, 0, none⟩) len) : OnlyP W W'' b E := by
  rcases ho.2 with rfl | ⟨h0, b', off, e, hB, hgr⟩
  · exact h
  · simp only [Option.some.injEq, Addr.mk.injEq] at e
    obtain ⟨rfl, _⟩ := e
    have := hE h0
    exact ⟨hgr.os.trans h.os, hgr.tape.trans h.tape, hgr.output.trans h.output, ho.1.trans h.size, fun k hk hx => (hgr.block k (by rw [h.size]; exact hk) (by simp; omega)).trans (h.block k hk hx)⟩
theorem MarkP.only {W W' : World} {b E n k : Nat} {l G : Nat → Nat} (h : MarkP W b E n l G) (hk : k < n) (ho : Only W W' (b + 1) (some ⟨G k, 0, none⟩) (l k)) {zs : List Int} (hz : zs.length = l k) (hm : Mine W' (b + 1) (some ⟨G k, 0, none⟩) zs) : MarkP W' b E n l G := by
  rcases ho.2 with rfl | ⟨h0, b', off, e, hB, hgr⟩
  · exact h
  · simp only [Option.some.injEq, Addr.mk.injEq] at e
    obtain ⟨rfl, _⟩ := e
    have hb := h.ne k hk
    have hs := ho.1
    have hq := hgr.block b h.lt (by simp; omega)
    refine ⟨by rw [hs]; exact h.lt, fun j hj => (World.cell?_of_block hq).trans (h.cell j hj), fun j hj => ?_, fun j hj => ?_, h.ne, h.hi, h.ap⟩
    · obtain ⟨⟨v, hv⟩, hf⟩ := h.num j hj
      exact ⟨⟨v, (World.cell?_of_block hq).trans hv⟩, (World.frozen?_of_block hq).trans hf⟩
    · by_cases e : j = k
      · subst e; exact ⟨zs, hz, hm⟩
      · obtain ⟨ys, hy, hM⟩ := h.code j hj
        by_cases l0 : 0 < l j
        · exact ⟨ys, hy, Only.mine ho hM (fun b1 o1 b2 o2 e1 e2 => by
            simp only [Option.some.injEq, Addr.mk.injEq] at e1 e2
            have := h.ap k j hk hj (fun q => e q.symm) h0 l0
            omega)⟩
        · exact ⟨ys, hy, Or.inl (List.length_eq_zero_iff.mp (by omega))⟩
theorem MarkP.set {W : World} {b E n k : Nat} {l G : Nat → Nat} {v : Value} (h : MarkP W b E n l G) (hk : k < n) : MarkP (W.setCell ⟨b, k * 2 + 1, none⟩ v) b E n l G := by
  refine ⟨by simpa [World.setCell] using h.lt, fun j hj => ?_, fun j hj => ⟨?_, by simpa using (h.num j hj).2⟩, fun j hj => ?_, h.ne, h.hi, h.ap⟩
  · rw [World.cell?_setCell_other _ _ _ _ (by simp; try omega)]; exact h.cell j hj
  · obtain ⟨⟨u, hu⟩, _⟩ := h.num j hj
    by_cases e : k = j
    · subst e; rw [World.cell?_setCell_same _ _ _ hu]; exact ⟨_, rfl⟩
    · rw [World.cell?_setCell_other _ _ _ _ (by simp; try omega)]; exact ⟨u, hu⟩
  · obtain ⟨zs, hz, hM⟩ := h.code j hj
    exact ⟨zs, hz, mine_far (by have := h.ne j hj; omega) hM⟩
theorem OnlyP.of_only {W W' : World} {B x o len E : Nat} (h : Only W W' B (some ⟨x, o, none⟩) len) (hE : 0 < len → x < E) : OnlyP W W' x E := by
  rcases h.2 with rfl | ⟨h0, b', off, e, _, hgr⟩
  · exact OnlyP.refl _ _ _
  · simp only [Option.some.injEq, Addr.mk.injEq] at e
    obtain ⟨rfl, _⟩ := e
    have := hE h0
    exact ⟨hgr.os, hgr.tape, hgr.output, h.1, fun k hk hx => hgr.block k hk (by simp; omega)⟩
theorem OnlyP.minep {W W' : World} {b E b' E' n : Nat} {f : Nat → Pv} {G : Nat → Nat} (h : OnlyP W W' b E) (hE : E ≤ b') (hm : MineP W b' E' n f G) : MineP W' b' E' n f G := by
  have hb := h.block b' hm.lt (Or.inr hE)
  exact ⟨by rw [h.size]; exact hm.lt, fun i hi => ⟨(World.cell?_of_block hb).trans (hm.cell i hi).1, (World.frozen?_of_block hb).trans (hm.cell i hi).2⟩, fun k hk => h.mine (by omega) (hm.code k hk), hm.ne, hm.hi, hm.ap⟩
set_option maxRecDepth 100000 in
set_option maxHeartbeats 4000000 in
theorem pats_mark (s0 : Int) (h0 : 0 ≤ s0) (h01 : s0 ≤ 10000000) (b E n cap : Nat) (l G : Nat → Nat) (W : World) (hn : n ≤ 1048576) (hlen : Hid (∀ k, k < n → l k ≤ 1048576)) (hbE : b < E) (h : Hid (MarkP W b E n l G)) :
    Calls Try.prog 14 #[.slice (some ⟨b, 0, none⟩) n cap, .int .i64 s0] W fun e W' => ∃ s : Int, e = .returned (.int .i64 s) ∧ 0 ≤ s ∧ s ≤ 100000000000000 ∧ OnlyP W W' b E := by
  go_enter Try.func14, Try.ntmps14
  go_wp2
  go_loopw [1, 5] (fun vk vi wr => ∃ (k : Nat) (s : Int), k ≤ n ∧ vi = .int .i64 k ∧ vk = .int .i64 s ∧ 0 ≤ s ∧ s ≤ s0 + (k : Int) * 1048577 ∧ Hid (MarkP wr b E n l G) ∧ Hid (OnlyP W wr b E)) (fun _ vi _ => n - (intOf vi).toNat)
  case atStart => exact ⟨0, s0, Nat.zero_le _, rfl, rfl, h0, by omega, h, OnlyP.refl _ _ _⟩
  case round =>
    obtain ⟨k, s, hk, rfl, rfl, hs0, hs1, HM, HO⟩ := hrel
    by_cases hlt : k < n
    · have hkI : (k : Int) < 1048576 := by omega
      have hs2 : s ≤ 10000000000000 := by omega
      have HL := hlen.out k hlt
      have c0 := HM.out.cell k hlt
      obtain ⟨zs, hz, hm⟩ := HM.out.code k hlt
      have HZ : Hid (zs.length = l k) := hz
      have HMM : Hid (Mine wr (b + 1) (some ⟨G k, 0, none⟩) zs) := hm
      clear hz hm
      go_wp2_with fail
      refine (mark_from s hs0 (by omega) _ _ _ zs _ (b + 1) HZ HL HMM).mono ?_
      rintro e w1 ⟨rfl, hm, ho⟩
      have HM1 : Hid (MarkP w1 b E n l G) := HM.out.only hlt ho (upFrom_len _ _) hm
      have HO1 : Hid (OnlyP W w1 b E) := HO.out.only (HM.out.ne k hlt) (HM.out.hi k hlt) ho
      have c0 := HM1.out.cell k hlt
      obtain ⟨⟨v1, d1⟩, f1⟩ := HM1.out.num k hlt
      have hs3 : s + (l k : Int) ≤ 100000000000000 := by omega
      have hs4 : 0 ≤ s + (l k : Int) := by omega
      have HLI : (l k : Int) ≤ 1048576 := by omega
      clear HM HO hm ho
      obtain ⟨s', ES⟩ : ∃ s', Hid (s' = s + (l k : Int)) := ⟨_, rfl⟩
      have hs5 : s' ≤ s + 1048576 := by have := ES.out; omega
      rw [← ES.out] at hs3 hs4 ⊢
      go_wp2
      go_roundw
      case rel =>
        refine ⟨k + 1, s' + 1, by omega, by go_num, rfl, by omega, by omega, ?_, ?_⟩
        · exact HM1.out.set hlt
        · exact HO1.out.set hbE
      case measure => simp [intOf]; omega
    · go_wp2
      go_ret
      exact ⟨s, rfl, hs0, by omega, HO.out⟩
end Go.Proofs.Ytapbfoooflpejaa.walks
