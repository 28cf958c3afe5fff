/-
  What the program's greatestAt answers; it makes new memory alone.
-/
import Derived.Test.YtfagokboeeimjaaProg
import Derived.Test.YtfagokboeeimjaaGreedyMath
import Derived.Test.YtfagokboeeimjaaCoverImpl
namespace Go.Proofs.Ytfagokboeeimjaa.walks
open Go.RowKit Go.Proofs.Ytfagokboeeimjaa.math Go.Proofs.Ytfagokboeeimjaa.ints
set_option linter.unusedVariables false
set_option maxRecDepth 100000

/-- A choice as an answer. -/
def chV (o : Option Nat) : Value := match o with
  | none => .tuple #[.int .i64 0, .bool false]
  | some k => .tuple #[.int .i64 (k : Int), .bool true]
/-- What a call of a choosing function answers. -/
def ChAns (o : Option Nat) (W : World) (e : Ending) (W' : World) : Prop := (∃ (x : Int), e = .returned (.tuple #[.int .i64 x, .bool o.isSome]) ∧ ∀ k, o = some k → x = (k : Int)) ∧ Below W.heap.size W W'
theorem gr_small {t : List Int} {f : Nat → Pv} {a : Nat} : ∀ {k : Nat}, (∀ j, j < k → (f j).zs.length ≤ 10) → ∀ (m : Nat := k), m ≤ k → (grTo t f a m).2 ≤ 10 := by
  intro k h m hm
  by_cases q : 0 < (grTo t f a m).2
  · have e := gr_inv t f a m q
    rw [e.2.2]
    exact Nat.le_trans (named_le _ _) (h _ (by omega))
  · omega
set_option maxHeartbeats 4000000 in
theorem impl_greatest (t : List Int) (tl tb to tc sb : Nat) (gv : Option Addr) (n gc : Nat) (f : Nat → Pv) (G : Nat → Nat) (at0 : Nat) (W : World) (hz : Hid (t.length = tl)) (ht : Hid (TreeIn W t tb to tc sb 0 t.length)) (hT : Hid (TilesM W gv n f G)) (hg : Hid (GoodPs f n)) (hn : n ≤ 12) (hat : at0 < tl) :
    Calls Try.prog 61 #[.agg #[.slice (some ⟨tb, to, none⟩) tl tc, .slice (some ⟨sb, 0, none⟩) tl tl, .slice gv n gc], .int .i64 (at0 : Int)] W fun e W' => ChAns (chG t f n at0) W e W' := by
  go_enter Try.func61, Try.ntmps61
  go_wp2_with fail
  go_loopw [6, 7, 15] (fun vg vm vi wr => ∃ k : Nat, k ≤ n ∧ vi = .int .i64 (k : Int) ∧ vg = .int .i64 ((grTo t f at0 k).1 : Int) ∧ vm = .int .i64 ((grTo t f at0 k).2 : Int) ∧ Hid (Bc wr W.heap.size tb to tl tc sb gv n gc) ∧ Hid (Below W.heap.size W wr)) (fun _ _ vi _ => n - (intOf vi).toNat)
  case atStart => exact ⟨0, Nat.zero_le _, rfl, rfl, rfl, ⟨by simp, by go_simp, by go_simp, by go_simp⟩, by show Below _ _ _; repeat (first | exact Below.refl _ _ | refine Below.drew ?_ | refine Below.setCell ?_ (by simp; try omega) _ | refine Below.alloc ?_ (by simp; try omega) _)⟩
  case round =>
    obtain ⟨k, hk, rfl, rfl, rfl, HBc, HB⟩ := hrel
    obtain ⟨gg, hgg⟩ : ∃ gg, Hid ((grTo t f at0 k).1 = gg) := ⟨_, rfl⟩
    obtain ⟨gm, hgm⟩ : ∃ gm, Hid ((grTo t f at0 k).2 = gm) := ⟨_, rfl⟩
    rw [hgg.out, hgm.out]
    by_cases hlt : k < n
    · obtain ⟨gl, gz, gw, gc0, gc1⟩ := hg.out k hlt
      obtain ⟨gb, hgv, hgb, hgc⟩ := (hT.out.kept HB.out).row (by omega)
      subst hgv
      obtain ⟨t0, t1, t2⟩ := hgc k hlt
      obtain ⟨nm, hnm⟩ : ∃ nm : Nat, Hid (namedTo (f k).zs (f k).zs.length = nm) := ⟨_, rfl⟩
      rw [hnm.out] at t2
      have hgbw : gb < wr.heap.size := hgb
      have hWr := HBc.out.1
      obtain ⟨X, hX⟩ : ∃ X, Hid (wr.alloc (.cells #[.func (.func 72) #[] #[.pointer (some ⟨G k, 0, none⟩)], .int .i64 (f k).c, .int .i64 (nm : Int)] 72) = X) := ⟨_, rfl⟩
      have HX : Hid (Below wr.heap.size wr X) := by show Below _ _ _; rw [← hX.out]; repeat (first | exact Below.refl _ _ | refine Below.drew ?_ | refine Below.setCell ?_ (by simp; try omega) _ | refine Below.alloc ?_ (by simp; try omega) _)
      have hXs : X.heap.size = wr.heap.size + 1 := by rw [← hX.out]; simp
      have x2 : X.cell? ⟨wr.heap.size, 2, none⟩ = some (.int .i64 (nm : Int)) := by rw [← hX.out]; go_simp
      have HBX : Hid (Below W.heap.size W X) := HB.out.trans (HX.out.mono HB.out.size)
      have HBcX : Hid (Bc X W.heap.size tb to tl tc sb (some ⟨gb, 0, none⟩) n gc) := HBc.out.kept HX.out
      obtain ⟨hGl, ka, kc, hbox, hIk⟩ := (hT.out.kept HBX.out).box k hlt
      have HTD : Hid (TreeIn X t tb to tc sb 0 tl) := by have := ht.out.kept HBX.out; rw [hz.out] at this; exact this
      have HIK : Hid (Ints X ka (f k).zs) := hIk
      have hltI : (k : Int) < (n : Int) := by omega
      have b0 := HBc.out.2.1
      have b1 := HBc.out.2.2.1
      clear hgc hIk
      have hgmb : gm ≤ 10 := by
        rw [← hgm.out]
        exact gr_small (k := k) (fun j hj => (hg.out j (by omega)).1) k (Nat.le_refl _)
      have hnmb : nm ≤ 10 := by rw [← hnm.out]; exact Nat.le_trans (named_le _ _) gl
      go_wp2_with fail
      rw [hX.out]
      cases hf : fitL t (f k).zs at0 with
      | none =>
        refine Calls.mono (holes_none hf tb to tc sb 0 tl tl (G k) (f k).c nm ka (f k).zs.length kc X HTD hz hat hGl hbox HIK rfl gl gw) ?_
        rintro e w2 ⟨rfl, hB⟩
        have HB2 : Hid (Below W.heap.size W w2) := HBX.out.trans (hB.mono HBX.out.size)
        have HBc2 : Hid (Bc w2 W.heap.size tb to tl tc sb (some ⟨gb, 0, none⟩) n gc) := HBcX.out.kept hB
        have y2 := (hB.cell (p := ⟨wr.heap.size, 2, none⟩) (by show wr.heap.size < _; omega)).trans x2
        clear hB x2 b0 b1 t0 t1 t2
        have HN : Hid (grTo t f at0 (k + 1) = grTo t f at0 k) := gr_no1 hf
        go_wp2_with fail
        refine ⟨⟨k + 1, by omega, by simp, by rw [HN.out, hgg.out], by rw [HN.out, hgm.out], HBc2, HB2⟩, by simp [intOf]; omega⟩
      | some hs =>
        refine Calls.mono (holes_some hf tb to tc sb 0 tl tl (G k) (f k).c nm ka (f k).zs.length kc X HTD hz hat hGl hbox HIK rfl gl gw) ?_
        rintro e w2 ⟨a2, c2, rfl, hM2, hB⟩
        have HB2 : Hid (Below W.heap.size W w2) := HBX.out.trans (hB.mono HBX.out.size)
        have HBc2 : Hid (Bc w2 W.heap.size tb to tl tc sb (some ⟨gb, 0, none⟩) n gc) := HBcX.out.kept hB
        have y2 := (hB.cell (p := ⟨wr.heap.size, 2, none⟩) (by show wr.heap.size < _; omega)).trans x2
        clear hB x2 b0 b1 t0 t1 t2 hM2
        by_cases hq : gm < nm
        · have hqI : (gm : Int) < (nm : Int) := by omega
          have HN : Hid (grTo t f at0 (k + 1) = (k, nm)) := by
            have q : (grTo t f at0 k).2 < nmP f k := by rw [hgm.out]; show gm < namedTo _ _; rw [hnm.out]; exact hq
            have e := gr_yes (by rw [hf]; rfl) q
            show _ = _
            rw [e]
            show (k, namedTo _ _) = _
            rw [hnm.out]
          go_wp2_with fail
          go_region_held3 (fun w' => w'.cell? ⟨wr.heap.size, 2, none⟩ = some (.int .i64 (nm : Int))) (first | assumption | exact y2 | go_keep) (fail)
          go_wp2_with fail
          refine ⟨⟨k + 1, by omega, by simp, by rw [HN.out], by rw [HN.out], HBc2, HB2.out.drew⟩, by simp [intOf]; omega⟩
        · have hqI : (nm : Int) ≤ (gm : Int) := by omega
          have HN : Hid (grTo t f at0 (k + 1) = grTo t f at0 k) := by
            refine gr_no2 ?_
            rw [hgm.out]
            show namedTo _ _ ≤ gm
            rw [hnm.out]
            omega
          clear hq
          go_wp2_with fail
          refine ⟨⟨k + 1, by omega, by simp, by rw [HN.out, hgg.out], by rw [HN.out, hgm.out], HBc2, HB2⟩, by simp [intOf]; omega⟩
    · have hkn : k = n := by omega
      subst hkn
      have HE : Hid (∀ j, chG t f k at0 = some j → gg = j) := fun j hj => by
        unfold chG at hj
        rw [hgg.out, hgm.out] at hj
        split at hj
        · cases hj; rfl
        · cases hj
      have HS : Hid ((chG t f k at0).isSome = decide (0 < gm)) := by
        show _ = _
        unfold chG
        rw [hgm.out]
        by_cases q : 0 < gm
        · rw [if_pos q, decide_eq_true q]; rfl
        · rw [if_neg q, decide_eq_false q]; rfl
      clear hlt
      have b2 := HBc.out.2.2.2
      have hWr := HBc.out.1
      go_wp2_with fail
      go_ret2
      exact ⟨⟨(gg : Int), by rw [HS.out]; rfl, fun j hj => by rw [HE.out j hj]⟩, HB.out⟩
end Go.Proofs.Ytfagokboeeimjaa.walks
