/-
  What the program's namesRead and NamesNeeded answer: the names that are needed, rising, in memory of their own.
-/
import Derived.Test.YtfejfbafoaiidaaProg
import Derived.Test.YtfejfbafoaiidaaMagMath
import Derived.Test.YtfejfbafoaiidaaCodeMath
import Derived.Test.YtfejfbafoaiidaaRunMath
import Derived.Test.YtfejfbafoaiidaaNamesMath
import Derived.Test.YtfejfbafoaiidaaInts
import Derived.Test.YtfejfbafoaiidaaOwnInts
import Derived.Test.YtfejfbafoaiidaaRecsInstr
import Derived.Test.YtfejfbafoaiidaaGrow
import Derived.Test.YtfejfbafoaiidaaNeedSpec
import Derived.Test.YtfejfbafoaiidaaStepImpl
import Derived.Test.YtfejfbafoaiidaaStepKinds
import Derived.Test.YtfejfbafoaiidaaStepsOf
import Derived.Test.YtfejfbafoaiidaaNamesImpl
import Derived.WalkKit
import Derived.WalkSpells
import Derived.Below
import Derived.Handy
import Derived.Deep.OwnRows
namespace Go.Proofs.Ytfejfbafoaiidaa.walks
open Go.RowKit Go.Proofs.Ytfejfbafoaiidaa.math Go.Proofs.Ytfejfbafoaiidaa.ints
set_option linter.unusedVariables false
set_option maxRecDepth 100000

/-- What a step looks at, as a list in memory of its own. -/
def UseTold (us : List Int) (W : World) (e : Ending) (W' : World) : Prop := ∃ a cap, e = .returned (.slice a us.length cap) ∧ Mine W' W.heap.size a us ∧ Below W.heap.size W W'
theorem mine_new1 (W : World) (x : Int) (t : TypeId) {b B : Nat} (hb : b = W.heap.size) (hB : B ≤ b) : Mine (W.alloc (.cells #[.int .i64 x] t)) B (some ⟨b, 0, none⟩) [x] := by
  subst hb
  exact Or.inr ⟨W.heap.size, 0, rfl, hB, by simp, fun i hi => by
    match i, hi with
    | 0, _ => simp⟩
theorem mine_new2 (W : World) (x y : Int) (t : TypeId) {b B : Nat} (hb : b = W.heap.size) (hB : B ≤ b) : Mine (W.alloc (.cells #[.int .i64 x, .int .i64 y] t)) B (some ⟨b, 0, none⟩) [x, y] := by
  subst hb
  exact Or.inr ⟨W.heap.size, 0, rfl, hB, by simp, fun i hi => by
    match i, hi with
    | 0, _ => simp
    | 1, _ => simp⟩
theorem impl_uses (o d a b n : Int) (W : World) (hg : goodI o d a b n = true) : Calls Try.prog 25 #[stepV o d a b n] W fun e W' => UseTold (usesL o a b) W e W' := by
  rcases good_cases hg with ⟨rfl, _⟩ | ⟨rfl, _⟩ | ⟨rfl, _⟩ | ⟨⟨o3, o7⟩, _⟩
  · rw [show stepV 1 d a b n = .iface 70 (.agg #[.int .i64 d, .int .i64 n]) from rfl]
    have q0 := is_cy
    have q1 := is_cp
    have q2 := is_ct
    go_enter Try.func25, Try.ntmps25
    go_wp2
    go_ret
    exact ⟨none, 0, rfl, Or.inl rfl, by go_grown⟩
  · rw [show stepV 2 d a b n = .iface 72 (.agg #[.int .i64 d, .int .i64 a]) from rfl]
    have q0 := is_yy
    go_enter Try.func25, Try.ntmps25
    go_wp2
    go_ret
    exact ⟨_, _, rfl, mine_new1 _ _ _ (by simp) (by simp), by go_grown⟩
  · rw [show stepV 8 d a b n = .iface 77 (.agg #[.int .i64 a]) from rfl]
    have q0 := is_ty
    have q1 := is_tp
    have q2 := is_tt
    go_enter Try.func25, Try.ntmps25
    go_wp2
    go_ret
    exact ⟨_, _, rfl, mine_new1 _ _ _ (by simp) (by simp), by go_grown⟩
  · rw [stepV_p o3 o7]
    have HU : Hid (usesL o a b = [a, b]) := by show _ = _; unfold usesL; rw [if_neg (by omega), if_pos ⟨o3, o7⟩]
    have q0 := is_py
    have q1 := is_pp
    go_enter Try.func25, Try.ntmps25
    go_wp2
    go_ret
    rw [HU.out]
    exact ⟨_, _, rfl, mine_new2 _ _ _ _ (by simp) (by simp), by go_grown⟩
theorem impl_mark2 (o d a b n : Int) (g : Nat) (f : Nat → Bool) (W : World) (hg : goodI o d a b n = true) (h : Marked W g f) :
    Calls Try.prog 26 #[.pointer (some ⟨g, 0, none⟩), stepV o d a b n] W fun e W' => e = .returned (.tuple #[]) ∧ Marked W' g (fun i => f i || (!(o == 8) && i == d.toNat)) ∧ W.grownBy W' (some g) :=
  (impl_markAny o d a b n g g f W hg (Nat.le_refl _) h).mono fun e w' ⟨h1, h2, _, h3⟩ => ⟨h1, h2, h3⟩
theorem marked_far {W W' : World} {g g' : Nat} {f : Nat → Bool} (h : Marked W g f) (hg : W.grownBy W' (some g')) (hne : g ≠ g') : Marked W' g f := by
  have hl := h.lt
  obtain ⟨c, hc, r⟩ := h
  exact ⟨c, (hg.block g hl (by simpa using hne)).trans hc, r⟩
theorem marked_kept {W W' : World} {g : Nat} {f : Nat → Bool} (h : Marked W g f) (hb : Below W.heap.size W W') : Marked W' g f := by
  have hl := h.lt
  obtain ⟨c, hc, r⟩ := h
  exact ⟨c, (hb.block g hl).trans hc, r⟩
theorem marked_same {W : World} {g : Nat} {f f' : Nat → Bool} (h : Marked W g f) (e : ∀ i, i < 8 → f i = f' i) : Marked W g f' := World.rowIs.congr h (fun i hi => by rw [e i hi])
theorem mine_off {W W' : World} {B g : Nat} {a : Option Addr} {zs : List Int} (h : Mine W B a zs) (hg : W.grownBy W' (some g)) (hB : g < B) : Mine W' B a zs := by
  rcases h with h | ⟨b, off, e, h0, hl, hc⟩
  · exact Or.inl h
  · have hb : some b ≠ some g := by simp; omega
    exact Or.inr ⟨b, off, e, h0, Nat.lt_of_lt_of_le hl hg.size, fun i hi => ⟨hg.cell (hc i hi).1 (by simpa using hb), (World.frozen?_of_block (hg.block b hl hb)).trans (hc i hi).2⟩⟩
theorem below_grow {W w w' : World} {B g : Nat} (h : Below B W w) (hg : w.grownBy w' (some g)) (hB : B ≤ g) (hs : B ≤ w.heap.size) : Below B W w' := h.grown hg hs (fun k hk => by simp at hk; omega)
theorem grow_trans {a b c : World} {g : Nat} (h : a.grownBy b (some g)) (k : b.grownBy c (some g)) : a.grownBy c (some g) :=
  ⟨k.os.trans h.os, k.tape.trans h.tape, k.output.trans h.output, Nat.le_trans h.size k.size, fun i hi hne => (k.block i (Nat.lt_of_lt_of_le hi h.size) hne).trans (h.block i hi hne)⟩
/-- One name more is looked at. -/
theorem need_store {W : World} {g nn : Nat} {f s : Nat → Bool} {us : List Int} {v : Bool} (h : Marked W g (needAt f s us)) (hn : nn < 8) (hv : v = (needAt f s us nn || !s nn)) : Marked (W.setCell ⟨g, nn, none⟩ (.bool v)) g (needAt f s (us ++ [(nn : Int)])) := by
  refine World.rowIs.congr (h.set nn (.bool v)) ?_
  intro i hi
  by_cases e : i = nn
  · subst e
    rw [if_pos rfl, hv]
    unfold needAt
    simp only [List.contains_append]
    cases s i <;> cases f i <;> simp
  · rw [if_neg e]
    unfold needAt
    simp only [List.contains_append]
    have e' : ¬ (i : Int) = (nn : Int) := by omega
    simp [e']
theorem marked_two (W : World) : Marked ((W.alloc (.cells #[.bool false, .bool false, .bool false, .bool false, .bool false, .bool false, .bool false, .bool false] 58)).alloc (.cells #[.bool false, .bool false, .bool false, .bool false, .bool false, .bool false, .bool false, .bool false] 58)) W.heap.size (fun _ => false) ∧ Marked ((W.alloc (.cells #[.bool false, .bool false, .bool false, .bool false, .bool false, .bool false, .bool false, .bool false] 58)).alloc (.cells #[.bool false, .bool false, .bool false, .bool false, .bool false, .bool false, .bool false, .bool false] 58)) (W.heap.size + 1) (fun _ => false) := by
  refine ⟨World.rowIs.alloc (marked_new W) _, ?_⟩
  have := marked_new (W.alloc (.cells #[.bool false, .bool false, .bool false, .bool false, .bool false, .bool false, .bool false, .bool false] 58))
  simpa using this
set_option maxHeartbeats 4000000 in
theorem impl_need (a : Option Addr) (len cap : Nat) (zs : List Int) (W : World) (hz : Hid (zs.length = len * 5)) (hlen : len ≤ 1048576) (h : Hid (Ints W a zs)) :
    Calls Try.prog 11 #[.slice a len cap] W fun e W' => NamesTold (codeB zs len) (risingTo (needTo zs len) 8) W e W' := by
  go_enter Try.func11, Try.ntmps11
  go_wp2_with fail
  refine (impl_steps a len cap zs W hz hlen h).mono ?_
  rintro e w1 ⟨⟨hc, a', c', rfl, hS⟩ | ⟨hc, rfl⟩, hb⟩
  rotate_left
  · have HA : Hid (NamesTold (codeB zs len) (risingTo (needTo zs len) 8) W (.returned (.tuple #[.slice none 0 0, .bool false])) w1) := Or.inr ⟨hc, rfl, hb⟩
    clear hb hc
    go_wp2
    go_ret2
    exact HA.out
  have HS : Hid (Steps w1 a' zs len) := hS
  have HB : Hid (Below W.heap.size W w1) := hb
  have HC : Hid (codeB zs len = true) := hc
  clear hS hb hc
  go_wp2
  go_loopw [21] (fun vi wr => ∃ k : Nat, k ≤ len ∧ vi = .int .i64 k ∧ Hid (Marked wr w1.heap.size (setTo zs k)) ∧ Hid (Marked wr (w1.heap.size + 1) (needTo zs k)) ∧ Hid (Below w1.heap.size w1 wr)) (fun vi _ => len - (intOf vi).toNat)
  case atStart => exact ⟨0, Nat.zero_le _, rfl, (marked_two w1).1, (marked_two w1).2, by show Below _ _ _; go_grown⟩
  case round =>
    obtain ⟨k, hk, rfl, HM, HN, HK⟩ := hrel
    by_cases hlt : k < len
    · obtain ⟨sb, rfl, hsb, hsc⟩ : ∃ b, a' = some ⟨b, 0, none⟩ ∧ b < w1.heap.size ∧ ∀ i, i < len → w1.cell? ⟨b, i, none⟩ = some (stepAt zs i) := by
        rcases HS.out with e | e
        · omega
        · exact e
      obtain ⟨sv, hsv, HV⟩ : ∃ sv, wr.cell? ⟨sb, k, none⟩ = some sv ∧ Hid (sv = stepAt zs k) := ⟨_, (HK.out.cell (p := ⟨sb, k, none⟩) hsb).trans (hsc k hlt), rfl⟩
      clear hsc
      have HG : Hid (stepB zs k = true) := (code_out HC.out).2 k hlt
      have hgl := HN.out.lt
      obtain ⟨us, HUS⟩ : ∃ us, Hid (usesL (zs.getD (k * 5) 0) (zs.getD (k * 5 + 2) 0) (zs.getD (k * 5 + 3) 0) = us) := ⟨_, rfl⟩
      have HNA : Hid (needTo zs (k + 1) = needAt (needTo zs k) (setTo zs k) us) := by show _ = _; rw [← HUS.out]; rfl
      have hub : us.length ≤ 2 ∧ ∀ j, j < us.length → 0 ≤ us.getD j 0 ∧ us.getD j 0 ≤ 7 := by rw [← HUS.out]; exact uses_bd HG.out
      obtain ⟨hu2, hu⟩ := hub
      have HU : Hid (∀ j, j < us.length → 0 ≤ us.getD j 0 ∧ us.getD j 0 ≤ 7) := hu
      clear hu
      go_wp2_with fail
      rw [HV.out]
      refine (impl_uses _ _ _ _ _ _ HG.out).mono ?_
      rw [HUS.out]
      rintro e w2 ⟨ua, uc, rfl, hUI, hUB⟩
      have UI : Hid (Mine w2 wr.heap.size ua us) := hUI
      have HM2 : Hid (Marked w2 w1.heap.size (setTo zs k)) := marked_kept HM.out hUB
      have HN2 : Hid (Marked w2 (w1.heap.size + 1) (needTo zs k)) := marked_kept HN.out hUB
      have HK2 : Hid (Below w1.heap.size w1 w2) := HK.out.trans (hUB.mono HK.out.size)
      obtain ⟨ws, HWS⟩ : ∃ ws, Hid (wr.heap.size = ws) := ⟨_, rfl⟩
      rw [HWS.out] at UI
      rw [HWS.out] at hgl
      clear hUI hUB
      rw [← HV.out]
      go_wp2
      go_loopw [28] (fun vi wr => ∃ j : Nat, j ≤ us.length ∧ vi = .int .i64 j ∧ Hid (Marked wr (w1.heap.size + 1) (needAt (needTo zs k) (setTo zs k) (us.take j))) ∧ Hid (w2.grownBy wr (some (w1.heap.size + 1)))) (fun vi _ => us.length - (intOf vi).toNat)
      case atStart => exact ⟨0, Nat.zero_le _, rfl, by show Marked _ _ _; exact marked_same HN2.out (fun i _ => by simp [needAt]), grow_refl _ _⟩
      case round =>
        obtain ⟨j, hj, rfl, HO, HJ⟩ := hrel
        have HMj : Hid (Marked wr w1.heap.size (setTo zs k)) := marked_far HM2.out HJ.out (by omega)
        by_cases hjl : j < us.length
        · obtain ⟨ub, uo, hua, hcell⟩ := (mine_off UI.out HJ.out hgl).ints.at (Below.refl _ _) hjl
          subst hua
          obtain ⟨m0, m7⟩ := HU.out j hjl
          have HTN : Hid (us.take (j + 1) = us.take j ++ [us.getD j 0]) := take_next hjl
          generalize us.getD j 0 = mm at hcell m0 m7 HTN
          obtain ⟨nn, rfl⟩ := Int.eq_ofNat_of_zero_le m0
          have h8 : nn < 8 := by omega
          have h8' : (nn : Int) < 8 := by omega
          have n0 := HO.out.cell (i := nn) h8
          have n1 := HO.out.frozen nn
          have s0 := HMj.out.cell (i := nn) h8
          cases hn : needAt (needTo zs k) (setTo zs k) (us.take j) nn
          · cases hs : setTo zs k nn
            · have HO' : Hid (Marked (wr.setCell ⟨w1.heap.size + 1, nn, none⟩ (.bool true)) (w1.heap.size + 1) (needAt (needTo zs k) (setTo zs k) (us.take (j + 1)))) := by show Marked _ _ _; rw [HTN.out]; exact need_store HO.out h8 (by rw [hn, hs]; rfl)
              rw [hn] at n0
              rw [hs] at s0
              go_wp2
              go_roundw
              case rel => exact ⟨j + 1, by omega, by go_num, HO', grow_set HJ.out _ _⟩
              case measure => simp [intOf]; omega
            · have HO' : Hid (Marked (wr.setCell ⟨w1.heap.size + 1, nn, none⟩ (.bool false)) (w1.heap.size + 1) (needAt (needTo zs k) (setTo zs k) (us.take (j + 1)))) := by show Marked _ _ _; rw [HTN.out]; exact need_store HO.out h8 (by rw [hn, hs]; rfl)
              rw [hn] at n0
              rw [hs] at s0
              go_wp2
              go_roundw
              case rel => exact ⟨j + 1, by omega, by go_num, HO', grow_set HJ.out _ _⟩
              case measure => simp [intOf]; omega
          · have HO' : Hid (Marked (wr.setCell ⟨w1.heap.size + 1, nn, none⟩ (.bool true)) (w1.heap.size + 1) (needAt (needTo zs k) (setTo zs k) (us.take (j + 1)))) := by show Marked _ _ _; rw [HTN.out]; exact need_store HO.out h8 (by rw [hn]; rfl)
            rw [hn] at n0
            go_wp2
            go_roundw
            case rel => exact ⟨j + 1, by omega, by go_num, HO', grow_set HJ.out _ _⟩
            case measure => simp [intOf]; omega
        · have HO1 : Hid (Marked wr (w1.heap.size + 1) (needTo zs (k + 1))) := by
            show Marked _ _ _
            rw [HNA.out]
            have := HO.out
            rw [List.take_of_length_le (by omega)] at this
            exact this
          have HKj : Hid (Below w1.heap.size w1 wr) := below_grow HK2.out HJ.out (by omega) HK2.out.size
          have hkj := HKj.out.size
          go_wp2_with (go_at_call 26; rw [HV.out]; refine (impl_mark2 _ _ _ _ _ _ _ _ HG.out HMj.out).mono ?_; rintro e w' ⟨rfl, hM', hG'⟩; have HM' : Hid (Marked w' w1.heap.size (setTo zs (k + 1))) := hM'; have HN' : Hid (Marked w' (w1.heap.size + 1) (needTo zs (k + 1))) := marked_far HO1.out hG' (by omega); have HK' : Hid (Below w1.heap.size w1 w') := below_grow HKj.out hG' (Nat.le_refl _) hkj; clear hM' hG')
          go_roundw
          case rel => exact ⟨k + 1, by omega, by go_num, HM', HN', HK'⟩
          case measure => simp [intOf]; omega
    · have HE : Hid (k = len) := by show k = len; omega
      have m0 := HN.out.cell (i := 0) (by omega)
      have m1 := HN.out.cell (i := 1) (by omega)
      have m2 := HN.out.cell (i := 2) (by omega)
      have m3 := HN.out.cell (i := 3) (by omega)
      have m4 := HN.out.cell (i := 4) (by omega)
      have m5 := HN.out.cell (i := 5) (by omega)
      have m6 := HN.out.cell (i := 6) (by omega)
      have m7 := HN.out.cell (i := 7) (by omega)
      have HB' : Hid (Below W.heap.size W wr) := HB.out.trans (HK.out.mono HB.out.size)
      go_wp2_with (go_at_call 27; refine (impl_rising (needTo zs k) _).mono ?_; rintro e w' ⟨v, rfl, hO', hb'⟩; obtain ⟨ra, rc, rfl, hM'⟩ := hO'.mine; have HA : Hid (NamesTold (codeB zs len) (risingTo (needTo zs len) 8) W (.returned (.tuple #[.slice ra (risingTo (needTo zs k) 8).length rc, .bool true])) w') := (by show NamesTold _ _ _ _ _; rw [← HE.out]; exact Or.inl ⟨HE.out ▸ HC.out, ⟨ra, rc, rfl, mine_low hM' HB'.out.size⟩, HB'.out.trans (hb'.mono HB'.out.size)⟩); clear hO' hb' hM')
      go_ret2
      exact HA.out
end Go.Proofs.Ytfejfbafoaiidaa.walks
