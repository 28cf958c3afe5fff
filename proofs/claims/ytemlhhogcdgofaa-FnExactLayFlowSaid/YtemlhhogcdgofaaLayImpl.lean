/-
  What the program's LayFlow answers.
-/
import Derived.Test.YtemlhhogcdgofaaProg
import Derived.Test.YtemlhhogcdgofaaLayMath
import Derived.Test.YtemlhhogcdgofaaPlaces
import Derived.Test.YtemlhhogcdgofaaEdgeImpl
import Derived.Test.YtemlhhogcdgofaaAnew
import Derived.Test.YtemlhhogcdgofaaFlowBlocks
import Derived.Test.YtemlhhogcdgofaaOwnFlat
import Derived.Test.YtemlhhogcdgofaaOwnBlocks
import Derived.WalkKit
import Derived.WalkSpells
import Derived.Below
import Derived.Handy
import Derived.OwnWalk
import Derived.Maps.AppendAt
namespace Go.Proofs.Ytemlhhogcdgofaa.walks
open Go.RowKit Go.Proofs.Ytemlhhogcdgofaa.math Go.Proofs.Ytemlhhogcdgofaa.ints Go.Proofs.Ytemlhhogcdgofaa.deep
set_option linter.unusedVariables false
set_option maxRecDepth 100000

theorem news_blk (a : Option Addr) (l c : Nat) (x y z : Int) : ∀ u ∈ [Value.slice a l c, .int .i64 x, .int .i64 y, .int .i64 z], u.oneCell' = true := by
  intro u hu; simp at hu; rcases hu with rfl | rfl | rfl | rfl <;> rfl
theorem ownBl_down {w : World} {B B' n : Nat} {v : Value} {f : Nat → Bv} (h : OwnBl w B v n f) (hB : B' ≤ B) : OwnBl w B' v n f := by
  obtain ⟨U, F, g⟩ := h
  refine ⟨U, F, ⟨⟨g.row.1, ?_⟩, ?_, g.out, fun x hx => ⟨Nat.le_trans hB (g.low x hx).1, (g.low x hx).2⟩⟩⟩
  · rcases g.row.2 with q | ⟨y, cap, cur, e, hg, r⟩
    · exact Or.inl q
    · exact Or.inr ⟨y, cap, cur, e, Nat.le_trans hB hg, r⟩
  · obtain ⟨G, g1, g2⟩ := g.parts
    exact ⟨G, fun i hi => ⟨(g1 i hi).1.low hB, (g1 i hi).2⟩, g2⟩
/-- What LayFlow answers. -/
def LayAns (f : Nat → Bv) (n : Nat) (zs : List Int) (W : World) (e : Ending) (W' : World) : Prop :=
  ((okLay f n zs = true ∧ ∃ v, e = .returned (.tuple #[v, .bool true]) ∧ OwnBl W' W.heap.size v n (layF f zs n)) ∨ (okLay f n zs = false ∧ e = .returned (.tuple #[.slice none 0 0, .bool false]))) ∧ Below W.heap.size W W'
theorem layF_at {f : Nat → Bv} {zs : List Int} {n k m : Nat} (h : zs.getD k 0 = (m : Int)) : (layF f zs n k).zs = (f m).zs ∧ (layF f zs n k).len = (f m).len ∧ (layF f zs n k).t = (f m).t ∧ (layF f zs n k).th = newV (plcF zs n) (f m).th ∧ (layF f zs n k).el = newV (plcF zs n) (f m).el := by
  unfold layF
  rw [h, Int.toNat_natCast]
  exact ⟨rfl, rfl, rfl, rfl, rfl⟩
set_option maxHeartbeats 8000000 in
theorem impl_layflow (a a1 : Option Addr) (n cap l1 cap1 : Nat) (f : Nat → Bv) (zs : List Int) (W : World) (hn : n ≤ 1048576) (hlen : Hid (∀ k, k < n → (f k).len ≤ 1048576)) (h : Hid (Flow W a n f)) (hz1 : Hid (zs.length = l1)) (hl1 : l1 ≤ 1048576) (h1 : Hid (Ints W a1 zs)) :
    Calls Try.prog 9 #[.slice a n cap, .slice a1 l1 cap1] W fun e W' => LayAns f n zs W e W' := by
  obtain ⟨i4, hi4, hz4, hz5, hz6⟩ := parts_of block_row
  go_enter Try.func9, Try.ntmps9
  go_wp2_with fail
  refine (impl_blocks3 a n cap f W hn hlen h).mono ?_
  rintro e w1 ⟨(⟨hf, b, bc, A, S, rfl, hbl, hcel, hst, hin⟩ | ⟨hf, rfl⟩), hB1⟩
  rotate_left
  · have HA : Hid (LayAns f n zs W (.returned (.tuple #[.slice none 0 0, .bool false])) w1) := ⟨Or.inr ⟨by unfold okLay; rw [hf]; rfl, rfl⟩, hB1⟩
    clear hf hB1
    go_wp2
    go_ret2
    exact HA.out
  have HF : Hid (flowB f n = true) := hf
  have HCEL : Hid (∀ i, i < n * 5 → w1.cell? ⟨b, i, none⟩ = some (cell5 A S f i)) := hcel
  have HIN : Hid (∀ j, j < n → Ints W (A j).1 (f j).zs) := hin
  have HB1 : Hid (Below W.heap.size W w1) := hB1
  have hn8 : n ≤ 8 := (flow_out hf).1.2
  have hw1 := hB1.size
  clear hf hcel hst hin hB1
  cases hl : layB zs (n : Int)
  · have HO : Hid (okLay f n zs = false) := by show _ = _; unfold okLay; rw [hl]; simp
    go_wp2_with fail
    have hc := impl_islay a1 l1 cap1 (n : Int) zs w1 hz1 hl1 (h1.out.kept HB1.out)
    rw [hl] at hc
    refine hc.mono ?_
    rintro e w2 ⟨rfl, hB⟩
    have HA : Hid (LayAns f n zs W (.returned (.tuple #[.slice none 0 0, .bool false])) w2) := ⟨Or.inr ⟨HO.out, rfl⟩, HB1.out.trans (hB.mono hw1)⟩
    clear hB hc
    go_wp2
    go_ret2
    exact HA.out
  have HO : Hid (okLay f n zs = true) := by show _ = _; unfold okLay; rw [hl, HF.out]; rfl
  obtain ⟨q1, q2, q3⟩ := lay_in hl
  have HIN2 : Hid (∀ i, i < n → 0 ≤ zs.getD i 0 ∧ zs.getD i 0 < (n : Int)) := q3
  have HORD : Hid (orderB zs (n : Int) = true) := q2
  have el1 : l1 = n := by rw [← hz1.out]; exact q1
  subst el1
  clear q1 q2 q3
  go_wp2_with fail
  have hc := impl_islay a1 l1 cap1 (l1 : Int) zs w1 hz1 hl1 (h1.out.kept HB1.out)
  rw [hl] at hc
  refine hc.mono ?_
  rintro e w2 ⟨rfl, hB⟩
  have HB2 : Hid (Below W.heap.size W w2) := HB1.out.trans (hB.mono hw1)
  have HB12 : Hid (Below w1.heap.size w1 w2) := hB
  have hw12 := hB.size
  clear hB hc hl
  go_wp2_with fail
  refine (impl_places a1 l1 cap1 zs w2 hz1 hn8 HORD (h1.out.kept HB2.out)).mono ?_
  rintro e w3 ⟨pb, rfl, hR, hpb, hB⟩
  have HR : Hid (w3.rowIs pb 3 l1 (fun i => .int .i64 (plcTo zs l1 (i : Int)))) := hR
  have HB3 : Hid (Below W.heap.size W w3) := HB2.out.trans (hB.mono HB2.out.size)
  have HB13 : Hid (Below w1.heap.size w1 w3) := HB12.out.trans (hB.mono hw12)
  have hw3 := HB3.out.size
  have hw13 := HB13.out.size
  have hpl : pb < w3.heap.size := hR.lt
  clear hR hB hpb
  have hnI : (l1 : Int) ≤ 8 := by omega
  go_wp2
  go_loopw [9, 30] (fun vl vi wr => ∃ (k : Nat) (v : Value), k ≤ l1 ∧ vi = .int .i64 k ∧ v = vl ∧ Hid (OwnBl wr w3.heap.size v k (layF f zs l1)) ∧ Hid (Below w3.heap.size w3 wr)) (fun _ vi _ => l1 - (intOf vi).toNat)
  case atStart => exact ⟨0, _, Nat.zero_le _, rfl, rfl, OwnBl.nil _ _ _, Below.refl _ _⟩
  case round =>
    obtain ⟨k, v, hk, rfl, rfl, HOB, HB⟩ := hrel
    have HBW : Hid (Below W.heap.size W wr) := HB3.out.trans (HB.out.mono hw3)
    by_cases hlt : k < l1
    rotate_left
    · have HE : Hid (k = l1) := by show k = l1; omega
      have HA : Hid (LayAns f l1 zs W (.returned (.tuple #[v, .bool true])) wr) := ⟨Or.inl ⟨HO.out, v, rfl, by rw [HE.out] at HOB; exact ownBl_down HOB.out hw3⟩, HBW.out⟩
      go_wp2
      go_ret2
      exact HA.out
    have hltI : (k : Int) < (l1 : Int) := by omega
    have hwr := HB.out.size
    obtain ⟨ob, oo, ha1, hc⟩ := h1.out.at HBW.out (k := k) (by rw [hz1.out]; exact hlt)
    obtain ⟨x0, x1⟩ := HIN2.out k hlt
    obtain ⟨m, hm⟩ : ∃ m : Nat, zs.getD k 0 = (m : Int) := ⟨(zs.getD k 0).toNat, by omega⟩
    have EZ := layF_at (f := f) (n := l1) hm
    rw [hm] at hc x0 x1
    have hmn : m < l1 := by omega
    have BC : Below w1.heap.size w1 wr := HB13.out.trans (HB.out.mono hw13)
    have cel : ∀ i, i < l1 * 5 → wr.cell? ⟨b, i, none⟩ = some (cell5 A S f i) := fun i hi => (BC.cell (p := ⟨b, i, none⟩) hbl).trans (HCEL.out i hi)
    have c0 := cel (m * 5) (by omega)
    rw [cell5_0] at c0
    have c1 := cel (m * 5 + 1) (by omega)
    rw [cell5_1] at c1
    have c2 := cel (m * 5 + 2) (by omega)
    rw [cell5_2] at c2
    have c3 := cel (m * 5 + 3) (by omega)
    rw [cell5_3] at c3
    have c4 := cel (m * 5 + 4) (by omega)
    rw [cell5_4] at c4
    have hblk := (flow_out HF.out).2 m hmn
    simp only [blockB, Bool.and_eq_true] at hblk
    have hl30 : (f m).len ≤ 30 := (code_out hblk.1.1.1).1
    have hth := inR_out hblk.1.2
    have hel := inR_out hblk.2
    have HZ : Hid ((f m).zs.length = (f m).len * 5) := (code_out hblk.1.1.1).1 |> fun _ => by
      obtain ⟨_, _, _, _, _, _, _, _, _, _, _, hZ⟩ := flow_at h.out (Below.refl _ _) hmn
      exact hZ
    have HI : Hid (Ints wr (A m).1 (f m).zs) := (HIN.out m hmn).kept HBW.out
    have HP : Hid (∀ i, i < l1 → wr.cell? ⟨pb, i, none⟩ = some (.int .i64 (plcF zs l1 i))) := fun i hi => (HB.out.cell (p := ⟨pb, i, none⟩) hpl).trans (HR.out.cell hi)
    have hpw : pb < wr.heap.size := by omega
    have HEZ : Hid ((layF f zs l1 k).zs = (f m).zs ∧ (layF f zs l1 k).len = (f m).len ∧ (layF f zs l1 k).t = (f m).t ∧ (layF f zs l1 k).th = newV (plcF zs l1) (f m).th ∧ (layF f zs l1 k).el = newV (plcF zs l1) (f m).el) := EZ
    have hbw : b < wr.heap.size := by have := BC.size; omega
    have hmI : (m : Int) < (l1 : Int) := x1
    clear cel hblk EZ BC
    subst ha1
    generalize (A m).1 = ca at c0 HI
    generalize (A m).2 = cc at c0
    generalize (S m).1 = sa at c4
    generalize (S m).2 = sc at c4
    generalize (f m).zs = fz at HZ HI HEZ
    generalize (f m).len = len at c0 c4 HZ hl30 HEZ
    generalize (f m).t = t at c1 HEZ
    generalize (f m).th = th at c2 hth HEZ
    generalize (f m).el = el at c3 hel HEZ
    go_wp2_with fail
    refine (impl_anew ca len cc t th el sa len sc fz pb l1 l1 (plcF zs l1) wr HZ hl30 HI hpw (by omega) (by omega) (by omega) (by omega) HP).mono ?_
    rintro e w4 ⟨ua, uc, rfl, hM, hB4⟩
    have B4 : Hid (Below wr.heap.size wr w4) := hB4
    have M4 : Hid (Mine w4 wr.heap.size ua (layF f zs l1 k).zs) := by rw [HEZ.out.1]; exact hM
    obtain ⟨xs, hrow, hgo⟩ := OwnBl.snoc (cc := uc) HOB.out B4.out hwr M4.out (by rw [HEZ.out.1, HEZ.out.2.1]; exact HZ.out)
    rw [HEZ.out.2.1, HEZ.out.2.2.1, HEZ.out.2.2.2.1, HEZ.out.2.2.2.2] at hgo
    obtain ⟨vt, hvt⟩ : ∃ x, Hid (newV (plcF zs l1) th = x) := ⟨_, rfl⟩
    obtain ⟨ve, hve⟩ : ∃ x, Hid (newV (plcF zs l1) el = x) := ⟨_, rfl⟩
    rw [hvt.out, hve.out] at hgo ⊢
    have HGO : Hid (∀ (o : Obj) (w2 : World) (v' : Value), w2.ownsRow w3.heap.size 46 4 v' (k + 1) (xs ++ [.slice ua len uc, .int .i64 t, .int .i64 vt, .int .i64 ve]) → (w4.alloc o).grownBy w2 v.ownBlock → (v'.ownBlock = v.ownBlock ∨ v'.ownBlock = some (w4.alloc o).heap.size) → OwnBl w2 w3.heap.size v' (k + 1) (layF f zs l1) ∧ ∀ W, Below w3.heap.size W w4 → Below w3.heap.size W w2) := hgo
    have HROW : Hid (w4.ownsRow w3.heap.size 46 4 v k xs) := hrow
    have BW4 : Hid (Below w3.heap.size w3 w4) := HB.out.trans (B4.out.mono hwr)
    have h4s := BW4.out.size
    clear hgo hrow hM hB4 M4 HEZ HP HI HZ hvt hve c0 c1 c2 c3 c4 hc HOB
    go_wp2_with (first
      | (at_builtin; refine wpList_append_own_at _ rfl _ _ 25 rfl w3.heap.size 46 i4 _ 4 48 Try.underlying25 hi4 hz4 hz5 hz6 rfl (by decide) _ _ xs rfl (World.ownsRow.alloc HROW.out _) ⟨w4.heap.size, 0, none⟩ 1 1 [.slice ua len uc, .int .i64 t, .int .i64 vt, .int .i64 ve] rfl rfl (news_vals w4 [.slice ua len uc, .int .i64 t, .int .i64 vt, .int .i64 ve] _) (news_blk _ _ _ _ _ _) (by unfold maxLen; omega) (by omega) (by simp; omega) ?_))
    intro v5 w5 hown hgrow _ hob
    obtain ⟨q1, q2⟩ := HGO.out _ w5 v5 hown hgrow (by simpa using hob)
    have H1 : Hid (OwnBl w5 w3.heap.size v5 (k + 1) (layF f zs l1)) := q1
    have H2 : Hid (Below w3.heap.size w3 w5) := q2 _ BW4.out
    clear q1 q2 hown hgrow hob HGO HROW
    go_wp2
    go_roundw
    case rel => exact ⟨k + 1, v5, by omega, by go_num, rfl, H1, H2⟩
    case measure => simp [intOf]; omega
end Go.Proofs.Ytemlhhogcdgofaa.walks
