/-
  What the specification's DoAtOnce and DoInTurn answer, at all lists; they make new memory alone.
-/
import Derived.Test.YthjcgnldlhjjmaaProg
import Derived.Test.YthjcgnldlhjjmaaMoveMath
import Derived.Test.YthjcgnldlhjjmaaMoveBase
import Derived.Test.YthjcgnldlhjjmaaInts
import Derived.Test.YthjcgnldlhjjmaaOwnInts
import Derived.Test.YthjcgnldlhjjmaaRecsMove
import Derived.Test.YthjcgnldlhjjmaaGoodSpec
import Derived.WalkKit
import Derived.WalkSpells
import Derived.Below
import Derived.Handy
import Derived.Deep.RegionWith
namespace Go.Proofs.Ythjcgnldlhjjmaa.walks
open Go.RowKit Go.Proofs.Ythjcgnldlhjjmaa.math Go.Proofs.Ythjcgnldlhjjmaa.ints
set_option linter.unusedVariables false

/-- What the specification answers: a list of n numbers, or none. -/
def SpecL (ok : Bool) (n : Nat) (r : List Int) (W : World) (e : Ending) (W' : World) : Prop :=
  Below W.heap.size W W' ∧ ((ok = true ∧ ∃ g d, e = .returned (.tuple #[.slice g n d, .bool true]) ∧ Ints W' g r) ∨ (ok = false ∧ e = .returned (.tuple #[.slice none 0 0, .bool false])))
/-- What the program answers: .. in memory of its own. -/
def ImplL (ok : Bool) (n : Nat) (r : List Int) (W : World) (e : Ending) (W' : World) : Prop :=
  Below W.heap.size W W' ∧ ((ok = true ∧ ∃ g d, e = .returned (.tuple #[.slice g n d, .bool true]) ∧ Mine W' W.heap.size g r) ∨ (ok = false ∧ e = .returned (.tuple #[.slice none 0 0, .bool false])))
theorem ints_news8 {w : World} {b off : Nat} {ws : List Int} (hc : ∀ i, i < ws.length → w.cell? ⟨b, off + i, none⟩ = some (.int .i64 (ws.getD i 0))) : ∀ (j : Nat) (u : Value), (ws.map (Value.int .i64))[j]? = some u → w.cell? ((⟨b, off, none⟩ : Addr).add j) = some u := by
  intro j u hj
  rw [List.getElem?_map] at hj
  cases hw : ws[j]? with
  | none => rw [hw] at hj; simp at hj
  | some x =>
    rw [hw] at hj
    simp at hj
    subst hj
    have hlt : j < ws.length := (List.getElem?_eq_some_iff.1 hw).1
    have := hc j hlt
    have e : ws.getD j 0 = x := by simp [List.getD, hw]
    rw [e] at this
    have ha : (⟨b, off, none⟩ : Addr).add j = ⟨b, off + j, none⟩ := by unfold Addr.add; split <;> simp_all
    rw [ha]
    exact this
theorem ints_one8 (ws : List Int) : ∀ u ∈ ws.map (Value.int .i64), u.oneCell' = true := by
  intro u hu
  obtain ⟨x, _, rfl⟩ := List.mem_map.1 hu
  rfl
theorem ints_some8 {W : World} {a : Option Addr} {ws : List Int} (hi : Ints W a ws) (h : 0 < ws.length) : ∃ b off, a = some ⟨b, off, none⟩ ∧ b < W.heap.size ∧ ∀ i, i < ws.length → W.cell? ⟨b, off + i, none⟩ = some (.int .i64 (ws.getD i 0)) := by
  rcases hi with e | e
  · rw [e] at h; simp at h
  · exact e
theorem cells_mine {w : World} {B g off n : Nat} {r : List Int} {f : Nat → Int} (h : MoveCells w g off n f) (hn : r.length = n) (hB : B ≤ g) (hl : g < w.heap.size) (e : ∀ i, i < n → f i = r.getD i 0) : Mine w B (some ⟨g, off, none⟩) r :=
  Or.inr ⟨g, off, rfl, hB, hl, fun i hi => by
    have := h i (by omega)
    rw [e i (by omega)] at this
    exact this⟩

set_option maxHeartbeats 4000000 in
set_option maxRecDepth 100000 in
theorem spec_once (a v : Option Addr) (len cap lv cv : Nat) (zs ws : List Int) (W : World) (hz : Hid (zs.length = len * 2)) (hlen : len ≤ 1048576) (hcap : len ≤ cap) (hcm : cap ≤ maxLen) (h : Hid (Ints W a zs)) (hz' : Hid (ws.length = lv)) (hlv : lv ≤ 1048576) (h' : Hid (Ints W v ws)) :
    Calls Try.prog 14 #[.slice a len cap, .slice v lv cv] W (SpecL (movesB zs len && wordsN 11 ws) 11 (onceL zs len ws) W) := by
  obtain ⟨i0, hi, hz0, hz1, hz2⟩ := info_parts row_info
  cases hc : movesB zs len
  · go_enter Try.func14, Try.ntmps14
    go_wp2_with (go_at_call 10; refine (spec_good8 _ _ _ zs _ hz hlen hcap hcm h).mono ?_; rw [hc]; rintro e w1 ⟨rfl, hb⟩; have HB : Hid (Below W.heap.size W w1) := hb; clear hb)
    go_ret2
    exact ⟨HB.out, Or.inr ⟨rfl, rfl⟩⟩
  have HC : Hid (movesB zs len = true) := hc
  cases hw : wordsN 11 ws
  · go_enter Try.func14, Try.ntmps14
    go_wp2_with (first
      | (go_at_call 10; refine (spec_good8 _ _ _ zs _ hz hlen hcap hcm h).mono ?_; rw [HC.out]; rintro e w1 ⟨rfl, hb⟩; have HB : Hid (Below W.heap.size W w1) := hb; clear hb)
      | (go_at_call 37; refine (spec_words8 _ _ _ ws _ hz' hlv (h'.out.kept HB.out)).mono ?_; rw [hw]; rintro e w' ⟨rfl, hw'⟩; rw [hw']; clear hw' w'))
    go_ret2
    exact ⟨HB.out, Or.inr ⟨rfl, rfl⟩⟩
  have HW : Hid (wordsN 11 ws = true) := hw
  obtain ⟨h11, _⟩ := wordsN_out hw
  have e11 : lv = 11 := by rw [← hz'.out]; exact h11
  subst e11
  obtain ⟨h10, hgm⟩ := moves_out hc
  have HG : Hid (GoodM zs len) := hgm
  clear hc hw hgm
  obtain ⟨vb, vo, rfl, hvb, hvc⟩ := ints_some8 h'.out (by omega)
  have HV : Hid (∀ i, i < ws.length → W.cell? ⟨vb, vo + i, none⟩ = some (.int .i64 (ws.getD i 0))) := hvc
  clear hvc
  go_enter Try.func14, Try.ntmps14
  go_wp2_with (first
    | (go_at_call 10; refine (spec_good8 _ _ _ zs _ hz hlen hcap hcm h).mono ?_; rw [HC.out]; rintro e w1 ⟨rfl, hb⟩; have HB : Hid (Below W.heap.size W w1) := hb; clear hb)
    | (go_at_call 37; refine (spec_words8 _ _ _ ws _ hz' hlv (h'.out.kept HB.out)).mono ?_; rw [HW.out]; rintro e w' ⟨rfl, hw'⟩; rw [hw']; clear hw' w')
    | (at_builtin; refine wpList_append_own _ rfl _ _ 29 rfl w1.heap.size 3 i0 (.int .i64 0) 1 8 Try.underlying29 hi hz0 hz1 hz2 rfl (by decide) _ 0 [] rfl (World.ownsRow_made w1 #[] 0 (Nat.le_refl _) (Nat.zero_le _) rfl) ⟨vb, vo, none⟩ 11 cv (ws.map (Value.int .i64)) rfl ?c1 ?c2 (ints_one8 ws) ?c3 ?c4 ?c5 ?_)
    | go_in)
  case c1 => simp [h11]
  case c2 => exact ints_news8 (fun i hi => (World.cell?_alloc_past _ vb (vo + i) (by have := HB.out.size; omega)).trans ((HB.out.cell (p := ⟨vb, vo + i, none⟩) hvb).trans (HV.out i hi)))
  case c3 => unfold maxLen; omega
  case c4 => omega
  case c5 => simp
  intro v' w2 hown' hgrow _
  have hO : Own w2 w1.heap.size v' ws := by unfold Own; rw [h11]; exact hown'
  obtain ⟨oa, oc, rfl, hM⟩ := hO.mine
  rw [h11]
  have hB2 : Below w1.heap.size w1 w2 := ((Below.refl w1.heap.size w1).alloc (Nat.le_refl _) _).grown hgrow (by simp) (fun k hk => by simp [Value.ownBlock] at hk; omega)
  obtain ⟨g, off, rfl, hgB, hgl, hgc⟩ : ∃ b off, oa = some ⟨b, off, none⟩ ∧ w1.heap.size ≤ b ∧ b < w2.heap.size ∧ Hid (MoveCells w2 b off 11 (fun i => ws.getD i 0)) := by
    rcases hM with e | ⟨b, off, e, q0, q1, q2⟩
    · rw [e] at h11; simp at h11
    · exact ⟨b, off, e, q0, q1, fun i hi => q2 i (by omega)⟩
  have HB2 : Hid (Below W.heap.size W w2) := HB.out.trans (hB2.mono HB.out.size)
  have hWg : W.heap.size ≤ g := by have := HB.out.size; omega
  clear hown' hgrow hO hM hB2
  go_wp2
  go_loopw [22] (fun vi wr => ∃ k : Nat, k ≤ len ∧ vi = .int .i64 k ∧ Hid (MoveCells wr g off 11 (fun i => ws.getD (srcTo zs k (i : Int)).toNat 0)) ∧ Hid (Below W.heap.size W wr) ∧ g < wr.heap.size) (fun vi _ => len - (intOf vi).toNat)
  case atStart => exact ⟨0, Nat.zero_le _, rfl, hgc.out.congr (fun i hi => by show ws.getD i 0 = ws.getD ((i : Int).toNat) 0; rfl), HB2, hgl⟩
  case round =>
    obtain ⟨k, hk, rfl, HC2, HB3, hgl2⟩ := hrel
    clear HB HB2 hgc HC HW
    by_cases hlt : k < len
    · obtain ⟨b, mo, x, y, ha, hb, m0, m1, HX, HY⟩ := move_at h.out hz.out HB3.out hlt
      subst ha
      obtain ⟨g0, g1, _⟩ := HG.out k hlt
      rw [HX.out] at g0
      rw [HY.out] at g1
      obtain ⟨x0, x1⟩ := inR_out g0
      obtain ⟨y0, y1⟩ := inR_out g1
      obtain ⟨i, rfl⟩ : ∃ i : Nat, x = (i : Int) := ⟨x.toNat, by omega⟩
      obtain ⟨j, rfl⟩ : ∃ j : Nat, y = (j : Int) := ⟨y.toNat, by omega⟩
      have hi11 : (i : Int) < 11 := by omega
      have hj11 : (j : Int) < 11 := by omega
      obtain ⟨s0, s1⟩ := HC2.out j (by omega)
      have v0 : wr.cell? ⟨vb, vo + i, none⟩ = some (.int .i64 (ws.getD i 0)) := (HB3.out.cell (p := ⟨vb, vo + i, none⟩) hvb).trans (HV.out i (by omega))
      have hbw : b < wr.heap.size := by omega
      have hvw : vb < wr.heap.size := by omega
      have hne : vb ≠ g := by omega
      obtain ⟨s, hs⟩ : ∃ s, Hid (ws.getD (srcTo zs k (j : Int)).toNat 0 = s) := ⟨_, rfl⟩
      replace s0 : wr.cell? ⟨g, off + j, none⟩ = some (.int .i64 s) := by rw [← hs.out]; exact s0
      obtain ⟨t, ht⟩ : ∃ t, Hid (ws.getD i 0 = t) := ⟨_, rfl⟩
      rw [ht.out] at v0
      clear g0 g1
      go_wp2
      go_region
      all_goals
        go_wp2
        go_roundw
        case rel =>
          refine ⟨k + 1, by omega, by go_num, ?_, ?_, by simpa using (by omega : g < wr.heap.size + 1)⟩
          · have q := HC2.out.set j (by omega) t
            refine MoveCells.congr (f := fun p => if p = j then t else ws.getD (srcTo zs k (p : Int)).toNat 0) ?_ ?_
            · intro p hp
              obtain ⟨r0, r1⟩ := q p hp
              refine ⟨?_, ?_⟩
              · refine Eq.trans ?_ r0
                exact World.cell?_alloc_past _ _ _ (by simpa using hgl2)
              · refine Eq.trans ?_ r1
                exact World.frozen?_alloc_past _ _ _ (by simpa using hgl2)
            · intro p hp
              show (if p = j then t else _) = ws.getD (if (p : Int) = toM zs k then frM zs k else srcTo zs k (p : Int)).toNat 0
              rw [HY.out, HX.out]
              by_cases e : p = j
              · rw [if_pos e, if_pos (by omega), ← ht.out]; rfl
              · rw [if_neg e, if_neg (by omega)]
          · exact ((HB3.out.setCell (by show W.heap.size ≤ g; exact hWg) _).alloc (by simp; omega) _).drew
        case measure => simp [intOf]; omega
    · have hkl : k = len := by omega
      subst hkl
      go_wp2
      go_ret2
      exact ⟨HB3.out, Or.inl ⟨by rfl, _, _, rfl, (cells_mine HC2.out (once_len _ _ _) hWg hgl2 (fun i hi => (once_at _ _ _ hi).symm)).ints⟩⟩

set_option maxHeartbeats 4000000 in
set_option maxRecDepth 100000 in
theorem spec_turn (a v : Option Addr) (len cap lv cv : Nat) (zs ws : List Int) (W : World) (hz : Hid (zs.length = len * 2)) (hlen : len ≤ 1048576) (hcap : len ≤ cap) (hcm : cap ≤ maxLen) (h : Hid (Ints W a zs)) (hz' : Hid (ws.length = lv)) (hlv : lv ≤ 1048576) (h' : Hid (Ints W v ws)) :
    Calls Try.prog 21 #[.slice a len cap, .slice v lv cv] W (SpecL (turnB zs len && wordsN 11 ws) 11 (turnTo zs ws len) W) := by
  obtain ⟨i0, hi, hz0, hz1, hz2⟩ := info_parts row_info
  by_cases h40 : len ≤ 40
  rotate_left
  · have HE : Hid (turnB zs len = false) := turn_long (by omega)
    have hl : (40 : Int) < (len : Int) := by omega
    clear h40
    go_enter Try.func21, Try.ntmps21
    go_wp2_with fail
    go_ret2
    exact ⟨Below.refl _ _, Or.inr ⟨by rw [HE.out]; rfl, rfl⟩⟩
  have hl40 : (len : Int) ≤ 40 := by omega
  have hd40 : decide (40 < (len : Int)) = false := decide_eq_false (by omega)
  cases hw : wordsN 11 ws
  · go_enter Try.func21, Try.ntmps21
    go_wp2_with (go_at_call 37; refine (spec_words8 _ _ _ ws _ hz' hlv h').mono ?_; rw [hw]; rintro e w' ⟨rfl, hw'⟩; rw [hw']; clear hw' w')
    go_ret2
    exact ⟨Below.refl _ _, Or.inr ⟨by simp, rfl⟩⟩
  have HW : Hid (wordsN 11 ws = true) := hw
  obtain ⟨h11, hin⟩ := wordsN_out hw
  have e11 : lv = 11 := by rw [← hz'.out]; exact h11
  subst e11
  clear hw hin
  obtain ⟨vb, vo, rfl, hvb, hvc⟩ := ints_some8 h'.out (by omega)
  have HV : Hid (∀ i, i < ws.length → W.cell? ⟨vb, vo + i, none⟩ = some (.int .i64 (ws.getD i 0))) := hvc
  clear hvc
  have HB : Hid (Below W.heap.size W W) := Below.refl _ _
  go_enter Try.func21, Try.ntmps21
  go_wp2_with (first
    | (go_at_call 37; refine (spec_words8 _ _ _ ws _ hz' hlv h').mono ?_; rw [HW.out]; rintro e w' ⟨rfl, hw'⟩; rw [hw']; clear hw' w')
    | (at_builtin; refine wpList_append_own _ rfl _ _ 29 rfl W.heap.size 3 i0 (.int .i64 0) 1 8 Try.underlying29 hi hz0 hz1 hz2 rfl (by decide) _ 0 [] rfl (World.ownsRow_made W #[] 0 (Nat.le_refl _) (Nat.zero_le _) rfl) ⟨vb, vo, none⟩ 11 cv (ws.map (Value.int .i64)) rfl ?c1 ?c2 (ints_one8 ws) ?c3 ?c4 ?c5 ?_)
    | go_in)
  case c1 => simp [h11]
  case c2 => exact ints_news8 (fun i hi => (World.cell?_alloc_past _ vb (vo + i) (by have := HB.out.size; omega)).trans ((HB.out.cell (p := ⟨vb, vo + i, none⟩) hvb).trans (HV.out i hi)))
  case c3 => unfold maxLen; omega
  case c4 => omega
  case c5 => simp
  intro v' w2 hown' hgrow _
  have hO : Own w2 W.heap.size v' ws := by unfold Own; rw [h11]; exact hown'
  obtain ⟨oa, oc, rfl, hM⟩ := hO.mine
  rw [h11]
  have hB2 : Below W.heap.size W w2 := ((Below.refl W.heap.size W).alloc (Nat.le_refl _) _).grown hgrow (by simp) (fun k hk => by simp [Value.ownBlock] at hk; omega)
  obtain ⟨g, off, rfl, hgB, hgl, hgc⟩ : ∃ b off, oa = some ⟨b, off, none⟩ ∧ W.heap.size ≤ b ∧ b < w2.heap.size ∧ Hid (MoveCells w2 b off 11 (fun i => ws.getD i 0)) := by
    rcases hM with e | ⟨b, off, e, q0, q1, q2⟩
    · rw [e] at h11; simp at h11
    · exact ⟨b, off, e, q0, q1, fun i hi => q2 i (by omega)⟩
  have HB2 : Hid (Below W.heap.size W w2) := HB.out.trans (hB2.mono HB.out.size)
  have hWg : W.heap.size ≤ g := by have := HB.out.size; omega
  clear hown' hgrow hO hM hB2
  go_wp2
  go_loopw [23] (fun vi wr => ∃ k : Nat, k ≤ len ∧ vi = .int .i64 k ∧ Hid (∀ j, j < k → inR (frM zs j) 0 10 = true ∧ inR (toM zs j) 0 10 = true) ∧ Hid (MoveCells wr g off 11 (fun i => (turnTo zs ws k).getD i 0)) ∧ Hid (Below W.heap.size W wr) ∧ g < wr.heap.size) (fun vi _ => len - (intOf vi).toNat)
  case atStart => exact ⟨0, Nat.zero_le _, rfl, fun j hj => by omega, hgc, HB2, hgl⟩
  case round =>
    obtain ⟨k, hk, rfl, HG, HC2, HB3, hgl2⟩ := hrel
    clear HB HB2 hgc
    by_cases hlt : k < len
    · obtain ⟨b, mo, x, y, ha, hb, m0, m1, HX, HY⟩ := move_at h.out hz.out HB3.out hlt
      subst ha
      have hbw : b < wr.heap.size := by omega
      have HB4 : Hid (Below W.heap.size W (wr.alloc (.cells #[.int .i64 x, .int .i64 y] 47))) := HB3.out.alloc HB3.out.size _
      cases hx : inR x 0 10
      · have HE : Hid (turnB zs len = false) := turn_fr hlt (by rw [HX.out]; exact hx)
        go_wp2_with (go_at_call 39; refine (spec_in _ _ _ _).mono ?_; rw [hx]; rintro e w' ⟨rfl, rfl⟩)
        go_ret2
        exact ⟨HB4.out, Or.inr ⟨by rw [HE.out]; rfl, rfl⟩⟩
      cases hy : inR y 0 10
      · have HE : Hid (turnB zs len = false) := turn_to hlt (by rw [HY.out]; exact hy)
        go_wp2_with (go_at_call 39; refine (spec_in _ _ _ _).mono ?_; (first | rw [hx] | rw [hy]); rintro e w' ⟨rfl, rfl⟩)
        go_ret2
        exact ⟨HB4.out, Or.inr ⟨by rw [HE.out]; rfl, rfl⟩⟩
      obtain ⟨x0, x1⟩ := inR_out hx
      obtain ⟨y0, y1⟩ := inR_out hy
      obtain ⟨i, rfl⟩ : ∃ i : Nat, x = (i : Int) := ⟨x.toNat, by omega⟩
      obtain ⟨j, rfl⟩ : ∃ j : Nat, y = (j : Int) := ⟨y.toNat, by omega⟩
      have hi11 : (i : Int) < 11 := by omega
      have hj11 : (j : Int) < 11 := by omega
      have HG' : Hid (∀ p, p < k + 1 → inR (frM zs p) 0 10 = true ∧ inR (toM zs p) 0 10 = true) := by
        show ∀ p, p < k + 1 → _
        intro p hp
        by_cases e : p = k
        · subst e; exact ⟨by rw [HX.out]; exact hx, by rw [HY.out]; exact hy⟩
        · exact HG.out p (by omega)
      obtain ⟨s0, s1⟩ := HC2.out j (by omega)
      obtain ⟨v0, v1⟩ := HC2.out i (by omega)
      obtain ⟨t, ht⟩ : ∃ t, Hid ((turnTo zs ws k).getD i 0 = t) := ⟨_, rfl⟩
      obtain ⟨s, hs⟩ : ∃ s, Hid ((turnTo zs ws k).getD j 0 = s) := ⟨_, rfl⟩
      replace s0 : wr.cell? ⟨g, off + j, none⟩ = some (.int .i64 s) := by rw [← hs.out]; exact s0
      replace v0 : wr.cell? ⟨g, off + i, none⟩ = some (.int .i64 t) := by rw [← ht.out]; exact v0
      go_wp2_with (go_at_call 39; refine (spec_in _ _ _ _).mono ?_; (first | rw [hx] | rw [hy]); rintro e w' ⟨rfl, rfl⟩)
      all_goals
        go_roundw
        case rel =>
          refine ⟨k + 1, by omega, by go_num, HG', ?_, ?_, by simpa using (by omega : g < wr.heap.size + 1)⟩
          · have q := HC2.out.set j (by omega) t
            refine MoveCells.congr (f := fun p => if p = j then t else (turnTo zs ws k).getD p 0) ?_ ?_
            · intro p hp
              obtain ⟨r0, r1⟩ := q p hp
              refine ⟨?_, ?_⟩
              · refine Eq.trans ?_ r0
                exact World.cell?_alloc_past _ _ _ (by simpa using hgl2)
              · refine Eq.trans ?_ r1
                exact World.frozen?_alloc_past _ _ _ (by simpa using hgl2)
            · intro p hp
              show (if p = j then t else _) = ((turnTo zs ws k).set (toM zs k).toNat ((turnTo zs ws k).getD (frM zs k).toNat 0)).getD p 0
              rw [HY.out, HX.out, set_getD _ _ _ _ (by rw [turn_len, h11]; omega)]
              show (if p = j then t else _) = if p = j then (turnTo zs ws k).getD i 0 else (turnTo zs ws k).getD p 0
              rw [ht.out]
          · exact ((HB3.out.setCell (by show W.heap.size ≤ g; exact hWg) _).alloc (by simp; omega) _)
        case measure => simp [intOf]; omega
    · have hkl : k = len := by omega
      subst hkl
      have HM : Hid (turnB zs k = true) := turn_mk h40 HG.out
      go_wp2
      go_ret2
      exact ⟨HB3.out, Or.inl ⟨by rw [HM.out]; rfl, _, _, rfl, (cells_mine HC2.out (by rw [turn_len]; exact h11) hWg hgl2 (fun i hi => rfl)).ints⟩⟩
end Go.Proofs.Ythjcgnldlhjjmaa.walks
