/-
  What the specification's LayFlow answers.
-/
import Derived.Test.YtemlhhogcdgofaaProg
import Derived.Test.YtemlhhogcdgofaaLayMath
import Derived.Test.YtemlhhogcdgofaaLayImpl
import Derived.Test.YtemlhhogcdgofaaAnew
import Derived.Test.YtemlhhogcdgofaaEdgeSpec
import Derived.Test.YtemlhhogcdgofaaFlowSpec
import Derived.Test.YtemlhhogcdgofaaOwnFlat
import Derived.Test.YtemlhhogcdgofaaOwnBlocks
import Derived.WalkKit
import Derived.WalkSpells
import Derived.Below
import Derived.Handy
import Derived.OwnWalk
import Derived.Maps.AppendAt
import Derived.Deep.DeepCutAuto
import Derived.Deep.RegionHeld3
import Derived.Test.YtemlhhogcdgofaaOwnMath
import Derived.Laws.OwnMore
namespace Go.Proofs.Ytemlhhogcdgofaa.walks
open Go.RowKit Go.Proofs.Ytemlhhogcdgofaa.math Go.Proofs.Ytemlhhogcdgofaa.ints Go.Proofs.Ytemlhhogcdgofaa.deep
set_option linter.unusedVariables false
set_option linter.unusedSimpArgs false
set_option maxRecDepth 100000

theorem mine_apart {w : World} {B g i : Nat} {a : Option Addr} {zs : List Int} {u : Value} (h : Mine w B a zs) (hne : zs ≠ [] → ∀ b o, a = some ⟨b, o, none⟩ → b ≠ g) : Mine (w.setCell ⟨g, i, none⟩ u) B a zs := by
  by_cases q : zs = []
  · exact Or.inl q
  rcases h with h | ⟨b, off, e, hB, hl, hc⟩
  · exact Or.inl h
  · have hb := hne q b off e
    exact Or.inr ⟨b, off, e, hB, by simpa [World.setCell] using hl, fun j hj => ⟨by rw [World.cell?_setCell_other _ _ _ _ (by simp; try omega)]; exact (hc j hj).1, by simpa using (hc j hj).2⟩⟩
/-- What the copy and the new block are, however their memory was made. -/
def LayMid (W1 wx : World) (fz : List Int) (len : Nat) (t : Int) (v13 : Value) : Prop := ∃ gx ua uc, v13 = .pointer (some ⟨gx, 0, none⟩) ∧ Hid (wx.rowIs gx 46 4 (rowF [.slice ua len uc, .int .i64 t, .int .i64 (-1), .int .i64 (-1)])) ∧ Hid (Mine wx W1.heap.size ua fz) ∧ Hid (Below W1.heap.size W1 wx) ∧ W1.heap.size ≤ gx ∧ Hid (fz ≠ [] → ∀ b o, ua = some ⟨b, o, none⟩ → b ≠ gx)

/-- An empty list of steps that was just made. -/
def BareI (w : World) (g : Nat) : Prop := w.heap[g]? = some (.cells #[] 74)
theorem BareI.lt {w : World} {g : Nat} (h : BareI w g) : g < w.heap.size := by
  unfold BareI at h
  exact (Array.getElem?_eq_some_iff.1 h).1
theorem bareI_new (w : World) : BareI (w.alloc (.cells #[] 74)) w.heap.size := by
  show (w.heap.push _)[w.heap.size]? = _
  exact Array.getElem?_push_size
theorem bareI_owns {w : World} {B g : Nat} (h : BareI w g) (hB : B ≤ g) : w.ownsRow B 74 5 (.slice (some ⟨g, 0, none⟩) 0 0) 0 [] :=
  ⟨rfl, Or.inr ⟨g, 0, #[], rfl, hB, h, Nat.le_refl _, Nat.zero_le _, rfl, rfl⟩⟩
structure CopI (X w w' : World) (g : Nat) (v : Value) : Prop where
  at_ : v.ownBlock = some g ∨ v.ownBlock = some w.heap.size
  size : w.heap.size ≤ w'.heap.size
  block : ∀ k, k < w.heap.size → k ≠ g → w'.heap[k]? = w.heap[k]?
  bel : Below X.heap.size X w'
theorem step_copyI (X w : World) {ops : Array Oper} {o : Oper} {a : Act} {K : Act → World → Prop} {Q : Exit → Act → World → Prop} {E : Prop} (hgd : o.guard = none) (s x : Operand) 
    (ho : o.op = .call { callee := .builtin .append, args := #[s, x], argTypes := #[44, 44] }) (g : Nat) (hs : a.eval s = .slice (some ⟨g, 0, none⟩) 0 0) (hb : BareI w g) (hg : X.heap.size ≤ g) (hX : Below X.heap.size X w)
    (av : Option Addr) (L c : Nat) (hx : a.eval x = .slice av L c) (zs : List Int) (HL : zs.length = L * 5) (hL : L ≤ 30) (hI : Ints X av zs)
    (h : ∀ ua uc w', w'.ownsRow X.heap.size 74 5 (.slice ua L uc) L (zs.map (Value.int .i64)) → CopI X w w' g (.slice ua L uc) → K (a.put o.dst (.slice ua L uc)) w') :
    if Region.wanted o (yielded ops a.tmps) = true then Oper.wp Try.prog o a w K Q else E := by
  obtain ⟨i0, hi, hz0, hz1, hz2⟩ := parts_of Instr_info
  have hw : Region.wanted o (yielded ops a.tmps) = true := by simp [Region.wanted, hgd]
  cases av with
  | none =>
    have e0 : zs = [] := by
      rcases hI with q | ⟨b, off, e, _⟩
      · exact q
      · cases e
    subst e0
    have hL0 : L = 0 := by simp at HL; omega
    subst hL0
    rw [if_pos hw]
    have hr : (Builtin.append_ #[44, 44] o.type #[.slice (some ⟨g, 0, none⟩) 0 0, .slice none 0 c]).run Try.prog w = .ok (.slice (some ⟨g, 0, none⟩) 0 0) w := by
      simp [Builtin.append_, run_underlying Try.underlying44, sizeOf, typeInfo, hi, hz1, Builtin.lenOf, Builtin.firstCells, storeCells]
    unfold Oper.wp execOp
    simp only [ho, resolve, invoke, builtin, Sem.run_bind, Sem.run_pure, Result.andThen_ok, List.map_toArray, List.map_cons, List.map_nil, hs, hx, hr]
    exact h _ _ _ (bareI_owns hb hg) ⟨Or.inl rfl, Nat.le_refl _, fun _ _ _ => rfl, hX⟩
  | some ad =>
    refine step_append_at w hgd s x 44 ho X.heap.size 74 i0 _ 5 40 Try.underlying44 hi hz0 hz1 hz2 rfl (by decide) _ 0 [] hs (bareI_owns hb hg) ad L c (zs.map (Value.int .i64)) hx (by simpa using HL) (instr_news hI hX) (news_one zs) (by unfold maxLen; omega) (by omega) hX.size ?_
    intro v' w' h1 h2 _ h4
    rw [Nat.zero_add, List.nil_append] at h1
    obtain ⟨ua, uc, ue, _⟩ := OwnF.mine (show OwnF w' X.heap.size 74 5 v' L zs from h1)
    subst ue
    exact h ua uc w' h1 ⟨h4, h2.size, fun k hk hne => h2.block k hk (by simp [Value.ownBlock]; omega), hX.trans ⟨h2.os, h2.tape, h2.output, h2.size, fun k hk => h2.block k (Nat.lt_of_lt_of_le hk hX.size) (by simp [Value.ownBlock]; omega)⟩⟩
theorem lay_mid {W1 w : World} {fz : List Int} {len g : Nat} {t : Int} {ua : Option Addr} {uc : Nat} {F : Nat → Value} (hown : w.ownsRow W1.heap.size 74 5 (.slice ua len uc) len (fz.map (Value.int .i64))) (hb : Below W1.heap.size W1 w) (hr : w.rowIs g 46 4 F) (hg : W1.heap.size ≤ g) (hne : (Value.slice ua len uc).ownBlock ≠ some g) :
    LayMid W1 ((((w.setCell ⟨g, 0, none⟩ (.slice ua len uc)).setCell ⟨g, 1, none⟩ (.int .i64 t)).setCell ⟨g, 2, none⟩ (.int .i64 (-1))).setCell ⟨g, 3, none⟩ (.int .i64 (-1))) fz len t (.pointer (some ⟨g, 0, none⟩)) := by
  obtain ⟨a', c', e, hM⟩ := OwnF.mine (show OwnF w W1.heap.size 74 5 (.slice ua len uc) len fz from hown)
  simp only [Value.slice.injEq, true_and] at e
  obtain ⟨rfl, rfl⟩ := e
  have hap : fz ≠ [] → ∀ b o, ua = some ⟨b, o, none⟩ → b ≠ g := fun q b o e r => by
    subst r
    rcases hown.2 with ⟨e2, _⟩ | ⟨g2, cap, cur, e2, _⟩
    · cases e2; cases e
    · cases e2
      cases e
      exact hne rfl
  refine ⟨g, ua, uc, rfl, ?_, ?_, ?_, hg, hap⟩
  · show World.rowIs _ _ _ _ _
    refine ((((hr.set 0 _).set 1 _).set 2 _).set 3 _).congr ?_
    intro i hi
    match i, hi with
    | 0, _ => rfl
    | 1, _ => rfl
    | 2, _ => rfl
    | 3, _ => rfl
  · show Mine _ _ _ _
    exact mine_apart (mine_apart (mine_apart (mine_apart hM hap) hap) hap) hap
  · show Below _ _ _
    exact (((hb.setCell (by simpa using hg) _).setCell (by simpa using hg) _).setCell (by simpa using hg) _).setCell (by simpa using hg) _
set_option maxHeartbeats 8000000 in
theorem spec_layflow (a a1 : Option Addr) (n cap l1 cap1 : Nat) (f : Nat → Bv) (zs : List Int) (W : World) (hn : n ≤ 1048576) (hlen : Hid (∀ k, k < n → (f k).len ≤ 1048576)) (h : Hid (Flow W a n f)) (hz1 : Hid (zs.length = l1)) (hl1 : l1 ≤ 1048576) (hc1 : l1 ≤ cap1) (hc2 : cap1 ≤ 1048576) (h1 : Hid (Ints W a1 zs)) :
    Calls Try.prog 6 #[.slice a n cap, .slice a1 l1 cap1] W fun e W' => LayAns f n zs W e W' := by
  obtain ⟨i4, hi4, hz4, hz5, hz6⟩ := parts_of block_row
  cases hf : flowB f n
  · go_enter Try.func6, Try.ntmps6
    go_wp2_with fail
    refine (spec_flow _ _ _ f _ hn hlen h).mono ?_
    rw [hf]
    rintro e w1 ⟨rfl, hB⟩
    have HA : Hid (LayAns f n zs W (.returned (.tuple #[.slice none 0 0, .bool false])) w1) := ⟨Or.inr ⟨by unfold okLay; rw [hf]; rfl, rfl⟩, hB⟩
    clear hB hf
    go_wp2
    go_ret2
    exact HA.out
  have HF : Hid (flowB f n = true) := hf
  have hn8 : n ≤ 8 := (flow_out hf).1.2
  have hnI : (n : Int) ≤ 8 := by omega
  cases hl : layB zs (n : Int)
  · have HO : Hid (okLay f n zs = false) := by show _ = _; unfold okLay; rw [hl]; simp
    go_enter Try.func6, Try.ntmps6
    go_wp2_with fail
    refine (spec_flow _ _ _ f _ hn hlen h).mono ?_
    rw [hf]
    rintro e w1 ⟨rfl, hB⟩
    have HB1 : Hid (Below W.heap.size W w1) := hB
    clear hB hf
    go_wp2_with fail
    have hc := spec_islay a1 l1 cap1 (n : Int) zs w1 hz1 hl1 hc1 hc2 (h1.out.kept HB1.out)
    rw [hl] at hc
    refine hc.mono ?_
    rintro e w2 ⟨rfl, hw⟩
    rw [hw]
    have HA : Hid (LayAns f n zs W (.returned (.tuple #[.slice none 0 0, .bool false])) w1) := ⟨Or.inr ⟨HO.out, rfl⟩, HB1.out⟩
    clear hw hc w2
    go_wp2
    go_ret2
    exact HA.out
  have HO : Hid (okLay f n zs = true) := by show _ = _; unfold okLay; rw [hl, HF.out]; rfl
  obtain ⟨q1, q2, q3⟩ := lay_in hl
  have HIN2 : Hid (∀ i, i < n → 0 ≤ zs.getD i 0 ∧ zs.getD i 0 < (n : Int)) := q3
  have HORD : Hid (orderB zs (n : Int) = true) := q2
  have el1 : l1 = n := by rw [← hz1.out]; exact q1
  subst el1
  clear q1 q2 q3
  have hmk := run_make_row' (P := Try.prog) 23 3 (.int .i64 0) 8 Try.underlying23 row_info rfl .i64 .i64 l1 (by omega) (by omega)
  go_enter Try.func6, Try.ntmps6
  go_wp2_with fail
  refine (spec_flow _ _ _ f _ hn hlen h).mono ?_
  rw [hf]
  rintro e w1 ⟨rfl, hB⟩
  have HB1 : Hid (Below W.heap.size W w1) := hB
  have hw1 := hB.size
  clear hB hf
  go_wp2_with fail
  have hc := spec_islay a1 l1 cap1 (l1 : Int) zs w1 hz1 hl1 hc1 hc2 (h1.out.kept HB1.out)
  rw [hl] at hc
  refine hc.mono ?_
  rintro e w2 ⟨rfl, hw⟩
  rw [hw]
  clear hw hc w2 hl
  go_wp2
  clear hmk
  go_loopw [29] (fun vi wr => ∃ k : Nat, k ≤ l1 ∧ vi = .int .i64 k ∧ Hid (wr.rowIs w1.heap.size 3 l1 (fun j => .int .i64 (plcTo zs k (j : Int)))) ∧ Hid (Below W.heap.size W wr)) (fun vi _ => l1 - (intOf vi).toNat)
  case atStart =>
    refine ⟨0, Nat.zero_le _, rfl, ?_, ?_⟩
    · show World.rowIs _ _ _ _ _
      exact (World.rowIs_made w1 (.int .i64 0) l1 3).congr (fun i hi => by simp [plcTo])
    · exact HB1.out.alloc hw1 _
  case round =>
    obtain ⟨k, hk, rfl, HC, HB⟩ := hrel
    by_cases hlt : k < l1
    · have hltI : (k : Int) < (l1 : Int) := by omega
      obtain ⟨b, off, ha, hc⟩ := h1.out.at HB.out (k := k) (by rw [hz1.out]; exact hlt)
      obtain ⟨x0, x1⟩ := HIN2.out k hlt
      have HST : Hid (∀ i, plcTo zs (k + 1) i = if zs.getD k 0 = i then (k : Int) else plcTo zs k i) := fun i => rfl
      obtain ⟨x, hx⟩ : ∃ x, Hid (zs.getD k 0 = x) := ⟨_, rfl⟩
      rw [hx.out] at hc x0 x1 HST
      obtain ⟨m, rfl⟩ : ∃ m : Nat, x = (m : Int) := ⟨x.toNat, by omega⟩
      have hm : m < l1 := by omega
      have hmI : (m : Int) < (l1 : Int) := by omega
      have t0 := HC.out.cell hm
      have t1 := HC.out.frozen m
      subst ha
      go_wp2
      go_roundw
      case rel =>
        refine ⟨k + 1, by omega, by go_num, ?_, ?_⟩
        · show World.rowIs _ _ _ _ _
          refine (HC.out.set m _).congr ?_
          intro j hj
          rw [HST.out]
          by_cases e : j = m
          · subst e; simp
          · rw [if_neg e, if_neg (by omega)]
        · show Below _ _ _
          exact HB.out.setCell hw1 _
      case measure => simp [intOf]; omega
    have HE : Hid (k = l1) := by show k = l1; omega
    rw [HE.out] at HC
    obtain ⟨wp, hwp⟩ : ∃ wp, wp = wr := ⟨_, rfl⟩
    subst hwp
    have hgl : w1.heap.size < wp.heap.size := HC.out.lt
    have hwp := HB.out.size
    obtain ⟨ga, hga⟩ : ∃ ga, Hid (w1.heap.size = ga) := ⟨_, rfl⟩
    rw [hga.out] at HC hgl ⊢
    have hkI : (l1 : Int) ≤ (k : Int) := by omega
    have hkd : decide ((k : Int) < (l1 : Int)) = false := decide_eq_false (by omega)
    have hkd2 : decide (k < l1) = false := decide_eq_false (by omega)
    clear hlt
    go_wp2
    go_loopw [9, 41] (fun vl vi wr => ∃ (i : Nat) (v : Value), i ≤ l1 ∧ vi = .int .i64 i ∧ v = vl ∧ Hid (OwnBl wr wp.heap.size v i (layF f zs l1)) ∧ Hid (Below wp.heap.size wp wr)) (fun _ vi _ => l1 - (intOf vi).toNat)
    case atStart => exact ⟨0, _, Nat.zero_le _, rfl, rfl, OwnBl.nil _ _ _, Below.refl _ _⟩
    case round =>
      obtain ⟨i, v, hi, rfl, rfl, HOB, HBi⟩ := hrel
      have HBW : Hid (Below W.heap.size W wr) := HB.out.trans (HBi.out.mono hwp)
      by_cases hlt : i < l1
      rotate_left
      · have HE2 : Hid (i = l1) := by show i = l1; omega
        have HA : Hid (LayAns f l1 zs W (.returned (.tuple #[v, .bool true])) wr) := ⟨Or.inl ⟨HO.out, v, rfl, by rw [HE2.out] at HOB; exact ownBl_down HOB.out hwp⟩, HBW.out⟩
        go_wp2
        go_ret2
        exact HA.out
      have hltI : (i : Int) < (l1 : Int) := by omega
      obtain ⟨ob, oo, ha1, hc⟩ := h1.out.at HBW.out (k := i) (by rw [hz1.out]; exact hlt)
      obtain ⟨x0, x1⟩ := HIN2.out i hlt
      obtain ⟨m, hm⟩ : ∃ m : Nat, zs.getD i 0 = (m : Int) := ⟨(zs.getD i 0).toNat, by omega⟩
      have EZ := layF_at (f := f) (n := l1) hm
      rw [hm] at hc x0 x1
      have hmn : m < l1 := by omega
      obtain ⟨b, off, ca, cc, ha, hb, c0, c1, c2, c3, hI, hZ⟩ := flow_at h.out HBW.out hmn
      subst ha ha1
      go_upto_region 14 with fail
      obtain ⟨W1, hW1⟩ : ∃ W1, Hid (wr.alloc (.cells #[.slice ca (f m).len cc, .int .i64 (f m).t, .int .i64 (f m).th, .int .i64 (f m).el] 46) = W1) := ⟨_, rfl⟩
      have BA : Hid (Below wr.heap.size wr W1) := by show Below _ _ _; rw [← hW1.out]; exact (Below.refl _ _).alloc (Nat.le_refl _) _
      have RA : Hid (W1.rowIs wr.heap.size 46 4 (rowF [.slice ca (f m).len cc, .int .i64 (f m).t, .int .i64 (f m).th, .int .i64 (f m).el])) := by show World.rowIs _ _ _ _ _; rw [← hW1.out]; exact row_of wr #[.slice ca (f m).len cc, .int .i64 (f m).t, .int .i64 (f m).th, .int .i64 (f m).el] 46
      rw [hW1.out]
      clear hW1 c0 c1 c2 c3
      have HI1 : Hid (Ints W1 ca (f m).zs) := hI.kept BA.out
      have HZ : Hid ((f m).zs.length = (f m).len * 5) := hZ
      clear hI hZ
      have r0 : W1.cell? ⟨wr.heap.size, 0, none⟩ = some (.slice ca (f m).len cc) := RA.out.cell (i := 0) (by decide)
      have r1 : W1.cell? ⟨wr.heap.size, 1, none⟩ = some (.int .i64 (f m).t) := RA.out.cell (i := 1) (by decide)
      have hgl1 : wr.heap.size < W1.heap.size := RA.out.lt
      have hblk := (flow_out HF.out).2 m hmn
      simp only [blockB, Bool.and_eq_true] at hblk
      have hl30 : (f m).len ≤ 30 := (code_out hblk.1.1.1).1
      have hth := inR_out hblk.1.2
      have hel := inR_out hblk.2
      clear hblk
      have r2 : W1.cell? ⟨wr.heap.size, 2, none⟩ = some (.int .i64 (f m).th) := RA.out.cell (i := 2) (by decide)
      have r3 : W1.cell? ⟨wr.heap.size, 3, none⟩ = some (.int .i64 (f m).el) := RA.out.cell (i := 3) (by decide)
      have HEZ : Hid ((layF f zs l1 i).zs = (f m).zs ∧ (layF f zs l1 i).len = (f m).len ∧ (layF f zs l1 i).t = (f m).t ∧ (layF f zs l1 i).th = newV (plcF zs l1) (f m).th ∧ (layF f zs l1 i).el = newV (plcF zs l1) (f m).el) := EZ
      have HGA : Hid (∀ w, Below wr.heap.size wr w → ∀ q, q < l1 → w.cell? ⟨ga, q, none⟩ = some (.int .i64 (plcTo zs l1 (q : Int)))) := fun w hw q hq => ((HBi.out.trans (hw.mono HBi.out.size)).cell (p := ⟨ga, q, none⟩) hgl).trans (HC.out.cell hq)
      have hgaw : ga < wr.heap.size := by have := HBi.out.size; omega
      have hsW1 := BA.out.size
      clear EZ RA
      generalize hgb : wr.heap.size = gb at r0 r1 r2 r3 hgl1 ⊢
      have HGB : Hid (wr.heap.size = gb) := hgb
      clear hgb
      generalize (f m).len = len at r0 HZ hl30 HEZ ⊢
      generalize (f m).t = t at r1 HEZ ⊢
      generalize (f m).zs = fz at HI1 HZ HEZ ⊢
      generalize (f m).th = th at r2 hth HEZ ⊢
      generalize (f m).el = el at r3 hel HEZ ⊢
      have RR : Hid (∀ w, Below W1.heap.size W1 w → (w.cell? ⟨gb, 0, none⟩ = some (.slice ca len cc) ∧ w.cell? ⟨gb, 1, none⟩ = some (.int .i64 t))) := fun w q => ⟨(q.cell (p := ⟨gb, 0, none⟩) hgl1).trans r0, (q.cell (p := ⟨gb, 1, none⟩) hgl1).trans r1⟩
      have SET : Hid (∀ w g, Below W1.heap.size W1 w → W1.heap.size ≤ g → ∀ u0 u1 u2 u3 : Value, (((((w.setCell ⟨g, 0, none⟩ u0).setCell ⟨g, 1, none⟩ u1).setCell ⟨g, 2, none⟩ u2).setCell ⟨g, 3, none⟩ u3).cell? ⟨gb, 0, none⟩ = some (.slice ca len cc) ∧ ((((w.setCell ⟨g, 0, none⟩ u0).setCell ⟨g, 1, none⟩ u1).setCell ⟨g, 2, none⟩ u2).setCell ⟨g, 3, none⟩ u3).cell? ⟨gb, 1, none⟩ = some (.int .i64 t))) := fun w g q hg u0 u1 u2 u3 => RR.out _ ((((q.setCell (by simpa using hg) _).setCell (by simpa using hg) _).setCell (by simpa using hg) _).setCell (by simpa using hg) _)
      go_cut [13] (fun v13 wx => LayMid W1 wx fz len t v13)
      case first =>
          refine wp_region_noPanic ?_
          refine wp_region_held_drew (S := fun w' => (w'.cell? ⟨gb, 0, none⟩ = some (.slice ca len cc) ∧ w'.cell? ⟨gb, 1, none⟩ = some (.int .i64 t))) (by kernel_rfl) ?_ (fun hHeld => ?_)
          · exact RR.out _ (Below.refl _ _).drew
          obtain ⟨y0, ey⟩ : ∃ q, q = W1.drew := ⟨_, rfl⟩
          rw [← ey] at hHeld ⊢
          have BX : Hid (Below W1.heap.size W1 y0) := by show Below _ _ _; rw [ey]; exact (Below.refl _ _).drew
          clear ey
          refine wpAnyH_take (i := 1) (v := ?v1) rfl (by kernel_rfl) (by kernel_rfl) (by kernel_rfl) (fun _ _ _ h => h) (Or.inl ⟨by rfl, ?hy1⟩) (by assumption) ?_
          case hy1 => (intro w hSw; (try dsimp only at hSw); go_simp; try with_reducible rfl)
          try simp only [Act.put, List.setIfInBounds_toArray, List.set_cons_zero, List.set_cons_succ]
          refine wpAnyH_take (i := 2) (v := ?v2) rfl (by kernel_rfl) (by kernel_rfl) (by kernel_rfl) (fun _ _ _ h => h) (Or.inl ⟨by rfl, ?hy2⟩) (by assumption) ?_
          case hy2 => (intro w hSw; (try dsimp only at hSw); go_simp; try with_reducible rfl)
          try simp only [Act.put, List.setIfInBounds_toArray, List.set_cons_zero, List.set_cons_succ]
          refine wpAnyH_take (i := 4) (v := ?v3) rfl (by kernel_rfl) (by kernel_rfl) (by kernel_rfl) (fun _ _ _ h => h) (Or.inl ⟨by rfl, ?hy3⟩) (by assumption) ?_
          case hy3 => (intro w hSw; (try dsimp only at hSw); go_simp; try with_reducible rfl)
          try simp only [Act.put, List.setIfInBounds_toArray, List.set_cons_zero, List.set_cons_succ]
          refine wpAnyH_take (i := 5) (v := ?v4) rfl (by kernel_rfl) (by kernel_rfl) (by kernel_rfl) (fun _ _ _ h => h) (Or.inl ⟨by rfl, ?hy4⟩) (by assumption) ?_
          case hy4 => (intro w hSw; (try dsimp only at hSw); go_simp; try with_reducible rfl)
          try simp only [Act.put, List.setIfInBounds_toArray, List.set_cons_zero, List.set_cons_succ]
          refine wpAnyH_ready (rs := [0, 7]) (by kernel_rfl) (by simp) ?_
          refine AllReadyH.cons rfl (fun K hK => ?_) ?_
          · go_simp
            obtain ⟨y1, ey⟩ : ∃ q, q = y0.alloc (.cells #[] 74) := ⟨_, rfl⟩
            rw [← ey]
            have hB : Below y0.heap.size y0 y1 := by rw [ey]; exact (Below.refl _ _).alloc (Nat.le_refl _) _
            have PE : Hid (BareI y1 y0.heap.size) := by show BareI _ _; rw [ey]; exact bareI_new _
            have GE : Hid (W1.heap.size ≤ y0.heap.size) := BX.out.size
            have BX : Hid (Below W1.heap.size W1 y1) := BX.out.trans (hB.mono BX.out.size)
            clear ey hB
            refine hK.out _ _ ?_ (fun hHeld => ?_)
            · exact RR.out y1 BX.out
            clear hK K
            try simp only [Act.put, List.setIfInBounds_toArray, List.set_cons_zero, List.set_cons_succ]
            refine wpAnyH_ready (rs := [3, 7]) (by kernel_rfl) (by simp) ?_
            refine AllReadyH.cons rfl (fun K hK => ?_) ?_
            · refine step_copyI W1 y1 rfl _ _ rfl (y0.heap.size) rfl PE.out GE.out BX.out ca len cc rfl fz HZ.out hl30 HI1.out ?_
              intro ua uc y2 hown hC
              have OW : Hid (y2.ownsRow W1.heap.size 74 5 (.slice ua len uc) len (fz.map (Value.int .i64))) := hown
              have BX : Hid (Below W1.heap.size W1 y2) := hC.bel
              clear hown hC
              refine hK.out _ _ ?_ (fun hHeld => ?_)
              · exact RR.out y2 BX.out
              clear hK K
              try simp only [Act.put, List.setIfInBounds_toArray, List.set_cons_zero, List.set_cons_succ]
              refine wpAnyH_take (i := 6) (v := ?v5) rfl (by kernel_rfl) (by kernel_rfl) (by kernel_rfl) (fun _ _ _ h => h) (Or.inl ⟨by rfl, ?hy5⟩) (by assumption) ?_
              case hy5 => (intro w hSw; (try dsimp only at hSw); go_simp; try with_reducible rfl)
              try simp only [Act.put, List.setIfInBounds_toArray, List.set_cons_zero, List.set_cons_succ]
              refine wpAnyH_ready (rs := [7]) (by kernel_rfl) (by simp) ?_
              refine AllReadyH.cons rfl (fun K hK => ?_) AllReadyH.nil
              go_simp
              obtain ⟨y3, ey⟩ : ∃ q, q = y2.alloc (.cells #[.slice none 0 0, .int .i64 0, .int .i64 0, .int .i64 0] 46) := ⟨_, rfl⟩
              rw [← ey]
              have hB : Below y2.heap.size y2 y3 := by rw [ey]; exact (Below.refl _ _).alloc (Nat.le_refl _) _
              have PX : Hid (y3.rowIs y2.heap.size 46 4 (rowF [.slice none 0 0, .int .i64 0, .int .i64 0, .int .i64 0])) := by show World.rowIs _ _ _ _ _; rw [ey]; exact row_of y2 #[.slice none 0 0, .int .i64 0, .int .i64 0, .int .i64 0] 46
              have GX : Hid (W1.heap.size ≤ y2.heap.size) := BX.out.size
              have NV : Hid ((Value.slice ua len uc).ownBlock ≠ some y2.heap.size) := fun e => by have := (World.ownsRow.lt OW.out _ e).2; omega
              have OW : Hid (y3.ownsRow W1.heap.size 74 5 (.slice ua len uc) len (fz.map (Value.int .i64))) := by have q := World.ownsRow.alloc OW.out (.cells #[.slice none 0 0, .int .i64 0, .int .i64 0, .int .i64 0] 46); rw [← ey] at q; exact q
              have BX : Hid (Below W1.heap.size W1 y3) := BX.out.trans (hB.mono BX.out.size)
              clear ey hB
              refine hK.out _ _ ?_ (fun hHeld => ?_)
              · exact RR.out y3 BX.out
              clear hK K
              try simp only [Act.put, List.setIfInBounds_toArray, List.set_cons_zero, List.set_cons_succ]
              have x0 : y3.cell? ⟨y2.heap.size, 0, none⟩ = some (.slice none 0 0) := PX.out.cell (i := 0) (by decide)
              have fx0 := PX.out.frozen 0
              have x1 : y3.cell? ⟨y2.heap.size, 1, none⟩ = some (.int .i64 0) := PX.out.cell (i := 1) (by decide)
              have fx1 := PX.out.frozen 1
              have x2 : y3.cell? ⟨y2.heap.size, 2, none⟩ = some (.int .i64 0) := PX.out.cell (i := 2) (by decide)
              have fx2 := PX.out.frozen 2
              have x3 : y3.cell? ⟨y2.heap.size, 3, none⟩ = some (.int .i64 0) := PX.out.cell (i := 3) (by decide)
              have fx3 := PX.out.frozen 3
              have xl := PX.out.lt
              refine wpAnyH_ready (rs := [8]) (by kernel_rfl) (by simp) ?_
              refine AllReadyH.cons rfl (fun K hK => ?_) AllReadyH.nil
              go_simp
              refine hK.out _ _ ?_ (fun hHeld => ?_)
              · exact SET.out y3 _ BX.out GX.out _ _ _ _
              clear hK K
              refine wpAnyH_done (by kernel_rfl) ?_ _
              refine NoPanic.normal ?_
              have HM := lay_mid (t := t) OW.out BX.out PX.out GX.out NV.out
              have HMH : Hid _ := HM
              clear HM x0 x1 x2 x3 fx0 fx1 fx2 fx3 xl PX
              go_wp2
              go_meet
              exact HMH.out
            refine AllReadyH.cons rfl (fun K hK => ?_) AllReadyH.nil
            go_simp
            obtain ⟨y4, ey⟩ : ∃ q, q = y1.alloc (.cells #[.slice none 0 0, .int .i64 0, .int .i64 0, .int .i64 0] 46) := ⟨_, rfl⟩
            rw [← ey]
            have hB : Below y1.heap.size y1 y4 := by rw [ey]; exact (Below.refl _ _).alloc (Nat.le_refl _) _
            have PX : Hid (y4.rowIs y1.heap.size 46 4 (rowF [.slice none 0 0, .int .i64 0, .int .i64 0, .int .i64 0])) := by show World.rowIs _ _ _ _ _; rw [ey]; exact row_of y1 #[.slice none 0 0, .int .i64 0, .int .i64 0, .int .i64 0] 46
            have GX : Hid (W1.heap.size ≤ y1.heap.size) := BX.out.size
            have NX : Hid (y0.heap.size ≠ y1.heap.size) := Nat.ne_of_lt PE.out.lt
            have PE : Hid (BareI y4 y0.heap.size) := (hB.block _ PE.out.lt).trans PE.out
            have BX : Hid (Below W1.heap.size W1 y4) := BX.out.trans (hB.mono BX.out.size)
            clear ey hB
            refine hK.out _ _ ?_ (fun hHeld => ?_)
            · exact RR.out y4 BX.out
            clear hK K
            try simp only [Act.put, List.setIfInBounds_toArray, List.set_cons_zero, List.set_cons_succ]
            refine wpAnyH_ready (rs := [3]) (by kernel_rfl) (by simp) ?_
            refine AllReadyH.cons rfl (fun K hK => ?_) AllReadyH.nil
            refine step_copyI W1 y4 rfl _ _ rfl (y0.heap.size) rfl PE.out GE.out BX.out ca len cc rfl fz HZ.out hl30 HI1.out ?_
            intro ua uc y5 hown hC
            have OW : Hid (y5.ownsRow W1.heap.size 74 5 (.slice ua len uc) len (fz.map (Value.int .i64))) := hown
            have NV : Hid ((Value.slice ua len uc).ownBlock ≠ some (y1.heap.size)) := fun e => by
              rcases hC.at_ with q | q
              · rw [q] at e; exact NX.out (Option.some.inj e)
              · rw [q] at e; have := Option.some.inj e; have := PX.out.lt; omega
            have PX : Hid (y5.rowIs (y1.heap.size) 46 4 (rowF [.slice none 0 0, .int .i64 0, .int .i64 0, .int .i64 0])) := PX.out.of_block (hC.block _ PX.out.lt (Ne.symm NX.out))
            have BX : Hid (Below W1.heap.size W1 y5) := hC.bel
            clear hown hC
            refine hK.out _ _ ?_ (fun hHeld => ?_)
            · exact RR.out y5 BX.out
            clear hK K
            try simp only [Act.put, List.setIfInBounds_toArray, List.set_cons_zero, List.set_cons_succ]
            refine wpAnyH_take (i := 6) (v := ?v6) rfl (by kernel_rfl) (by kernel_rfl) (by kernel_rfl) (fun _ _ _ h => h) (Or.inl ⟨by rfl, ?hy6⟩) (by assumption) ?_
            case hy6 => (intro w hSw; (try dsimp only at hSw); go_simp; try with_reducible rfl)
            try simp only [Act.put, List.setIfInBounds_toArray, List.set_cons_zero, List.set_cons_succ]
            have x0 : y5.cell? ⟨y1.heap.size, 0, none⟩ = some (.slice none 0 0) := PX.out.cell (i := 0) (by decide)
            have fx0 := PX.out.frozen 0
            have x1 : y5.cell? ⟨y1.heap.size, 1, none⟩ = some (.int .i64 0) := PX.out.cell (i := 1) (by decide)
            have fx1 := PX.out.frozen 1
            have x2 : y5.cell? ⟨y1.heap.size, 2, none⟩ = some (.int .i64 0) := PX.out.cell (i := 2) (by decide)
            have fx2 := PX.out.frozen 2
            have x3 : y5.cell? ⟨y1.heap.size, 3, none⟩ = some (.int .i64 0) := PX.out.cell (i := 3) (by decide)
            have fx3 := PX.out.frozen 3
            have xl := PX.out.lt
            refine wpAnyH_ready (rs := [8]) (by kernel_rfl) (by simp) ?_
            refine AllReadyH.cons rfl (fun K hK => ?_) AllReadyH.nil
            go_simp
            refine hK.out _ _ ?_ (fun hHeld => ?_)
            · exact SET.out y5 _ BX.out GX.out _ _ _ _
            clear hK K
            refine wpAnyH_done (by kernel_rfl) ?_ _
            refine NoPanic.normal ?_
            have HM := lay_mid (t := t) OW.out BX.out PX.out GX.out NV.out
            have HMH : Hid _ := HM
            clear HM x0 x1 x2 x3 fx0 fx1 fx2 fx3 xl PX
            go_wp2
            go_meet
            exact HMH.out
          refine AllReadyH.cons rfl (fun K hK => ?_) AllReadyH.nil
          go_simp
          obtain ⟨y6, ey⟩ : ∃ q, q = y0.alloc (.cells #[.slice none 0 0, .int .i64 0, .int .i64 0, .int .i64 0] 46) := ⟨_, rfl⟩
          rw [← ey]
          have hB : Below y0.heap.size y0 y6 := by rw [ey]; exact (Below.refl _ _).alloc (Nat.le_refl _) _
          have PX : Hid (y6.rowIs y0.heap.size 46 4 (rowF [.slice none 0 0, .int .i64 0, .int .i64 0, .int .i64 0])) := by show World.rowIs _ _ _ _ _; rw [ey]; exact row_of y0 #[.slice none 0 0, .int .i64 0, .int .i64 0, .int .i64 0] 46
          have GX : Hid (W1.heap.size ≤ y0.heap.size) := BX.out.size
          have BX : Hid (Below W1.heap.size W1 y6) := BX.out.trans (hB.mono BX.out.size)
          clear ey hB
          refine hK.out _ _ ?_ (fun hHeld => ?_)
          · exact RR.out y6 BX.out
          clear hK K
          try simp only [Act.put, List.setIfInBounds_toArray, List.set_cons_zero, List.set_cons_succ]
          refine wpAnyH_ready (rs := [0]) (by kernel_rfl) (by simp) ?_
          refine AllReadyH.cons rfl (fun K hK => ?_) AllReadyH.nil
          go_simp
          obtain ⟨y7, ey⟩ : ∃ q, q = y6.alloc (.cells #[] 74) := ⟨_, rfl⟩
          rw [← ey]
          have hB : Below y6.heap.size y6 y7 := by rw [ey]; exact (Below.refl _ _).alloc (Nat.le_refl _) _
          have PE : Hid (BareI y7 y6.heap.size) := by show BareI _ _; rw [ey]; exact bareI_new _
          have GE : Hid (W1.heap.size ≤ y6.heap.size) := BX.out.size
          have NX : Hid (y6.heap.size ≠ y0.heap.size) := Ne.symm (Nat.ne_of_lt PX.out.lt)
          have PX : Hid (y7.rowIs y0.heap.size 46 4 (rowF [.slice none 0 0, .int .i64 0, .int .i64 0, .int .i64 0])) := PX.out.of_block (hB.block _ PX.out.lt)
          have BX : Hid (Below W1.heap.size W1 y7) := BX.out.trans (hB.mono BX.out.size)
          clear ey hB
          refine hK.out _ _ ?_ (fun hHeld => ?_)
          · exact RR.out y7 BX.out
          clear hK K
          try simp only [Act.put, List.setIfInBounds_toArray, List.set_cons_zero, List.set_cons_succ]
          refine wpAnyH_ready (rs := [3]) (by kernel_rfl) (by simp) ?_
          refine AllReadyH.cons rfl (fun K hK => ?_) AllReadyH.nil
          refine step_copyI W1 y7 rfl _ _ rfl (y6.heap.size) rfl PE.out GE.out BX.out ca len cc rfl fz HZ.out hl30 HI1.out ?_
          intro ua uc y8 hown hC
          have OW : Hid (y8.ownsRow W1.heap.size 74 5 (.slice ua len uc) len (fz.map (Value.int .i64))) := hown
          have NV : Hid ((Value.slice ua len uc).ownBlock ≠ some (y0.heap.size)) := fun e => by
            rcases hC.at_ with q | q
            · rw [q] at e; exact NX.out (Option.some.inj e)
            · rw [q] at e; have := Option.some.inj e; have := PX.out.lt; omega
          have PX : Hid (y8.rowIs (y0.heap.size) 46 4 (rowF [.slice none 0 0, .int .i64 0, .int .i64 0, .int .i64 0])) := PX.out.of_block (hC.block _ PX.out.lt (Ne.symm NX.out))
          have BX : Hid (Below W1.heap.size W1 y8) := hC.bel
          clear hown hC
          refine hK.out _ _ ?_ (fun hHeld => ?_)
          · exact RR.out y8 BX.out
          clear hK K
          try simp only [Act.put, List.setIfInBounds_toArray, List.set_cons_zero, List.set_cons_succ]
          refine wpAnyH_take (i := 6) (v := ?v7) rfl (by kernel_rfl) (by kernel_rfl) (by kernel_rfl) (fun _ _ _ h => h) (Or.inl ⟨by rfl, ?hy7⟩) (by assumption) ?_
          case hy7 => (intro w hSw; (try dsimp only at hSw); go_simp; try with_reducible rfl)
          try simp only [Act.put, List.setIfInBounds_toArray, List.set_cons_zero, List.set_cons_succ]
          have x0 : y8.cell? ⟨y0.heap.size, 0, none⟩ = some (.slice none 0 0) := PX.out.cell (i := 0) (by decide)
          have fx0 := PX.out.frozen 0
          have x1 : y8.cell? ⟨y0.heap.size, 1, none⟩ = some (.int .i64 0) := PX.out.cell (i := 1) (by decide)
          have fx1 := PX.out.frozen 1
          have x2 : y8.cell? ⟨y0.heap.size, 2, none⟩ = some (.int .i64 0) := PX.out.cell (i := 2) (by decide)
          have fx2 := PX.out.frozen 2
          have x3 : y8.cell? ⟨y0.heap.size, 3, none⟩ = some (.int .i64 0) := PX.out.cell (i := 3) (by decide)
          have fx3 := PX.out.frozen 3
          have xl := PX.out.lt
          refine wpAnyH_ready (rs := [8]) (by kernel_rfl) (by simp) ?_
          refine AllReadyH.cons rfl (fun K hK => ?_) AllReadyH.nil
          go_simp
          refine hK.out _ _ ?_ (fun hHeld => ?_)
          · exact SET.out y8 _ BX.out GX.out _ _ _ _
          clear hK K
          refine wpAnyH_done (by kernel_rfl) ?_ _
          refine NoPanic.normal ?_
          have HM := lay_mid (t := t) OW.out BX.out PX.out GX.out NV.out
          have HMH : Hid _ := HM
          clear HM x0 x1 x2 x3 fx0 fx1 fx2 fx3 xl PX
          go_wp2
          go_meet
          exact HMH.out
      case rest =>
        obtain ⟨gx, ua, uc, rfl, RX, MX, BXW, hgx, HAP⟩ := hcut
        have BWC : Hid (Below wr.heap.size wr wc) := BA.out.trans (BXW.out.mono hsW1)
        have q2 : wc.cell? ⟨gb, 2, none⟩ = some (.int .i64 th) := (BXW.out.cell (p := ⟨gb, 2, none⟩) hgl1).trans r2
        have q3 : wc.cell? ⟨gb, 3, none⟩ = some (.int .i64 el) := (BXW.out.cell (p := ⟨gb, 3, none⟩) hgl1).trans r3
        have x2 : wc.cell? ⟨gx, 2, none⟩ = some (.int .i64 (-1)) := RX.out.cell (i := 2) (by decide)
        have x3 : wc.cell? ⟨gx, 3, none⟩ = some (.int .i64 (-1)) := RX.out.cell (i := 3) (by decide)
        have fx2 := RX.out.frozen 2
        have fx3 := RX.out.frozen 3
        have xl := RX.out.lt
        have hne1 : gb ≠ gx := by omega
        have hne2 : gx ≠ gb := by omega
        have hne3 : ga ≠ gx := by omega
        have hne4 : gx ≠ ga := by omega
        obtain ⟨th0, th1⟩ := hth
        obtain ⟨el0, el1⟩ := hel
        have HKL : Hid (k = l1) := HE
        by_cases h2 : th < 0
        · have HT : Hid (newV (plcF zs l1) th = -1) := if_pos h2
          have thd : decide (th ≥ 0) = false := decide_eq_false (by omega)
          by_cases h3 : el < 0
          · have HE4 : Hid (newV (plcF zs l1) el = -1) := if_pos h3
            have eld : decide (el ≥ 0) = false := decide_eq_false (by omega)
            go_upto_region 19 with fail
            obtain ⟨w4, hw4⟩ : ∃ w4, w4 = wc := ⟨_, rfl⟩
            have R4 : Hid (w4.rowIs gx 46 4 (rowF [.slice ua len uc, .int .i64 t, .int .i64 (-1), .int .i64 (-1)])) := by
              show World.rowIs _ _ _ _ _
              rw [hw4]
              refine RX.out.congr ?_
              intro i hi
              match i, hi with
              | 0, _ => rfl
              | 1, _ => rfl
              | 2, _ => rfl
              | 3, _ => rfl
            have M4 : Hid (Mine w4 W1.heap.size ua fz) := by show Mine _ _ _ _; rw [hw4]; exact MX.out
            have B14 : Hid (Below W1.heap.size W1 w4) := by show Below _ _ _; rw [hw4]; exact BXW.out
            have B4 : Hid (Below wr.heap.size wr w4) := BA.out.trans (B14.out.mono hsW1)
            rw [← hw4]
            clear hw4 RX MX BXW
            obtain ⟨xs, hrow, hgo⟩ := OwnBl.snoc (cc := uc) HOB.out B4.out HBi.out.size (mineF_low (by rw [HEZ.out.1]; exact M4.out) hsW1) (by rw [HEZ.out.1, HEZ.out.2.1]; exact HZ.out)
            rw [HEZ.out.2.1, HEZ.out.2.2.1, HEZ.out.2.2.2.1, HEZ.out.2.2.2.2, HT.out, HE4.out] at hgo
            have HGO : Hid (∀ (o : Obj) (w2 : World) (v' : Value), w2.ownsRow wp.heap.size 46 4 v' (i + 1) (xs ++ [.slice ua len uc, .int .i64 t, .int .i64 (-1), .int .i64 (-1)]) → (w4.alloc o).grownBy w2 v.ownBlock → (v'.ownBlock = v.ownBlock ∨ v'.ownBlock = some (w4.alloc o).heap.size) → OwnBl w2 wp.heap.size v' (i + 1) (layF f zs l1) ∧ ∀ W, Below wp.heap.size W w4 → Below wp.heap.size W w2) := hgo
            have HROW : Hid (w4.ownsRow wp.heap.size 46 4 v i xs) := hrow
            have BW4 : Hid (Below wp.heap.size wp w4) := HBi.out.trans (B4.out.mono HBi.out.size)
            have h4s := BW4.out.size
            have z0 : w4.cell? ⟨gx, 0, none⟩ = some (.slice ua len uc) := R4.out.cell (i := 0) (by decide)
            have z1 : w4.cell? ⟨gx, 1, none⟩ = some (.int .i64 t) := R4.out.cell (i := 1) (by decide)
            have z2 : w4.cell? ⟨gx, 2, none⟩ = some (.int .i64 (-1)) := R4.out.cell (i := 2) (by decide)
            have z3 : w4.cell? ⟨gx, 3, none⟩ = some (.int .i64 (-1)) := R4.out.cell (i := 3) (by decide)
            have zl := R4.out.lt
            clear hgo hrow M4 B14 R4 HEZ HZ HOB HI1 RR SET HGA q2 q3 x2 x3 fx2 fx3 r0 r1 r2 r3
            clear HT HE4
            go_wp2_with (first
              | (at_builtin; refine wpList_append_own_at _ rfl _ _ 25 rfl wp.heap.size 46 i4 _ 4 48 Try.underlying25 hi4 hz4 hz5 hz6 rfl (by decide) _ _ xs rfl (World.ownsRow.alloc HROW.out _) ⟨w4.heap.size, 0, none⟩ 1 1 [.slice ua len uc, .int .i64 t, .int .i64 (-1), .int .i64 (-1)] rfl rfl (news_vals w4 [.slice ua len uc, .int .i64 t, .int .i64 (-1), .int .i64 (-1)] _) (news_blk _ _ _ _ _ _) (by unfold maxLen; omega) (by omega) (by simp; omega) ?_))
            intro v5 w5 hown hgrow _ hob
            obtain ⟨p1, p2⟩ := HGO.out _ w5 v5 hown hgrow (by simpa using hob)
            have H1 : Hid (OwnBl w5 wp.heap.size v5 (i + 1) (layF f zs l1)) := p1
            have H2 : Hid (Below wp.heap.size wp w5) := p2 _ BW4.out
            clear p1 p2 hown hgrow hob HGO HROW z0 z1 z2 z3
            go_wp2
            go_roundw
            case rel => exact ⟨i + 1, v5, by omega, by go_num, rfl, H1, H2⟩
            case measure => simp [intOf]; omega
          · have h3' : 0 ≤ el := by omega
            clear h3
            obtain ⟨eln, rfl⟩ : ∃ q : Nat, el = (q : Int) := ⟨el.toNat, by omega⟩
            have ell : eln < l1 := by omega
            have elI : (eln : Int) < (l1 : Int) := by omega
            have elz : (0 : Int) ≤ (eln : Int) := by omega
            have eld : decide ((eln : Int) ≥ 0) = true := decide_eq_true elz
            have g3 := HGA.out wc BWC.out eln ell
            have HE4 : Hid (newV (plcF zs l1) (eln : Int) = plcTo zs l1 (eln : Int)) := by show _ = _; unfold newV; rw [if_neg (by omega), Int.toNat_natCast]; rfl
            go_upto_region 19 with fail
            obtain ⟨w4, hw4⟩ : ∃ w4, w4 = (wc.setCell ⟨gx, 3, none⟩ (.int .i64 (plcTo zs l1 (eln : Int)))) := ⟨_, rfl⟩
            have R4 : Hid (w4.rowIs gx 46 4 (rowF [.slice ua len uc, .int .i64 t, .int .i64 (-1), .int .i64 (plcTo zs l1 (eln : Int))])) := by
              show World.rowIs _ _ _ _ _
              rw [hw4]
              refine (RX.out.set 3 (.int .i64 (plcTo zs l1 (eln : Int)))).congr ?_
              intro i hi
              match i, hi with
              | 0, _ => rfl
              | 1, _ => rfl
              | 2, _ => rfl
              | 3, _ => rfl
            have M4 : Hid (Mine w4 W1.heap.size ua fz) := by show Mine _ _ _ _; rw [hw4]; exact (mine_apart MX.out HAP.out)
            have B14 : Hid (Below W1.heap.size W1 w4) := by show Below _ _ _; rw [hw4]; exact (BXW.out.setCell (by simpa using hgx) _)
            have B4 : Hid (Below wr.heap.size wr w4) := BA.out.trans (B14.out.mono hsW1)
            rw [← hw4]
            clear hw4 RX MX BXW
            obtain ⟨xs, hrow, hgo⟩ := OwnBl.snoc (cc := uc) HOB.out B4.out HBi.out.size (mineF_low (by rw [HEZ.out.1]; exact M4.out) hsW1) (by rw [HEZ.out.1, HEZ.out.2.1]; exact HZ.out)
            rw [HEZ.out.2.1, HEZ.out.2.2.1, HEZ.out.2.2.2.1, HEZ.out.2.2.2.2, HT.out, HE4.out] at hgo
            have HGO : Hid (∀ (o : Obj) (w2 : World) (v' : Value), w2.ownsRow wp.heap.size 46 4 v' (i + 1) (xs ++ [.slice ua len uc, .int .i64 t, .int .i64 (-1), .int .i64 (plcTo zs l1 (eln : Int))]) → (w4.alloc o).grownBy w2 v.ownBlock → (v'.ownBlock = v.ownBlock ∨ v'.ownBlock = some (w4.alloc o).heap.size) → OwnBl w2 wp.heap.size v' (i + 1) (layF f zs l1) ∧ ∀ W, Below wp.heap.size W w4 → Below wp.heap.size W w2) := hgo
            have HROW : Hid (w4.ownsRow wp.heap.size 46 4 v i xs) := hrow
            have BW4 : Hid (Below wp.heap.size wp w4) := HBi.out.trans (B4.out.mono HBi.out.size)
            have h4s := BW4.out.size
            have z0 : w4.cell? ⟨gx, 0, none⟩ = some (.slice ua len uc) := R4.out.cell (i := 0) (by decide)
            have z1 : w4.cell? ⟨gx, 1, none⟩ = some (.int .i64 t) := R4.out.cell (i := 1) (by decide)
            have z2 : w4.cell? ⟨gx, 2, none⟩ = some (.int .i64 (-1)) := R4.out.cell (i := 2) (by decide)
            have z3 : w4.cell? ⟨gx, 3, none⟩ = some (.int .i64 (plcTo zs l1 (eln : Int))) := R4.out.cell (i := 3) (by decide)
            have zl := R4.out.lt
            clear hgo hrow M4 B14 R4 HEZ HZ HOB HI1 RR SET HGA q2 q3 x2 x3 fx2 fx3 r0 r1 r2 r3
            obtain ⟨ve, hve⟩ : ∃ x, Hid ((plcTo zs l1 (eln : Int)) = x) := ⟨_, rfl⟩
            try rw [hve.out] at HGO
            try rw [hve.out] at z3
            clear HT HE4
            go_wp2_with (first
              | (at_builtin; refine wpList_append_own_at _ rfl _ _ 25 rfl wp.heap.size 46 i4 _ 4 48 Try.underlying25 hi4 hz4 hz5 hz6 rfl (by decide) _ _ xs rfl (World.ownsRow.alloc HROW.out _) ⟨w4.heap.size, 0, none⟩ 1 1 [.slice ua len uc, .int .i64 t, .int .i64 (-1), .int .i64 ve] rfl rfl (news_vals w4 [.slice ua len uc, .int .i64 t, .int .i64 (-1), .int .i64 ve] _) (news_blk _ _ _ _ _ _) (by unfold maxLen; omega) (by omega) (by simp; omega) ?_))
            intro v5 w5 hown hgrow _ hob
            obtain ⟨p1, p2⟩ := HGO.out _ w5 v5 hown hgrow (by simpa using hob)
            have H1 : Hid (OwnBl w5 wp.heap.size v5 (i + 1) (layF f zs l1)) := p1
            have H2 : Hid (Below wp.heap.size wp w5) := p2 _ BW4.out
            clear p1 p2 hown hgrow hob HGO HROW z0 z1 z2 z3
            go_wp2
            go_roundw
            case rel => exact ⟨i + 1, v5, by omega, by go_num, rfl, H1, H2⟩
            case measure => simp [intOf]; omega
        · have h2' : 0 ≤ th := by omega
          clear h2
          obtain ⟨thn, rfl⟩ : ∃ q : Nat, th = (q : Int) := ⟨th.toNat, by omega⟩
          have thl : thn < l1 := by omega
          have thI : (thn : Int) < (l1 : Int) := by omega
          have thz : (0 : Int) ≤ (thn : Int) := by omega
          have thd : decide ((thn : Int) ≥ 0) = true := decide_eq_true thz
          have g2 := HGA.out wc BWC.out thn thl
          have HT : Hid (newV (plcF zs l1) (thn : Int) = plcTo zs l1 (thn : Int)) := by show _ = _; unfold newV; rw [if_neg (by omega), Int.toNat_natCast]; rfl
          by_cases h3 : el < 0
          · have HE4 : Hid (newV (plcF zs l1) el = -1) := if_pos h3
            have eld : decide (el ≥ 0) = false := decide_eq_false (by omega)
            go_upto_region 19 with fail
            obtain ⟨w4, hw4⟩ : ∃ w4, w4 = (wc.setCell ⟨gx, 2, none⟩ (.int .i64 (plcTo zs l1 (thn : Int)))) := ⟨_, rfl⟩
            have R4 : Hid (w4.rowIs gx 46 4 (rowF [.slice ua len uc, .int .i64 t, .int .i64 (plcTo zs l1 (thn : Int)), .int .i64 (-1)])) := by
              show World.rowIs _ _ _ _ _
              rw [hw4]
              refine (RX.out.set 2 (.int .i64 (plcTo zs l1 (thn : Int)))).congr ?_
              intro i hi
              match i, hi with
              | 0, _ => rfl
              | 1, _ => rfl
              | 2, _ => rfl
              | 3, _ => rfl
            have M4 : Hid (Mine w4 W1.heap.size ua fz) := by show Mine _ _ _ _; rw [hw4]; exact (mine_apart MX.out HAP.out)
            have B14 : Hid (Below W1.heap.size W1 w4) := by show Below _ _ _; rw [hw4]; exact (BXW.out.setCell (by simpa using hgx) _)
            have B4 : Hid (Below wr.heap.size wr w4) := BA.out.trans (B14.out.mono hsW1)
            rw [← hw4]
            clear hw4 RX MX BXW
            obtain ⟨xs, hrow, hgo⟩ := OwnBl.snoc (cc := uc) HOB.out B4.out HBi.out.size (mineF_low (by rw [HEZ.out.1]; exact M4.out) hsW1) (by rw [HEZ.out.1, HEZ.out.2.1]; exact HZ.out)
            rw [HEZ.out.2.1, HEZ.out.2.2.1, HEZ.out.2.2.2.1, HEZ.out.2.2.2.2, HT.out, HE4.out] at hgo
            have HGO : Hid (∀ (o : Obj) (w2 : World) (v' : Value), w2.ownsRow wp.heap.size 46 4 v' (i + 1) (xs ++ [.slice ua len uc, .int .i64 t, .int .i64 (plcTo zs l1 (thn : Int)), .int .i64 (-1)]) → (w4.alloc o).grownBy w2 v.ownBlock → (v'.ownBlock = v.ownBlock ∨ v'.ownBlock = some (w4.alloc o).heap.size) → OwnBl w2 wp.heap.size v' (i + 1) (layF f zs l1) ∧ ∀ W, Below wp.heap.size W w4 → Below wp.heap.size W w2) := hgo
            have HROW : Hid (w4.ownsRow wp.heap.size 46 4 v i xs) := hrow
            have BW4 : Hid (Below wp.heap.size wp w4) := HBi.out.trans (B4.out.mono HBi.out.size)
            have h4s := BW4.out.size
            have z0 : w4.cell? ⟨gx, 0, none⟩ = some (.slice ua len uc) := R4.out.cell (i := 0) (by decide)
            have z1 : w4.cell? ⟨gx, 1, none⟩ = some (.int .i64 t) := R4.out.cell (i := 1) (by decide)
            have z2 : w4.cell? ⟨gx, 2, none⟩ = some (.int .i64 (plcTo zs l1 (thn : Int))) := R4.out.cell (i := 2) (by decide)
            have z3 : w4.cell? ⟨gx, 3, none⟩ = some (.int .i64 (-1)) := R4.out.cell (i := 3) (by decide)
            have zl := R4.out.lt
            clear hgo hrow M4 B14 R4 HEZ HZ HOB HI1 RR SET HGA q2 q3 x2 x3 fx2 fx3 r0 r1 r2 r3
            obtain ⟨vt, hvt⟩ : ∃ x, Hid ((plcTo zs l1 (thn : Int)) = x) := ⟨_, rfl⟩
            try rw [hvt.out] at HGO
            try rw [hvt.out] at z2
            try rw [hvt.out] at z3
            clear HT HE4
            go_wp2_with (first
              | (at_builtin; refine wpList_append_own_at _ rfl _ _ 25 rfl wp.heap.size 46 i4 _ 4 48 Try.underlying25 hi4 hz4 hz5 hz6 rfl (by decide) _ _ xs rfl (World.ownsRow.alloc HROW.out _) ⟨w4.heap.size, 0, none⟩ 1 1 [.slice ua len uc, .int .i64 t, .int .i64 vt, .int .i64 (-1)] rfl rfl (news_vals w4 [.slice ua len uc, .int .i64 t, .int .i64 vt, .int .i64 (-1)] _) (news_blk _ _ _ _ _ _) (by unfold maxLen; omega) (by omega) (by simp; omega) ?_))
            intro v5 w5 hown hgrow _ hob
            obtain ⟨p1, p2⟩ := HGO.out _ w5 v5 hown hgrow (by simpa using hob)
            have H1 : Hid (OwnBl w5 wp.heap.size v5 (i + 1) (layF f zs l1)) := p1
            have H2 : Hid (Below wp.heap.size wp w5) := p2 _ BW4.out
            clear p1 p2 hown hgrow hob HGO HROW z0 z1 z2 z3
            go_wp2
            go_roundw
            case rel => exact ⟨i + 1, v5, by omega, by go_num, rfl, H1, H2⟩
            case measure => simp [intOf]; omega
          · have h3' : 0 ≤ el := by omega
            clear h3
            obtain ⟨eln, rfl⟩ : ∃ q : Nat, el = (q : Int) := ⟨el.toNat, by omega⟩
            have ell : eln < l1 := by omega
            have elI : (eln : Int) < (l1 : Int) := by omega
            have elz : (0 : Int) ≤ (eln : Int) := by omega
            have eld : decide ((eln : Int) ≥ 0) = true := decide_eq_true elz
            have g3 := HGA.out wc BWC.out eln ell
            have HE4 : Hid (newV (plcF zs l1) (eln : Int) = plcTo zs l1 (eln : Int)) := by show _ = _; unfold newV; rw [if_neg (by omega), Int.toNat_natCast]; rfl
            go_upto_region 19 with fail
            obtain ⟨w4, hw4⟩ : ∃ w4, w4 = ((wc.setCell ⟨gx, 2, none⟩ (.int .i64 (plcTo zs l1 (thn : Int)))).setCell ⟨gx, 3, none⟩ (.int .i64 (plcTo zs l1 (eln : Int)))) := ⟨_, rfl⟩
            have R4 : Hid (w4.rowIs gx 46 4 (rowF [.slice ua len uc, .int .i64 t, .int .i64 (plcTo zs l1 (thn : Int)), .int .i64 (plcTo zs l1 (eln : Int))])) := by
              show World.rowIs _ _ _ _ _
              rw [hw4]
              refine ((RX.out.set 2 (.int .i64 (plcTo zs l1 (thn : Int)))).set 3 (.int .i64 (plcTo zs l1 (eln : Int)))).congr ?_
              intro i hi
              match i, hi with
              | 0, _ => rfl
              | 1, _ => rfl
              | 2, _ => rfl
              | 3, _ => rfl
            have M4 : Hid (Mine w4 W1.heap.size ua fz) := by show Mine _ _ _ _; rw [hw4]; exact (mine_apart (mine_apart MX.out HAP.out) HAP.out)
            have B14 : Hid (Below W1.heap.size W1 w4) := by show Below _ _ _; rw [hw4]; exact ((BXW.out.setCell (by simpa using hgx) _).setCell (by simpa using hgx) _)
            have B4 : Hid (Below wr.heap.size wr w4) := BA.out.trans (B14.out.mono hsW1)
            rw [← hw4]
            clear hw4 RX MX BXW
            obtain ⟨xs, hrow, hgo⟩ := OwnBl.snoc (cc := uc) HOB.out B4.out HBi.out.size (mineF_low (by rw [HEZ.out.1]; exact M4.out) hsW1) (by rw [HEZ.out.1, HEZ.out.2.1]; exact HZ.out)
            rw [HEZ.out.2.1, HEZ.out.2.2.1, HEZ.out.2.2.2.1, HEZ.out.2.2.2.2, HT.out, HE4.out] at hgo
            have HGO : Hid (∀ (o : Obj) (w2 : World) (v' : Value), w2.ownsRow wp.heap.size 46 4 v' (i + 1) (xs ++ [.slice ua len uc, .int .i64 t, .int .i64 (plcTo zs l1 (thn : Int)), .int .i64 (plcTo zs l1 (eln : Int))]) → (w4.alloc o).grownBy w2 v.ownBlock → (v'.ownBlock = v.ownBlock ∨ v'.ownBlock = some (w4.alloc o).heap.size) → OwnBl w2 wp.heap.size v' (i + 1) (layF f zs l1) ∧ ∀ W, Below wp.heap.size W w4 → Below wp.heap.size W w2) := hgo
            have HROW : Hid (w4.ownsRow wp.heap.size 46 4 v i xs) := hrow
            have BW4 : Hid (Below wp.heap.size wp w4) := HBi.out.trans (B4.out.mono HBi.out.size)
            have h4s := BW4.out.size
            have z0 : w4.cell? ⟨gx, 0, none⟩ = some (.slice ua len uc) := R4.out.cell (i := 0) (by decide)
            have z1 : w4.cell? ⟨gx, 1, none⟩ = some (.int .i64 t) := R4.out.cell (i := 1) (by decide)
            have z2 : w4.cell? ⟨gx, 2, none⟩ = some (.int .i64 (plcTo zs l1 (thn : Int))) := R4.out.cell (i := 2) (by decide)
            have z3 : w4.cell? ⟨gx, 3, none⟩ = some (.int .i64 (plcTo zs l1 (eln : Int))) := R4.out.cell (i := 3) (by decide)
            have zl := R4.out.lt
            clear hgo hrow M4 B14 R4 HEZ HZ HOB HI1 RR SET HGA q2 q3 x2 x3 fx2 fx3 r0 r1 r2 r3
            obtain ⟨vt, hvt⟩ : ∃ x, Hid ((plcTo zs l1 (thn : Int)) = x) := ⟨_, rfl⟩
            try rw [hvt.out] at HGO
            try rw [hvt.out] at z2
            try rw [hvt.out] at z3
            obtain ⟨ve, hve⟩ : ∃ x, Hid ((plcTo zs l1 (eln : Int)) = x) := ⟨_, rfl⟩
            try rw [hve.out] at HGO
            try rw [hve.out] at z3
            clear HT HE4
            go_wp2_with (first
              | (at_builtin; refine wpList_append_own_at _ rfl _ _ 25 rfl wp.heap.size 46 i4 _ 4 48 Try.underlying25 hi4 hz4 hz5 hz6 rfl (by decide) _ _ xs rfl (World.ownsRow.alloc HROW.out _) ⟨w4.heap.size, 0, none⟩ 1 1 [.slice ua len uc, .int .i64 t, .int .i64 vt, .int .i64 ve] rfl rfl (news_vals w4 [.slice ua len uc, .int .i64 t, .int .i64 vt, .int .i64 ve] _) (news_blk _ _ _ _ _ _) (by unfold maxLen; omega) (by omega) (by simp; omega) ?_))
            intro v5 w5 hown hgrow _ hob
            obtain ⟨p1, p2⟩ := HGO.out _ w5 v5 hown hgrow (by simpa using hob)
            have H1 : Hid (OwnBl w5 wp.heap.size v5 (i + 1) (layF f zs l1)) := p1
            have H2 : Hid (Below wp.heap.size wp w5) := p2 _ BW4.out
            clear p1 p2 hown hgrow hob HGO HROW z0 z1 z2 z3
            go_wp2
            go_roundw
            case rel => exact ⟨i + 1, v5, by omega, by go_num, rfl, H1, H2⟩
            case measure => simp [intOf]; omega
end Go.Proofs.Ytemlhhogcdgofaa.walks
