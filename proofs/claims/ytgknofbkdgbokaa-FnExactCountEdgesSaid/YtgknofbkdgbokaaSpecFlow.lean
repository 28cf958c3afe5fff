/-
  What the specification's l5Run answers, at every good flow and eight words.
-/
import Derived.Test.YtgknofbkdgbokaaProg
import Derived.Test.YtgknofbkdgbokaaFlow
import Derived.Test.YtgknofbkdgbokaaFlowEq
import Derived.Test.YtgknofbkdgbokaaFlowRun
import Derived.Test.YtgknofbkdgbokaaSpecRun2
import Derived.Test.YtgknofbkdgbokaaOwnInts
import Derived.WalkKit
import Derived.WalkSpells
import Derived.Below
import Derived.Handy
import Derived.Maps.AppendAt
namespace Go.Proofs.Ytgknofbkdgbokaa.walks
open Go.RowKit Go.Proofs.Ytgknofbkdgbokaa.math Go.Proofs.Ytgknofbkdgbokaa.ints
set_option linter.unusedVariables false

def lenOf : Value → Nat
  | .slice _ n _ => n
  | _ => 0
theorem ints_news2 {w : World} {b off : Nat} {ws : List Int} (hc : ∀ i, i < ws.length → w.cell? ⟨b, off + i, none⟩ = some (.int .i64 (ws.getD i 0))) : ∀ (j : Nat) (u : Value), (ws.map (Value.int .i64))[j]? = some u → w.cell? ((⟨b, off, none⟩ : Addr).add j) = some u := by
  intro j u hj
  rw [List.getElem?_map] at hj
  cases hw : ws[j]? with
  | none => rw [hw] at hj; simp at hj
  | some x =>
    rw [hw] at hj
    simp at hj
    subst hj
    have hlt : j < ws.length := (List.getElem?_eq_some_iff.1 hw).1
    have := hc j hlt
    have e : ws.getD j 0 = x := by simp [List.getD, hw]
    rw [e] at this
    have ha : (⟨b, off, none⟩ : Addr).add j = ⟨b, off + j, none⟩ := by unfold Addr.add; split <;> simp_all
    rw [ha]
    exact this
theorem ints_one2 (ws : List Int) : ∀ u ∈ ws.map (Value.int .i64), u.oneCell' = true := by
  intro u hu
  obtain ⟨x, _, rfl⟩ := List.mem_map.1 hu
  rfl
theorem code_low {W : World} {ca : Option Addr} {zs : List Int} (h : Ints W ca zs) (h0 : zs ≠ []) : ∀ b o, ca = some ⟨b, o, none⟩ → b < W.heap.size := by
  rintro b o rfl
  rcases h with e | ⟨b', o', e, hb, _⟩
  · exact (h0 e).elim
  · simp only [Option.some.injEq, Addr.mk.injEq] at e
    omega
theorem own_ints {w : World} {B n cap : Nat} {a : Option Addr} {zs : List Int} (h : Own w B (.slice a n cap) zs) : Ints w a zs := by
  obtain ⟨a', c', e, hM⟩ := h.mine
  simp only [Value.slice.injEq] at e
  rw [e.1]
  exact hM.ints
theorem own_mine5 {w : World} {B n cap : Nat} {a : Option Addr} {zs : List Int} (h : Own w B (.slice a n cap) zs) : Mine w B a zs := by
  obtain ⟨a', c', e, hM⟩ := h.mine
  simp only [Value.slice.injEq] at e
  rw [e.1]
  exact hM
/-- The lists of a run: what is told and the path, each in memory of its own, and the words. -/
structure Lists (wr : World) (B g : Nat) (vt vp : Value) (s : Rs) : Prop where
  told : Own wr B vt s.told
  path : Own wr B vp s.path
  words : Mine wr B (some ⟨g, 0, none⟩) s.ws
  gB : B ≤ g
  gl : g < wr.heap.size
  tg : vt.ownBlock ≠ some g
  pg : vp.ownBlock ≠ some g
  tp : vt.ownBlock = none ∨ vt.ownBlock ≠ vp.ownBlock
theorem own_lt {wr : World} {B j : Nat} {v : Value} {zs : List Int} (h : Own wr B v zs) (e : v.ownBlock = some j) : j < wr.heap.size := (World.ownsRow.lt h j e).2
theorem own_block {w w' : World} {B : Nat} {v : Value} {zs : List Int} (h : Own w B v zs) (hb : ∀ j, v.ownBlock = some j → w'.heap[j]? = w.heap[j]?) : Own w' B v zs := by
  refine ⟨h.1, ?_⟩
  rcases h.2 with k | ⟨g, cap, cur, e, hg, hw, r⟩
  · exact Or.inl k
  · exact Or.inr ⟨g, cap, cur, e, hg, (hb g (by rw [e]; rfl)).trans hw, r⟩
/-- The block that is next is written down. -/
theorem Lists.next {W wr w1 : World} {B g : Nat} {vt vp v' : Value} {s : Rs} {o : Obj} (h : Lists wr B g vt vp s) (hG : Below B W wr)
    (hown' : w1.ownsRow B 3 1 v' (s.path.length + 1) (s.path.map (Value.int .i64) ++ [.int .i64 s.next])) (hgrow : (wr.alloc o).grownBy w1 vp.ownBlock) (hob : v'.ownBlock = vp.ownBlock ∨ v'.ownBlock = some (wr.heap.size + 1)) :
    Lists w1 B g vt v' { s with path := s.path ++ [s.next] } ∧ Below B W w1 := by
  have hsz := hgrow.size
  simp at hsz
  have gl := h.gl
  have gB := h.gB
  refine ⟨⟨World.ownsRow.kept (World.ownsRow.alloc h.told o) hgrow h.tp, by unfold Own; simpa using hown', mine_grow (mine_alloc h.words o) hgrow h.pg, h.gB, by omega, h.tg, ?_, ?_⟩, (hG.alloc (by omega) o).grown hgrow (by simp; omega) (fun j hj => (World.ownsRow.lt h.path j hj).1)⟩
  · rcases hob with e | e
    · rw [e]; exact h.pg
    · rw [e]; simp; omega
  · rcases h.tp with e | e
    · exact Or.inl e
    · right
      rcases hob with e' | e'
      · rw [e']; exact e
      · rw [e']
        intro q
        have := own_lt h.told q
        omega
set_option maxRecDepth 100000 in
set_option maxHeartbeats 16000000 in
theorem spec_l5run (a v : Option Addr) (n cap cv fuel : Nat) (f : Nat → Bv) (ws : List Int) (W : World) (hf : Hid (flowB f n = true)) (hw : Hid (wordsB ws = true)) (hfuel : fuel ≤ 300) (h : Hid (Flow W a n f)) (h' : Hid (Ints W v ws)) :
    Calls Try.prog 29 #[.slice a n cap, .slice v 8 cv, .int .i64 (fuel : Int)] W fun e W' => ∃ k ta tc wa wc pa pc, Stands f ws fuel k ∧ e = .returned (.tuple #[.slice ta (flowTo f ws k).told.length tc, .slice wa 8 wc, .slice pa k pc, .bool (decide ((flowTo f ws k).next < 0))]) ∧ Ints W' ta (flowTo f ws k).told ∧ Ints W' wa (flowTo f ws k).ws ∧ Mine W' W.heap.size pa (flowTo f ws k).path ∧ Below W.heap.size W W' := by
  obtain ⟨i0, hi, hz0, hz1, hz2⟩ := info_parts row_info
  obtain ⟨h8, _⟩ := words_out hw.out
  obtain ⟨vb, vo, rfl, hvb, hvc⟩ : ∃ b off, v = some ⟨b, off, none⟩ ∧ b < W.heap.size ∧ Hid (∀ i, i < ws.length → W.cell? ⟨b, off + i, none⟩ = some (.int .i64 (ws.getD i 0))) := by
    rcases h'.out with e | e
    · rw [e] at h8; simp at h8
    · exact e
  go_enter Try.func29, Try.ntmps29
  go_wp2_with (first
    | (at_builtin; refine wpList_append_own _ rfl _ _ 38 rfl W.heap.size 3 i0 (.int .i64 0) 1 8 Try.underlying38 hi hz0 hz1 hz2 rfl (by decide) _ 0 [] rfl (World.ownsRow_made W #[] 0 (Nat.le_refl _) (Nat.zero_le _) rfl) ⟨vb, vo, none⟩ 8 cv (ws.map (Value.int .i64)) rfl ?c1 ?c2 (ints_one2 ws) ?c3 ?c4 ?c5 ?_)
    | go_in)
  case c1 => simp [h8]
  case c2 => exact ints_news2 (fun i hi => (World.cell?_alloc_past _ vb (vo + i) hvb).trans (hvc.out i hi))
  case c3 => unfold maxLen; omega
  case c4 => omega
  case c5 => simp
  intro v' w2 hown' hgrow _
  have hO : Own w2 W.heap.size v' ws := by unfold Own; rw [h8]; exact hown'
  have hB2 : Below W.heap.size W w2 := ((Below.refl W.heap.size W).alloc (Nat.le_refl _) _).grown hgrow (by simp) (fun k hk => by simp [Value.ownBlock] at hk; omega)
  obtain ⟨g, oc, rfl, hgB, hgl, hM⟩ : ∃ g oc, v' = .slice (some ⟨g, 0, none⟩) 8 oc ∧ W.heap.size ≤ g ∧ g < w2.heap.size ∧ Mine w2 W.heap.size (some ⟨g, 0, none⟩) ws := by
    have hO' := hO
    rcases hO.2 with ⟨_, hn⟩ | ⟨g, cap', cur, e, hg, hwg, _⟩
    · rw [h8] at hn; cases hn
    · obtain ⟨oa, oc, e', hM⟩ := hO'.mine
      rw [e] at e'
      simp only [Value.slice.injEq] at e'
      obtain ⟨rfl, e1, rfl⟩ := e'
      exact ⟨g, cap', by rw [e, ← h8], hg, (World.ownsRow.lt hO' g (by rw [e]; rfl)).2, hM⟩
  have L0 : Hid (Lists w2 W.heap.size g (.slice none 0 0) (.slice none 0 0) (flowTo f ws 0)) := ⟨own_nil _ _, own_nil _ _, hM, hgB, hgl, by simp [Value.ownBlock], by simp [Value.ownBlock], Or.inl rfl⟩
  have HB2 : Hid (Below W.heap.size W w2) := hB2
  clear hown' hgrow hO hM hB2 hvc h'
  go_wp2
  go_loopw [11, 12, 13] (fun vt vp va wr => ∃ (k tl : Nat) (ta pa : Option Addr) (tc pc : Nat) (x : Int), k ≤ fuel ∧ vt = .slice ta tl tc ∧ vp = .slice pa k pc ∧ va = .int .i64 x ∧ Hid (tl = (flowTo f ws k).told.length) ∧ Hid (x = (flowTo f ws k).next) ∧ Hid (Alive f ws k) ∧ Hid (Lists wr W.heap.size g (.slice ta tl tc) (.slice pa k pc) (flowTo f ws k)) ∧ Hid (Below W.heap.size W wr)) (fun _ vp _ _ => fuel + 1 - lenOf vp)
  case atStart => exact ⟨0, 0, none, none, 0, 0, 0, Nat.zero_le _, rfl, rfl, rfl, rfl, rfl, fun j hj => by omega, L0, HB2⟩
  case round =>
    obtain ⟨k, tl, ta, pa, tc, pc, x, hk, rfl, rfl, rfl, ETL, EX, HA, HL, HB⟩ := hrel
    obtain ⟨iw, inx, itl⟩ := flow_inv hf.out hw.out k HA.out
    rw [← EX.out] at inx
    rw [← ETL.out] at itl
    have IW : Hid (wordsB (flowTo f ws k).ws = true) := iw
    have hpl : Hid ((flowTo f ws k).path.length = k) := path_len f ws k
    clear iw
    by_cases hx : x < 0
    · have HR : Hid (Stands f ws fuel k) := ⟨HA.out, hk, Or.inl (by rw [← EX.out]; exact hx)⟩
      have HD : Hid (decide ((flowTo f ws k).next < 0) = true) := by rw [← EX.out]; exact decide_eq_true hx
      go_wp2
      refine bodyPost_ret (v := .tuple #[.slice ta tl tc, .slice (some ⟨g, 0, none⟩) 8 oc, .slice pa k pc, .bool true]) (by simp [results, Try.results29, go_sem]) rfl ⟨k, ta, tc, some ⟨g, 0, none⟩, oc, pa, pc, HR.out, by rw [← ETL.out, HD.out], ?_, HL.out.words.ints, ?_, HB.out⟩
      · exact own_ints HL.out.told
      · exact own_mine5 HL.out.path
    have hx0 : 0 ≤ x := by omega
    by_cases hkf : k = fuel
    · have HR : Hid (Stands f ws fuel k) := ⟨HA.out, hk, Or.inr hkf⟩
      have HD : Hid (decide ((flowTo f ws k).next < 0) = false) := by rw [← EX.out]; exact decide_eq_false hx
      have hkb : ((k : Int) == (fuel : Int)) = true := by simp; omega
      have hkd : decide ((k : Int) = (fuel : Int)) = true := decide_eq_true (by omega)
      clear hx hkf
      go_wp2
      refine bodyPost_ret (v := .tuple #[.slice ta tl tc, .slice (some ⟨g, 0, none⟩) 8 oc, .slice pa k pc, .bool false]) (by simp [results, Try.results29, go_sem]) rfl ⟨k, ta, tc, some ⟨g, 0, none⟩, oc, pa, pc, HR.out, by rw [← ETL.out, HD.out], ?_, HL.out.words.ints, ?_, HB.out⟩
      · exact own_ints HL.out.told
      · exact own_mine5 HL.out.path
    have hkl : k < fuel := by omega
    have hkb : ((k : Int) == (fuel : Int)) = false := by simp; omega
    have hkd : decide ((k : Int) = (fuel : Int)) = false := decide_eq_false (by omega)
    obtain ⟨xn, hxn⟩ := Int.eq_ofNat_of_zero_le hx0
    have hxN : xn < n := by omega
    obtain ⟨hcode, ht, hth, hel⟩ := block_out ((flow_out hf.out).2 xn hxN)
    obtain ⟨b, off, ca, cc, ha, hb, c0, c1, c2, c3, hI, hZ⟩ := flow_at h.out (Below.refl _ _) hxN
    subst ha
    have HI : Hid (Ints W ca (f xn).zs) := hI
    have HZ : Hid ((f xn).zs.length = (f xn).len * 5) := hZ
    have HC : Hid (∀ j, j < (f xn).len → stepB (f xn).zs j = true) := (code_out hcode).2
    have h30 := (code_out hcode).1
    obtain ⟨tn, htn⟩ := Int.eq_ofNat_of_zero_le ht.1
    have ht8 : tn < 8 := by omega
    obtain ⟨th, ETH⟩ : ∃ th, Hid (th = (f xn).th) := ⟨_, rfl⟩
    obtain ⟨el, EEL⟩ : ∃ el, Hid (el = (f xn).el) := ⟨_, rfl⟩
    rw [htn] at c1
    rw [← ETH.out] at c2
    rw [← EEL.out] at c3
    have HG1 : Hid (flowTo f ws (k + 1) = ⟨(flowTo f ws k).told ++ toldTo (f xn).zs (flowTo f ws k).ws (f xn).len, runW (f xn).zs (flowTo f ws k).ws (f xn).len, (flowTo f ws k).path ++ [x], if (runW (f xn).zs (flowTo f ws k).ws (f xn).len).getD tn 0 = 0 then el else th⟩) := by
      show goR f (flowTo f ws k) = _
      unfold goR
      rw [← EX.out, hxn, Int.toNat_natCast, htn, Int.toNat_natCast, ← ETH.out, ← EEL.out]
    have HA1 : Hid (Alive f ws (k + 1)) := by
      show ∀ j, j < k + 1 → _
      intro j hj
      by_cases e : j = k
      · rw [e, ← EX.out]; exact hx0
      · exact HA.out j (by omega)
    subst hxn
    clear hI hZ hcode ht hth hel hx htn
    have hxl : (xn : Int) < (n : Int) := by omega
    have ht8' : (tn : Int) < 8 := by omega
    go_wp2_with (first
      | (at_builtin; refine wpList_append_own_at _ rfl _ _ 38 rfl W.heap.size 3 i0 (.int .i64 0) 1 8 Try.underlying38 hi hz0 hz1 hz2 rfl (by decide) _ _ _ rfl (World.ownsRow.alloc HL.out.path _) ⟨wr.heap.size, 0, none⟩ 1 1 [.int .i64 (xn : Int)] rfl rfl ?c1 ?c2 ?c3 ?c4 ?c5 ?_)
      | go_in)
    case c1 => exact new_one _ _ _
    case c2 => exact one_of _
    case c3 => rw [hpl.out]; unfold maxLen; omega
    case c4 => rw [hpl.out]; omega
    case c5 => have := HB.out.size; simp; omega
    intro v' w1 hown' hgrow _ hob
    obtain ⟨q0, q1⟩ := Lists.next (s := { (flowTo f ws k) with next := (xn : Int) }) (o := .cells #[.int .i64 (xn : Int)] 3) ⟨HL.out.told, HL.out.path, HL.out.words, HL.out.gB, HL.out.gl, HL.out.tg, HL.out.pg, HL.out.tp⟩ HB.out (by simpa using hown') hgrow (by simpa using hob)
    have L1 : Hid (Lists w1 W.heap.size g (.slice ta tl tc) v' { (flowTo f ws k) with path := (flowTo f ws k).path ++ [(xn : Int)], next := (xn : Int) }) := q0
    have B1 : Hid (Below W.heap.size W w1) := q1
    clear q0 q1 hown' hgrow hob
    have d0 := (B1.out.cell (p := ⟨b, off + xn * 4, none⟩) hb).trans c0
    have d1 := (B1.out.cell (p := ⟨b, off + xn * 4 + 1, none⟩) hb).trans c1
    have d2 := (B1.out.cell (p := ⟨b, off + xn * 4 + 2, none⟩) hb).trans c2
    have d3 := (B1.out.cell (p := ⟨b, off + xn * 4 + 3, none⟩) hb).trans c3
    have hs1 := B1.out.size
    have hbl : b < w1.heap.size := by omega
    have htl : Hid ((flowTo f ws k).told.length ≤ 100000) := by show _ ≤ _; rw [← ETL.out]; omega
    have HLO : Hid ((f xn).zs ≠ [] → ∀ b o, ca = some ⟨b, o, none⟩ → b < W.heap.size) := fun h0 => code_low HI.out h0
    clear c0 c1 c2 c3
    go_wp2_with fail
    refine (spec_run2 ca (f xn).len cc oc g 0 W.heap.size (f xn).zs (flowTo f ws k).ws (flowTo f ws k).told (.slice ta tl tc) _ HZ h30 (ints_low HI.out HLO.out (B1.out.alloc hs1 _)) HC IW (mine_alloc L1.out.words _) L1.out.gB (by have := L1.out.gl; simp; omega) HLO (World.ownsRow.alloc L1.out.told _) L1.out.tg htl).mono ?_
    rintro e w3 ⟨vt', rfl, hT3, htg3, hW3, hg3, hB3, hK3⟩
    have hs3 := hB3.size
    simp at hs3
    have hbx : ∀ i u, (w1.alloc (.cells #[.slice ca (f xn).len cc, .int .i64 (tn : Int), .int .i64 th, .int .i64 el] 58)).cell? ⟨w1.heap.size, i, none⟩ = some u → w3.cell? ⟨w1.heap.size, i, none⟩ = some u := fun i u hu => (World.cell?_of_block (a := ⟨w1.heap.size, i, none⟩) (hK3.1 w1.heap.size (by simp) (by have := L1.out.gl; omega) (fun q => by have := own_lt L1.out.told q; omega))).trans hu
    have y1 : w3.cell? ⟨w1.heap.size, 1, none⟩ = some (.int .i64 (tn : Int)) := hbx 1 _ (by simp)
    have y2 : w3.cell? ⟨w1.heap.size, 2, none⟩ = some (.int .i64 th) := hbx 2 _ (by simp)
    have y3 : w3.cell? ⟨w1.heap.size, 3, none⟩ = some (.int .i64 el) := hbx 3 _ (by simp)
    obtain ⟨ta', tc', rfl, _⟩ := hT3.mine
    have B3 : Hid (Below W.heap.size W w3) := (B1.out.alloc hs1 _).trans hB3
    have L3 : Hid (Lists w3 W.heap.size g (.slice ta' ((flowTo f ws k).told ++ toldTo (f xn).zs (flowTo f ws k).ws (f xn).len).length tc') v' ⟨(flowTo f ws k).told ++ toldTo (f xn).zs (flowTo f ws k).ws (f xn).len, runW (f xn).zs (flowTo f ws k).ws (f xn).len, (flowTo f ws k).path ++ [(xn : Int)], if (runW (f xn).zs (flowTo f ws k).ws (f xn).len).getD tn 0 = 0 then el else th⟩) := by
      refine ⟨hT3, own_block (World.ownsRow.alloc L1.out.path _) (fun j hj => hK3.1 j ?_ ?_ ?_), hW3, L1.out.gB, hg3, htg3, L1.out.pg, ?_⟩
      · have := own_lt L1.out.path hj; simp; omega
      · intro q; subst q; exact L1.out.pg hj
      · intro q
        rcases L1.out.tp with e | e
        · rw [e] at q; cases q
        · exact e (q.trans hj.symm)
      · rcases hK3.2 with e | e
        · rw [e]; exact L1.out.tp
        · by_cases h0 : Value.ownBlock (.slice ta' ((flowTo f ws k).told ++ toldTo (f xn).zs (flowTo f ws k).ws (f xn).len).length tc') = none
          · exact Or.inl h0
          · right
            intro q
            obtain ⟨j, hj⟩ := Option.ne_none_iff_exists'.1 h0
            have h1 := e j hj
            have h2 := own_lt L1.out.path (q ▸ hj)
            simp at h1
            omega
    have HWn : Hid (wordsB (runW (f xn).zs (flowTo f ws k).ws (f xn).len) = true) := run_words IW.out HC.out _ (Nat.le_refl _)
    have z0 : w3.cell? ⟨g, tn, none⟩ = some (.int .i64 ((runW (f xn).zs (flowTo f ws k).ws (f xn).len).getD tn 0)) := by
      have hl := (words_out HWn.out).1
      rcases hW3 with e | ⟨g', o', e, _, _, hc⟩
      · rw [e] at hl; simp at hl
      · simp only [Option.some.injEq, Addr.mk.injEq] at e
        obtain ⟨rfl, rfl, _⟩ := e
        have := (hc tn (by omega)).1
        rwa [Nat.zero_add] at this
    clear hbx hK3 hB3 hT3 hW3 htg3 d0 d1 d2 d3
    obtain ⟨pa', pc', ev, _⟩ := L3.out.path.mine
    have hlp : ((flowTo f ws k).path ++ [(xn : Int)]).length = k + 1 := by rw [List.length_append, hpl.out]; rfl
    rw [hlp] at ev
    subst ev
    obtain ⟨tl', ETL'⟩ : ∃ tl', Hid (tl' = ((flowTo f ws k).told ++ toldTo (f xn).zs (flowTo f ws k).ws (f xn).len).length) := ⟨_, rfl⟩
    rw [← ETL'.out] at L3 ⊢
    obtain ⟨wv, EWV⟩ : ∃ wv, Hid (wv = (runW (f xn).zs (flowTo f ws k).ws (f xn).len).getD tn 0) := ⟨_, rfl⟩
    rw [← EWV.out] at z0 L3 HG1
    have HE1 : Hid (tl' = (flowTo f ws (k + 1)).told.length) := by rw [HG1.out]; exact ETL'.out
    have hgl3 : g < w3.heap.size := L3.out.gl
    have hw13 : w1.heap.size < w3.heap.size := by omega
    by_cases hwv : wv = 0
    · have HN1 : Hid (el = (flowTo f ws (k + 1)).next) := by rw [HG1.out]; exact (if_pos hwv).symm
      have L4 : Hid (Lists w3 W.heap.size g (.slice ta' tl' tc') (.slice pa' (k + 1) pc') (flowTo f ws (k + 1))) := by rw [HG1.out]; exact L3.out
      rw [hwv] at z0
      clear hwv L3 HG1 EWV
      go_wp2
      go_roundw
      case rel => exact ⟨k + 1, tl', ta', pa', tc', pc', el, by omega, rfl, rfl, rfl, HE1, HN1, HA1, L4, B3⟩
      case measure => simp [lenOf]; omega
    · have HN1 : Hid (th = (flowTo f ws (k + 1)).next) := by rw [HG1.out]; exact (if_neg hwv).symm
      have L4 : Hid (Lists w3 W.heap.size g (.slice ta' tl' tc') (.slice pa' (k + 1) pc') (flowTo f ws (k + 1))) := by rw [HG1.out]; exact L3.out
      have hb0 : (wv == 0) = false := by simpa using hwv
      have hb1 : decide (wv = 0) = false := decide_eq_false hwv
      clear L3 HG1 EWV
      go_wp2
      go_roundw
      case rel => exact ⟨k + 1, tl', ta', pa', tc', pc', th, by omega, rfl, rfl, rfl, HE1, HN1, HA1, L4, B3⟩
      case measure => simp [lenOf]; omega
end Go.Proofs.Ytgknofbkdgbokaa.walks
