/-
  What the specification's l12Call makes of a cache with the world's Stamp.
-/
import Derived.Test.YticgipmaflhplaaProg
import Derived.Test.YticgipmaflhplaaMagMath
import Derived.Test.YticgipmaflhplaaWorldMath
import Derived.Test.YticgipmaflhplaaCacheMath
import Derived.Test.YticgipmaflhplaaPlayMath
import Derived.Test.YticgipmaflhplaaInts
import Derived.Test.YticgipmaflhplaaDeep
import Derived.Test.YticgipmaflhplaaDeepRow
import Derived.Test.YticgipmaflhplaaDeepC
import Derived.Test.YticgipmaflhplaaWorldSpec
import Derived.Test.YticgipmaflhplaaCacheYes
import Derived.Test.YticgipmaflhplaaWayLists
import Derived.WalkKit
import Derived.WalkSpells
import Derived.Below
import Derived.Handy
import Derived.OwnWalk
import Derived.Deep.DeepFit
import Derived.Deep.DeepCutAuto
namespace Go.Proofs.Yticgipmaflhplaa.walks
open Go.RowKit Go.Proofs.Yticgipmaflhplaa.math Go.Proofs.Yticgipmaflhplaa.ints Go.Proofs.Yticgipmaflhplaa.deep
set_option linter.unusedVariables false
set_option maxRecDepth 100000

theorem OwnW.agree {w w' : World} {B l : Nat} {v : Value} {zs : List Int} (h : OwnW w B v l zs) (hb : ∀ x, B ≤ x → x < w.heap.size → w'.heap[x]? = w.heap[x]?) : OwnW w' B v l zs := by
  refine ⟨h.1, ?_⟩
  rcases h.2 with q | ⟨g, cap, cur, e, hg, hw, r⟩
  · exact Or.inl q
  · have hl := (World.ownsRow.lt h g (by rw [e]; rfl)).2
    exact Or.inr ⟨g, cap, cur, e, hg, (hb g hg hl).trans hw, r⟩
theorem OwnW.set {w : World} {B l : Nat} {v : Value} {zs : List Int} (h : OwnW w B v l zs) {b i : Nat} (hb : b < B) (u : Value) : OwnW (w.setCell ⟨b, i, none⟩ u) B v l zs :=
  h.agree (fun x hx _ => Below.heap_setCell _ _ _ _ (by show x ≠ b; omega))
theorem OwnW.nil (w : World) (B : Nat) : OwnW w B (.slice none 0 0) 0 [] := World.ownsRow_nil _ _ _ _
/-- A cache in a box. -/
def CBox (w : World) (g : Nat) (m s : Int) (v : Value) (st h lk : Int) : Prop := w.rowIs g 42 6 (rowF [.int .i64 m, .int .i64 s, v, .int .i64 st, .int .i64 h, .int .i64 lk])
theorem CBox.cells {w : World} {g : Nat} {m s : Int} {v : Value} {st h lk : Int} (q : CBox w g m s v st h lk) : w.cell? ⟨g, 0, none⟩ = some (.int .i64 m) ∧ w.cell? ⟨g, 1, none⟩ = some (.int .i64 s) ∧ w.cell? ⟨g, 2, none⟩ = some v ∧ w.cell? ⟨g, 3, none⟩ = some (.int .i64 st) ∧ w.cell? ⟨g, 4, none⟩ = some (.int .i64 h) ∧ w.cell? ⟨g, 5, none⟩ = some (.int .i64 lk) :=
  ⟨World.rowIs.cell q (i := 0) (by decide), World.rowIs.cell q (i := 1) (by decide), World.rowIs.cell q (i := 2) (by decide), World.rowIs.cell q (i := 3) (by decide), World.rowIs.cell q (i := 4) (by decide), World.rowIs.cell q (i := 5) (by decide)⟩
theorem CBox.setS {w : World} {g : Nat} {m s : Int} {v : Value} {st h lk : Int} (q : CBox w g m s v st h lk) (x : Int) : CBox (w.setCell ⟨g, 1, none⟩ (.int .i64 x)) g m x v st h lk :=
  (World.rowIs.set q 1 _).congr (fun i hi => by match i, hi with | 0, _ => rfl | 1, _ => rfl | 2, _ => rfl | 3, _ => rfl | 4, _ => rfl | 5, _ => rfl | i + 6, h => exact absurd h (by omega))
theorem CBox.setV {w : World} {g : Nat} {m s : Int} {v : Value} {st h lk : Int} (q : CBox w g m s v st h lk) (x : Value) : CBox (w.setCell ⟨g, 2, none⟩ x) g m s x st h lk :=
  (World.rowIs.set q 2 _).congr (fun i hi => by match i, hi with | 0, _ => rfl | 1, _ => rfl | 2, _ => rfl | 3, _ => rfl | 4, _ => rfl | 5, _ => rfl | i + 6, h => exact absurd h (by omega))
theorem CBox.setH {w : World} {g : Nat} {m s : Int} {v : Value} {st h lk : Int} (q : CBox w g m s v st h lk) (x : Int) : CBox (w.setCell ⟨g, 4, none⟩ (.int .i64 x)) g m s v st x lk :=
  (World.rowIs.set q 4 _).congr (fun i hi => by match i, hi with | 0, _ => rfl | 1, _ => rfl | 2, _ => rfl | 3, _ => rfl | 4, _ => rfl | 5, _ => rfl | i + 6, h => exact absurd h (by omega))
theorem CBox.setL {w : World} {g : Nat} {m s : Int} {v : Value} {st h lk : Int} (q : CBox w g m s v st h lk) (x : Int) : CBox (w.setCell ⟨g, 5, none⟩ (.int .i64 x)) g m s v st h x :=
  (World.rowIs.set q 5 _).congr (fun i hi => by match i, hi with | 0, _ => rfl | 1, _ => rfl | 2, _ => rfl | 3, _ => rfl | 4, _ => rfl | 5, _ => rfl | i + 6, h => exact absurd h (by omega))
/-- The two boxes and the list, at work: the cache at W.heap.size + 1, the answer's box behind it. -/
structure Work (W w : World) (m st : Int) (c : Cst) (v : Value) : Prop where
  box : CBox w (W.heap.size + 1) m c.s v st c.h c.lk
  zero : CBox w (W.heap.size + 2) 0 0 (.slice none 0 0) 0 0 0
  ways : OwnW w (W.heap.size + 3) v c.l c.zs
  bel : Below W.heap.size W w
  big : W.heap.size + 3 ≤ w.heap.size
theorem Work.kept {W w w' : World} {m st : Int} {c : Cst} {v : Value} (h : Work W w m st c v) (hb : Below w.heap.size w w') : Work W w' m st c v :=
  ⟨World.rowIs.of_block h.box (hb.block _ (World.rowIs.lt h.box)), World.rowIs.of_block h.zero (hb.block _ (World.rowIs.lt h.zero)), h.ways.kept hb, h.bel.trans (hb.mono h.bel.size), Nat.le_trans h.big hb.size⟩
theorem Work.set {W w : World} {m st : Int} {c c' : Cst} {v v' : Value} (h : Work W w m st c v) (i : Nat) (u : Value) (hb : CBox (w.setCell ⟨W.heap.size + 1, i, none⟩ u) (W.heap.size + 1) m c'.s v' st c'.h c'.lk) (hw : OwnW (w.setCell ⟨W.heap.size + 1, i, none⟩ u) (W.heap.size + 3) v' c'.l c'.zs) : Work W (w.setCell ⟨W.heap.size + 1, i, none⟩ u) m st c' v' :=
  ⟨hb, World.rowIs.setOther h.zero (by show W.heap.size + 2 ≠ W.heap.size + 1; omega) _, hw, h.bel.setCell (by show W.heap.size ≤ W.heap.size + 1; omega) _, by have := h.big; simpa [World.setCell] using this⟩
def CallAns (W : World) (m st : Int) (c : Cst) (e : Ending) (W' : World) : Prop := ∃ a cap, e = .returned (.agg #[.int .i64 m, .int .i64 c.s, .slice a c.l cap, .int .i64 st, .int .i64 c.h, .int .i64 c.lk]) ∧ OwnW W' W.heap.size (.slice a c.l cap) c.l c.zs ∧ Below W.heap.size W W'
/-- The cache is laid into the answer's box. -/
theorem Work.ans {W w : World} {m st : Int} {c : Cst} {a : Option Addr} {cap : Nat} (h : Work W w m st c (.slice a c.l cap)) (u0 u1 u2 u3 u4 u5 : Value) : CallAns W m st c (.returned (.agg #[.int .i64 m, .int .i64 c.s, .slice a c.l cap, .int .i64 st, .int .i64 c.h, .int .i64 c.lk])) ((((((w.setCell ⟨W.heap.size + 2, 0, none⟩ u0).setCell ⟨W.heap.size + 2, 1, none⟩ u1).setCell ⟨W.heap.size + 2, 2, none⟩ u2).setCell ⟨W.heap.size + 2, 3, none⟩ u3).setCell ⟨W.heap.size + 2, 4, none⟩ u4).setCell ⟨W.heap.size + 2, 5, none⟩ u5) := by
  have hb : W.heap.size + 2 < W.heap.size + 3 := by omega
  refine ⟨a, cap, rfl, ?_, ?_⟩
  · exact ((((((h.ways.set hb u0).set hb u1).set hb u2).set hb u3).set hb u4).set hb u5).low (by omega)
  · have q : W.heap.size ≤ W.heap.size + 2 := by omega
    exact (((((h.bel.setCell q u0).setCell q u1).setCell q u2).setCell q u3).setCell q u4).setCell q u5
set_option maxHeartbeats 8000000 in
theorem spec_l12call (pa : Option Addr) (n pcap : Nat) (st m k t : Int) (c : Cst) (a : Option Addr) (cap : Nat) (W : World) (hl : Hid (c.zs.length = c.l * 2)) (hl4 : c.l ≤ 4) (hna : a = none → c.l = 0) (h0 : 0 ≤ c.h) (h1 : c.h ≤ 1000) (k0 : 0 ≤ c.lk) (k1 : c.lk ≤ 1000) (hc : Hid (Ints W a c.zs)) :
    Calls Try.prog 66 #[.agg #[.slice pa n pcap, .int .i64 st], .agg #[.int .i64 m, .int .i64 c.s, .slice a c.l cap, .int .i64 st, .int .i64 c.h, .int .i64 c.lk], .int .i64 k, .int .i64 t] W fun e W' => CallAns W m st (callS t k c) e W' := by
  obtain ⟨s, l, zs, h, lk⟩ := c
  have hl : Hid (zs.length = l * 2) := hl
  have hl4 : l ≤ 4 := hl4
  have hna : a = none → l = 0 := hna
  have h0 : 0 ≤ h := h0
  have h1 : h ≤ 1000 := h1
  have k0 : 0 ≤ lk := k0
  have k1 : lk ≤ 1000 := k1
  have hc : Hid (Ints W a zs) := hc
  show Calls _ _ #[_, .agg #[.int .i64 m, .int .i64 s, .slice a l cap, .int .i64 st, .int .i64 h, .int .i64 lk], _, _] _ _
  have hwh : IntKind.i64.wrap (h + 1) = h + 1 := Go.IntWalk.i64_in _ (by omega)
  have hwl : IntKind.i64.wrap (lk + 1) = lk + 1 := Go.IntWalk.i64_in _ (by omega)
  obtain ⟨R, HR⟩ : ∃ R, Hid (callS t k ⟨s, l, zs, h, lk⟩ = R) := ⟨_, rfl⟩
  rw [HR.out]
  obtain ⟨X, hX⟩ : ∃ X, Hid (((W.alloc (.cells #[.slice pa n pcap, .int .i64 st] 29)).alloc (.cells #[.int .i64 m, .int .i64 s, .slice a l cap, .int .i64 st, .int .i64 h, .int .i64 lk] 42)).alloc (.cells #[.int .i64 0, .int .i64 0, .slice none 0 0, .int .i64 0, .int .i64 0, .int .i64 0] 42) = X) := ⟨_, rfl⟩
  have HX : Hid (Below W.heap.size W X) := by show Below _ _ _; rw [← hX.out]; go_grown
  have hXs : X.heap.size = W.heap.size + 3 := by rw [← hX.out]; simp
  have HRX : Hid (X.rowIs W.heap.size 29 2 (rowF [.slice pa n pcap, .int .i64 st])) := by show World.rowIs _ _ _ _ _; rw [← hX.out]; exact ((row_of W #[.slice pa n pcap, .int .i64 st] _).alloc _).alloc _
  have HCX : Hid (CBox X (W.heap.size + 1) m s (.slice a l cap) st h lk) := by
    have q := row_of (W.alloc (.cells #[.slice pa n pcap, .int .i64 st] 29)) #[.int .i64 m, .int .i64 s, .slice a l cap, .int .i64 st, .int .i64 h, .int .i64 lk] 42
    rw [show (W.alloc (.cells #[.slice pa n pcap, .int .i64 st] 29)).heap.size = W.heap.size + 1 by simp] at q
    show World.rowIs _ _ _ _ _
    rw [← hX.out]; exact q.alloc _
  have HZX : Hid (CBox X (W.heap.size + 2) 0 0 (.slice none 0 0) 0 0 0) := by
    have q := row_of ((W.alloc (.cells #[.slice pa n pcap, .int .i64 st] 29)).alloc (.cells #[.int .i64 m, .int .i64 s, .slice a l cap, .int .i64 st, .int .i64 h, .int .i64 lk] 42)) #[.int .i64 0, .int .i64 0, .slice none 0 0, .int .i64 0, .int .i64 0, .int .i64 0] 42
    rw [show ((W.alloc (.cells #[.slice pa n pcap, .int .i64 st] 29)).alloc (.cells #[.int .i64 m, .int .i64 s, .slice a l cap, .int .i64 st, .int .i64 h, .int .i64 lk] 42)).heap.size = W.heap.size + 2 by simp] at q
    show World.rowIs _ _ _ _ _
    rw [← hX.out]; exact q
  have HEX : Hid (OwnW (X.alloc (.cells #[] 107)) (W.heap.size + 3) (.slice (some ⟨X.heap.size, 0, none⟩) 0 0) 0 []) := World.ownsRow_made X (e := 107) (base := W.heap.size + 3) (size := 2) #[] 0 (by omega) (Nat.zero_le _) rfl
  have HXA : Hid (Below X.heap.size X (X.alloc (.cells #[] 107))) := (Below.refl _ _).alloc (Nat.le_refl _) _
  have e2 := HCX.out.cells.2.2.1
  have f2 : X.frozen? ⟨W.heap.size + 1, 2, none⟩ = false := World.rowIs.frozen HCX.out 2
  have HW0 : Hid (∀ w1 a1 c1, (X.alloc (.cells #[] 107)).grownBy w1 (some X.heap.size) → OwnW w1 (W.heap.size + 3) (.slice a1 l c1) l zs → (w1.cell? ⟨W.heap.size + 1, 2, none⟩ = some (.slice a l cap) ∧ w1.frozen? ⟨W.heap.size + 1, 2, none⟩ = false) ∧ Work W (w1.setCell ⟨W.heap.size + 1, 2, none⟩ (.slice a1 l c1)) m st ⟨s, l, zs, h, lk⟩ (.slice a1 l c1) ∧ (w1.setCell ⟨W.heap.size + 1, 2, none⟩ (.slice a1 l c1)).rowIs W.heap.size 29 2 (rowF [.slice pa n pcap, .int .i64 st])) := fun w1 a1 c1 hg ho => by
    have b1 : Below X.heap.size X w1 := HXA.out.trans ⟨hg.os, hg.tape, hg.output, hg.size, fun x hx => hg.block x (by simp; omega) (by simp; omega)⟩
    have C1 : CBox w1 (W.heap.size + 1) m s (.slice a l cap) st h lk := World.rowIs.of_block HCX.out (b1.block _ (by omega))
    have Z1 : CBox w1 (W.heap.size + 2) 0 0 (.slice none 0 0) 0 0 0 := World.rowIs.of_block HZX.out (b1.block _ (by omega))
    have R1 : w1.rowIs W.heap.size 29 2 (rowF [.slice pa n pcap, .int .i64 st]) := HRX.out.of_block (b1.block _ (by omega))
    refine ⟨⟨C1.cells.2.2.1, World.rowIs.frozen C1 2⟩, ⟨C1.setV _, World.rowIs.setOther Z1 (by show W.heap.size + 2 ≠ W.heap.size + 1; omega) _, ho.set (by omega) _, (HX.out.trans (b1.mono HX.out.size)).setCell (by show W.heap.size ≤ W.heap.size + 1; omega) _, ?_⟩, R1.setOther (by show W.heap.size ≠ W.heap.size + 1; omega) _⟩
    have := b1.size
    simp [World.setCell]; omega
  have l1 : W.heap.size + 1 < X.heap.size := by omega
  have HXS : Hid (X.heap.size = W.heap.size + 3) := hXs
  clear hXs
  go_enter Try.func66, Try.ntmps66
  go_upto_region 1 with fail
  rw [hX.out]
  go_cut [] (fun wx => ∃ a1 c1, Work W wx m st ⟨s, l, zs, h, lk⟩ (.slice a1 l c1) ∧ wx.rowIs W.heap.size 29 2 (rowF [.slice pa n pcap, .int .i64 st]))
  case first =>
    cases a with
    | none =>
      have hl0 : l = 0 := hna rfl
      subst hl0
      have hz : zs = [] := List.eq_nil_of_length_eq_zero (by have := hl.out; omega)
      subst hz
      have HQ := HW0.out (X.alloc (.cells #[] 107)) (some ⟨X.heap.size, 0, none⟩) 0 ⟨rfl, rfl, rfl, Nat.le_refl _, fun _ _ _ => rfl⟩ HEX.out
      have hQ2 := HQ.2
      rw [World.setCell_alloc_past _ _ _ _ l1] at hQ2
      have HQ2 := (show Hid _ from hQ2)
      clear HQ hna hQ2
      go_wp2_with fail
      go_meet
      exact ⟨_, _, HQ2.out⟩
    | some ad =>
      obtain ⟨b, off, spot⟩ := ad
      go_wp2_with (at_builtin; refine append_ways (by rfl) _ _ (by rfl) (W.heap.size + 3) (.slice (some ⟨X.heap.size, 0, none⟩) 0 0) 0 [] (by rfl) HEX.out _ l cap zs (by rfl) hl.out (hc.out.kept (HX.out.trans (HXA.out.mono HX.out.size))) hna (by have := HXS.out; simp; omega) (by omega) ?_; intro v1 w1 ho hg hat; rw [Nat.zero_add, List.nil_append] at ho; obtain ⟨a1, c1, rfl, hc1, hI1, hb1⟩ := ho.form; obtain ⟨⟨x2, x3⟩, hQ⟩ := HW0.out w1 a1 c1 hg ho; have HQ2 := (show Hid _ from hQ); clear ho hg hat hI1 hb1 hQ)
      go_meet
      exact ⟨a1, c1, HQ2.out⟩
  case rest =>
    obtain ⟨a1, c1, hWK, hRW⟩ := hcut
    have HWK : Hid (Work W wc m st ⟨s, l, zs, h, lk⟩ (.slice a1 l c1)) := hWK
    have p1 : wc.cell? ⟨W.heap.size, 1, none⟩ = some (.int .i64 st) := hRW.cell (i := 1) (by decide)
    have p2 : wc.cell? ⟨W.heap.size + 1, 3, none⟩ = some (.int .i64 st) := HWK.out.box.cells.2.2.2.1
    have p3 : wc.cell? ⟨W.heap.size + 1, 2, none⟩ = some (.slice a1 l c1) := HWK.out.box.cells.2.2.1
    have d0 : (st != st) = false := by simp
    obtain ⟨a2, c2, e2', hcap1, hI1, _⟩ := HWK.out.ways.form
    simp only [Value.slice.injEq, true_and] at e2'
    obtain ⟨rfl, rfl⟩ := e2'
    have HI1 : Hid (Ints wc a1 zs) := hI1
    clear hWK hRW hI1 HW0 HEX HXA HZX HCX HRX HX HXS l1 e2 f2 hna hc
    go_wp2
    clear p1 p2 p3
    go_loopw [29] (fun vi wr => ∃ i : Nat, i ≤ l ∧ vi = .int .i64 i ∧ Hid (∀ j, j < i → clZ zs j ≠ k) ∧ Hid (Below wc.heap.size wc wr)) (fun vi _ => l - (intOf vi).toNat)
    case atStart => exact ⟨0, Nat.zero_le _, rfl, fun j hj => by omega, Below.refl _ _⟩
    case round =>
      obtain ⟨i, hi, rfl, HN, HB⟩ := hrel
      by_cases hlt : i < l
      · have hltI : (i : Int) < (l : Int) := by omega
        obtain ⟨b, o, ha, hbw, c0, c3⟩ := way_at HI1.out hl.out HB.out hlt
        obtain ⟨kj, HKJ⟩ : ∃ kj, Hid (clZ zs i = kj) := ⟨_, rfl⟩
        obtain ⟨tj, HTJ⟩ : ∃ tj, Hid (tgZ zs i = tj) := ⟨_, rfl⟩
        rw [HKJ.out] at c0
        rw [HTJ.out] at c3
        subst ha
        have hbr : b < wr.heap.size := by have := HB.out.size; omega
        obtain ⟨Y, hY⟩ : ∃ Y, Hid (wr.alloc (.cells #[.int .i64 kj, .int .i64 tj] 107) = Y) := ⟨_, rfl⟩
        have HYB : Hid (Below wr.heap.size wr Y) := by show Below _ _ _; rw [← hY.out]; repeat (first | exact Below.refl _ _ | refine Below.drew ?_ | refine Below.setCell ?_ (by simp; try omega) _ | refine Below.alloc ?_ (by simp; try omega) _)
        have HYC : Hid (Below wc.heap.size wc Y) := HB.out.trans (HYB.out.mono HB.out.size)
        have HWY : Hid (Work W Y m st ⟨s, l, zs, h, lk⟩ (.slice (some ⟨b, o, none⟩) l c1)) := HWK.out.kept HYC.out
        have y0 : Y.cell? ⟨wr.heap.size, 0, none⟩ = some (.int .i64 kj) := by rw [← hY.out]; go_simp
        go_upto_region 9 with fail
        rw [hY.out]
        by_cases hk : kj = k
        · subst hk
          have HE : Hid (callS t kj ⟨s, l, zs, h, lk⟩ = ⟨s, l, zs, h + 1, lk⟩) := call_met (met_yes HKJ.out hlt)
          have HF : Hid (Work W (Y.setCell ⟨W.heap.size + 1, 4, none⟩ (.int .i64 (h + 1))) m st ⟨s, l, zs, h + 1, lk⟩ (.slice (some ⟨b, o, none⟩) l c1)) := HWY.out.set 4 _ (HWY.out.box.setH _) (HWY.out.ways.set (by omega) _)
          obtain ⟨x0, x1, x2, x3, x4, x5⟩ := HWY.out.box.cells
          obtain ⟨z0, z1, z2, z3, z4, z5⟩ := HWY.out.zero.cells
          have fx1 : Y.frozen? ⟨W.heap.size + 1, 1, none⟩ = false := World.rowIs.frozen HWY.out.box 1
          have fx2 : Y.frozen? ⟨W.heap.size + 1, 2, none⟩ = false := World.rowIs.frozen HWY.out.box 2
          have fx4 : Y.frozen? ⟨W.heap.size + 1, 4, none⟩ = false := World.rowIs.frozen HWY.out.box 4
          have fx5 : Y.frozen? ⟨W.heap.size + 1, 5, none⟩ = false := World.rowIs.frozen HWY.out.box 5
          have fz0 : Y.frozen? ⟨W.heap.size + 2, 0, none⟩ = false := World.rowIs.frozen HWY.out.zero 0
          have fz1 : Y.frozen? ⟨W.heap.size + 2, 1, none⟩ = false := World.rowIs.frozen HWY.out.zero 1
          have fz2 : Y.frozen? ⟨W.heap.size + 2, 2, none⟩ = false := World.rowIs.frozen HWY.out.zero 2
          have fz3 : Y.frozen? ⟨W.heap.size + 2, 3, none⟩ = false := World.rowIs.frozen HWY.out.zero 3
          have fz4 : Y.frozen? ⟨W.heap.size + 2, 4, none⟩ = false := World.rowIs.frozen HWY.out.zero 4
          have fz5 : Y.frozen? ⟨W.heap.size + 2, 5, none⟩ = false := World.rowIs.frozen HWY.out.zero 5
          have lbig := HWY.out.big
          clear c0 c3 hbr
          go_wp2
          refine bodyPost_ret (v := .agg #[.int .i64 m, .int .i64 s, .slice (some ⟨b, o, none⟩) l c1, .int .i64 st, .int .i64 (h + 1), .int .i64 lk]) (by simp only [results, Try.results66]; go_simp) rfl ?_
          rw [← HR.out, HE.out]
          exact HF.out.ans _ _ _ _ _ _
        · have d1 : (kj == k) = false := by simpa using hk
          have d2 : decide (kj = k) = false := decide_eq_false hk
          have HN' : Hid (∀ j, j < i + 1 → clZ zs j ≠ k) := fun j hj => by
            by_cases e : j = i
            · subst e; rw [HKJ.out]; exact hk
            · exact HN.out j (by omega)
          clear hk
          go_wp2
          go_roundw
          case rel => exact ⟨i + 1, by omega, by go_num, HN', HYC⟩
          case measure => simp [intOf]; omega
      · have e : i = l := by omega
        subst e
        have HM : Hid (metB zs k i = false) := met_no HN.out
        have HWR : Hid (Work W wr m st ⟨s, i, zs, h, lk⟩ (.slice a1 i c1)) := HWK.out.kept HB.out
        have HWL : Hid (Work W (wr.setCell ⟨W.heap.size + 1, 5, none⟩ (.int .i64 (lk + 1))) m st ⟨s, i, zs, h, lk + 1⟩ (.slice a1 i c1)) := HWR.out.set 5 _ (HWR.out.box.setL _) (HWR.out.ways.set (by omega) _)
        by_cases h3 : s = 3
        · subst h3
          have HE : Hid (callS t k ⟨3, i, zs, h, lk⟩ = ⟨3, i, zs, h, lk + 1⟩) := call_many HM.out rfl
          have HF := HWL
          obtain ⟨x0, x1, x2, x3, x4, x5⟩ := HWR.out.box.cells
          obtain ⟨z0, z1, z2, z3, z4, z5⟩ := HWR.out.zero.cells
          have fx1 : wr.frozen? ⟨W.heap.size + 1, 1, none⟩ = false := World.rowIs.frozen HWR.out.box 1
          have fx2 : wr.frozen? ⟨W.heap.size + 1, 2, none⟩ = false := World.rowIs.frozen HWR.out.box 2
          have fx4 : wr.frozen? ⟨W.heap.size + 1, 4, none⟩ = false := World.rowIs.frozen HWR.out.box 4
          have fx5 : wr.frozen? ⟨W.heap.size + 1, 5, none⟩ = false := World.rowIs.frozen HWR.out.box 5
          have fz0 : wr.frozen? ⟨W.heap.size + 2, 0, none⟩ = false := World.rowIs.frozen HWR.out.zero 0
          have fz1 : wr.frozen? ⟨W.heap.size + 2, 1, none⟩ = false := World.rowIs.frozen HWR.out.zero 1
          have fz2 : wr.frozen? ⟨W.heap.size + 2, 2, none⟩ = false := World.rowIs.frozen HWR.out.zero 2
          have fz3 : wr.frozen? ⟨W.heap.size + 2, 3, none⟩ = false := World.rowIs.frozen HWR.out.zero 3
          have fz4 : wr.frozen? ⟨W.heap.size + 2, 4, none⟩ = false := World.rowIs.frozen HWR.out.zero 4
          have fz5 : wr.frozen? ⟨W.heap.size + 2, 5, none⟩ = false := World.rowIs.frozen HWR.out.zero 5
          have lbig := HWR.out.big
          go_wp2
          refine bodyPost_ret (v := .agg #[.int .i64 m, .int .i64 3, .slice a1 i c1, .int .i64 st, .int .i64 h, .int .i64 (lk + 1)]) (by simp only [results, Try.results66]; go_simp) rfl ?_
          rw [← HR.out, HE.out]
          exact HF.out.ans _ _ _ _ _ _
        have s1 : (s == 3) = false := by simpa using h3
        have s2 : decide (s = 3) = false := decide_eq_false h3
        by_cases h4 : i = 4
        · subst h4
          have HE : Hid (callS t k ⟨s, 4, zs, h, lk⟩ = ⟨3, 0, [], h, lk + 1⟩) := call_full HM.out h3 rfl
          have HF1 : Hid (Work W ((wr.setCell ⟨W.heap.size + 1, 5, none⟩ (.int .i64 (lk + 1))).setCell ⟨W.heap.size + 1, 1, none⟩ (.int .i64 3)) m st ⟨3, 4, zs, h, lk + 1⟩ (.slice a1 4 c1)) := HWL.out.set 1 _ (HWL.out.box.setS _) (HWL.out.ways.set (by omega) _)
          have HF : Hid (Work W (((wr.setCell ⟨W.heap.size + 1, 5, none⟩ (.int .i64 (lk + 1))).setCell ⟨W.heap.size + 1, 1, none⟩ (.int .i64 3)).setCell ⟨W.heap.size + 1, 2, none⟩ (.slice none 0 0)) m st ⟨3, 0, [], h, lk + 1⟩ (.slice none 0 0)) := HF1.out.set 2 _ (HF1.out.box.setV _) (OwnW.nil _ _)
          obtain ⟨x0, x1, x2, x3, x4, x5⟩ := HWR.out.box.cells
          obtain ⟨z0, z1, z2, z3, z4, z5⟩ := HWR.out.zero.cells
          have fx1 : wr.frozen? ⟨W.heap.size + 1, 1, none⟩ = false := World.rowIs.frozen HWR.out.box 1
          have fx2 : wr.frozen? ⟨W.heap.size + 1, 2, none⟩ = false := World.rowIs.frozen HWR.out.box 2
          have fx4 : wr.frozen? ⟨W.heap.size + 1, 4, none⟩ = false := World.rowIs.frozen HWR.out.box 4
          have fx5 : wr.frozen? ⟨W.heap.size + 1, 5, none⟩ = false := World.rowIs.frozen HWR.out.box 5
          have fz0 : wr.frozen? ⟨W.heap.size + 2, 0, none⟩ = false := World.rowIs.frozen HWR.out.zero 0
          have fz1 : wr.frozen? ⟨W.heap.size + 2, 1, none⟩ = false := World.rowIs.frozen HWR.out.zero 1
          have fz2 : wr.frozen? ⟨W.heap.size + 2, 2, none⟩ = false := World.rowIs.frozen HWR.out.zero 2
          have fz3 : wr.frozen? ⟨W.heap.size + 2, 3, none⟩ = false := World.rowIs.frozen HWR.out.zero 3
          have fz4 : wr.frozen? ⟨W.heap.size + 2, 4, none⟩ = false := World.rowIs.frozen HWR.out.zero 4
          have fz5 : wr.frozen? ⟨W.heap.size + 2, 5, none⟩ = false := World.rowIs.frozen HWR.out.zero 5
          have lbig := HWR.out.big
          clear h3
          go_wp2
          refine bodyPost_ret (v := .agg #[.int .i64 m, .int .i64 3, .slice none 0 0, .int .i64 st, .int .i64 h, .int .i64 (lk + 1)]) (by simp only [results, Try.results66]; go_simp) rfl ?_
          rw [← HR.out, HE.out]
          exact HF.out.ans _ _ _ _ _ _
        have HE : Hid (callS t k ⟨s, i, zs, h, lk⟩ = ⟨if i = 0 then 1 else 2, i + 1, zs ++ [k, t], h, lk + 1⟩) := call_new HM.out h3 h4
        have g1 : (i == 4) = false := by simpa using h4
        have g2 : decide (i = 4) = false := decide_eq_false h4
        have g3 : ((i : Int) == 4) = false := by simp; omega
        have g4 : decide ((i : Int) = 4) = false := decide_eq_false (by omega)
        have hi4 : i < 4 := by omega
        obtain ⟨x0, x1, x2, x3, x4, x5⟩ := HWR.out.box.cells
        obtain ⟨z0, z1, z2, z3, z4, z5⟩ := HWR.out.zero.cells
        have fx1 : wr.frozen? ⟨W.heap.size + 1, 1, none⟩ = false := World.rowIs.frozen HWR.out.box 1
        have fx2 : wr.frozen? ⟨W.heap.size + 1, 2, none⟩ = false := World.rowIs.frozen HWR.out.box 2
        have fx4 : wr.frozen? ⟨W.heap.size + 1, 4, none⟩ = false := World.rowIs.frozen HWR.out.box 4
        have fx5 : wr.frozen? ⟨W.heap.size + 1, 5, none⟩ = false := World.rowIs.frozen HWR.out.box 5
        have fz0 : wr.frozen? ⟨W.heap.size + 2, 0, none⟩ = false := World.rowIs.frozen HWR.out.zero 0
        have fz1 : wr.frozen? ⟨W.heap.size + 2, 1, none⟩ = false := World.rowIs.frozen HWR.out.zero 1
        have fz2 : wr.frozen? ⟨W.heap.size + 2, 2, none⟩ = false := World.rowIs.frozen HWR.out.zero 2
        have fz3 : wr.frozen? ⟨W.heap.size + 2, 3, none⟩ = false := World.rowIs.frozen HWR.out.zero 3
        have fz4 : wr.frozen? ⟨W.heap.size + 2, 4, none⟩ = false := World.rowIs.frozen HWR.out.zero 4
        have fz5 : wr.frozen? ⟨W.heap.size + 2, 5, none⟩ = false := World.rowIs.frozen HWR.out.zero 5
        have lbig := HWR.out.big
        clear h3 h4
        go_upto_region 14 with fail
        obtain ⟨V, hV⟩ : ∃ V, Hid (wr.setCell ⟨W.heap.size + 1, 5, none⟩ (.int .i64 (lk + 1)) = V) := ⟨_, rfl⟩
        rw [hV.out]
        have HV : Hid (Work W V m st ⟨s, i, zs, h, lk + 1⟩ (.slice a1 i c1)) := by show Work _ _ _ _ _ _; rw [← hV.out]; exact HWL.out
        clear hV HWL HWR x0 x1 x2 x3 x4 x5 z0 z1 z2 z3 z4 z5 fx1 fx2 fx4 fx5 fz0 fz1 fz2 fz3 fz4 fz5 lbig
        obtain ⟨v, hv⟩ : ∃ v, Hid (Value.slice a1 i c1 = v) := ⟨_, rfl⟩
        have x2 : V.cell? ⟨W.heap.size + 1, 2, none⟩ = some v := by rw [← hv.out]; exact HV.out.box.cells.2.2.1
        have OV : Hid (OwnW V (W.heap.size + 3) v i zs) := by show OwnW _ _ _ _ _; rw [← hv.out]; exact HV.out.ways
        have lbig := HV.out.big
        have l1 : W.heap.size + 1 < V.heap.size := by omega
        have VN : Hid (Ints (V.alloc (.cells #[.int .i64 k, .int .i64 t] 107)) (some ⟨V.heap.size, 0, none⟩) [k, t]) := by
          have q := row_of V #[.int .i64 k, .int .i64 t] 107
          refine Or.inr ⟨V.heap.size, 0, rfl, q.lt, fun j hj => ?_⟩
          match j, hj with
          | 0, _ => exact q.cell (i := 0) (by show 0 < 2; decide)
          | 1, _ => exact q.cell (i := 1) (by show 1 < 2; decide)
          | j + 2, h => exact absurd h (by simp)
        have OV2 : Hid (OwnW (V.alloc (.cells #[.int .i64 k, .int .i64 t] 107)) (W.heap.size + 3) v i zs) := OV.out.kept ((Below.refl _ _).alloc (Nat.le_refl _) _)
        have HNX : Hid (∀ w' a2 c2, (V.alloc (.cells #[.int .i64 k, .int .i64 t] 107)).grownBy w' v.ownBlock → OwnW w' (W.heap.size + 3) (.slice a2 (i + 1) c2) (i + 1) (zs ++ [k, t]) → (w'.cell? ⟨W.heap.size + 1, 2, none⟩ = some v ∧ w'.frozen? ⟨W.heap.size + 1, 2, none⟩ = false) ∧ Work W (w'.setCell ⟨W.heap.size + 1, 2, none⟩ (.slice a2 (i + 1) c2)) m st ⟨s, i + 1, zs ++ [k, t], h, lk + 1⟩ (.slice a2 (i + 1) c2)) := fun w' a2 c2 hg ho => by
          have own : ∀ x, v.ownBlock = some x → W.heap.size + 3 ≤ x := fun x e => (World.ownsRow.lt OV.out x e).1
          have blk : ∀ x, x < W.heap.size + 3 → w'.heap[x]? = V.heap[x]? := fun x hx => (hg.block x (by simp; omega) (fun e => by have := own x e.symm; omega)).trans (Go.Deep.blk_alloc_lt V _ x (by omega))
          have C1 : CBox w' (W.heap.size + 1) m s (.slice a1 i c1) st h (lk + 1) := World.rowIs.of_block HV.out.box (blk _ (by omega))
          have Z1 : CBox w' (W.heap.size + 2) 0 0 (.slice none 0 0) 0 0 0 := World.rowIs.of_block HV.out.zero (blk _ (by omega))
          have B1 : Below W.heap.size W w' := HV.out.bel.trans ⟨by rw [hg.os]; rfl, by rw [hg.tape]; rfl, by rw [hg.output]; rfl, by have := hg.size; simp at this; omega, fun x hx => blk x (by omega)⟩
          refine ⟨⟨by rw [C1.cells.2.2.1, hv.out], World.rowIs.frozen C1 2⟩, ⟨C1.setV _, World.rowIs.setOther Z1 (by show W.heap.size + 2 ≠ W.heap.size + 1; omega) _, ho.set (by omega) _, B1.setCell (by show W.heap.size ≤ W.heap.size + 1; omega) _, ?_⟩⟩
          have := hg.size
          simp [World.setCell]
          simp at this
          omega
        clear hv
        go_upto_region 15 with (at_builtin; refine append_ways (by rfl) _ _ (by rfl) (W.heap.size + 3) v i zs (by rfl) OV2.out _ 1 1 [k, t] (by rfl) rfl VN.out (fun q => by cases q) (by simp; omega) (by omega) ?_; intro v2 w2 ho hg hat; obtain ⟨a2, c2, rfl, hc2, hI2, hb2⟩ := ho.form; obtain ⟨⟨q0, q1⟩, hQ⟩ := HNX.out w2 a2 c2 hg ho; have HQ := (show Hid _ from hQ); clear ho hg hat hI2 hb2 hQ)
        obtain ⟨V3, hV3⟩ : ∃ V3, Hid (w2.setCell ⟨W.heap.size + 1, 2, none⟩ (.slice a2 (i + 1) c2) = V3) := ⟨_, rfl⟩
        rw [hV3.out]
        have H3 : Hid (Work W V3 m st ⟨s, i + 1, zs ++ [k, t], h, lk + 1⟩ (.slice a2 (i + 1) c2)) := by show Work _ _ _ _ _ _; rw [← hV3.out]; exact HQ.out
        clear hV3 HQ q0 q1 x2 lbig l1 OV OV2 VN HNX HV
        have H4 : Hid (Work W (V3.setCell ⟨W.heap.size + 1, 1, none⟩ (.int .i64 2)) m st ⟨2, i + 1, zs ++ [k, t], h, lk + 1⟩ (.slice a2 (i + 1) c2)) := H3.out.set 1 _ (H3.out.box.setS _) (H3.out.ways.set (by omega) _)
        obtain ⟨x0, x1, x2, x3, x4, x5⟩ := H3.out.box.cells
        obtain ⟨z0, z1, z2, z3, z4, z5⟩ := H3.out.zero.cells
        have fx1 : V3.frozen? ⟨W.heap.size + 1, 1, none⟩ = false := World.rowIs.frozen H3.out.box 1
        have fz0 : V3.frozen? ⟨W.heap.size + 2, 0, none⟩ = false := World.rowIs.frozen H3.out.zero 0
        have fz1 : V3.frozen? ⟨W.heap.size + 2, 1, none⟩ = false := World.rowIs.frozen H3.out.zero 1
        have fz2 : V3.frozen? ⟨W.heap.size + 2, 2, none⟩ = false := World.rowIs.frozen H3.out.zero 2
        have fz3 : V3.frozen? ⟨W.heap.size + 2, 3, none⟩ = false := World.rowIs.frozen H3.out.zero 3
        have fz4 : V3.frozen? ⟨W.heap.size + 2, 4, none⟩ = false := World.rowIs.frozen H3.out.zero 4
        have fz5 : V3.frozen? ⟨W.heap.size + 2, 5, none⟩ = false := World.rowIs.frozen H3.out.zero 5
        have lbig := H3.out.big
        by_cases h0' : i = 0
        · subst h0'
          rw [if_pos rfl] at HE
          have HF : Hid (Work W ((V3.setCell ⟨W.heap.size + 1, 1, none⟩ (.int .i64 2)).setCell ⟨W.heap.size + 1, 1, none⟩ (.int .i64 1)) m st ⟨1, 0 + 1, zs ++ [k, t], h, lk + 1⟩ (.slice a2 (0 + 1) c2)) := H4.out.set 1 _ (H4.out.box.setS _) (H4.out.ways.set (by omega) _)
          go_wp2
          refine bodyPost_ret (v := .agg #[.int .i64 m, .int .i64 1, .slice a2 1 c2, .int .i64 st, .int .i64 h, .int .i64 (lk + 1)]) (by simp only [results, Try.results66]; go_simp) rfl ?_
          rw [← HR.out, HE.out]
          exact HF.out.ans _ _ _ _ _ _
        · rw [if_neg h0'] at HE
          have HF := H4
          have n1 : ((i : Int) + 1 == 1) = false := by simp; omega
          have n2 : decide ((i : Int) + 1 = 1) = false := decide_eq_false (by omega)
          have n3 : (i == 0) = false := by simpa using h0'
          have n4 : decide (i = 0) = false := decide_eq_false h0'
          go_wp2
          refine bodyPost_ret (v := .agg #[.int .i64 m, .int .i64 2, .slice a2 (i + 1) c2, .int .i64 st, .int .i64 h, .int .i64 (lk + 1)]) (by simp only [results, Try.results66]; go_simp) rfl ?_
          rw [← HR.out, HE.out]
          exact HF.out.ans _ _ _ _ _ _
end Go.Proofs.Yticgipmaflhplaa.walks
