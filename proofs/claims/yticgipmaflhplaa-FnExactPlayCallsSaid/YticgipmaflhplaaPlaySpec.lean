/-
  What the specification's PlayCalls answers.
-/
import Derived.Test.YticgipmaflhplaaProg
import Derived.Test.YticgipmaflhplaaMagMath
import Derived.Test.YticgipmaflhplaaWorldMath
import Derived.Test.YticgipmaflhplaaCacheMath
import Derived.Test.YticgipmaflhplaaPlayMath
import Derived.Test.YticgipmaflhplaaInts
import Derived.Test.YticgipmaflhplaaOwnInts
import Derived.Test.YticgipmaflhplaaDeep
import Derived.Test.YticgipmaflhplaaDeepRow
import Derived.Test.YticgipmaflhplaaDeepC
import Derived.Test.YticgipmaflhplaaWorldSpec
import Derived.Test.YticgipmaflhplaaCacheYes
import Derived.Test.YticgipmaflhplaaCallSpec
import Derived.Test.YticgipmaflhplaaCallBySpec
import Derived.WalkKit
import Derived.WalkSpells
import Derived.Below
import Derived.Handy
import Derived.OwnWalk
import Derived.Maps.AppendAt
import Derived.Deep.DeepFit
import Derived.Deep.DeepCutAuto
namespace Go.Proofs.Yticgipmaflhplaa.walks
open Go.RowKit Go.Proofs.Yticgipmaflhplaa.math Go.Proofs.Yticgipmaflhplaa.ints Go.Proofs.Yticgipmaflhplaa.deep
set_option linter.unusedVariables false
set_option maxRecDepth 100000

/-- What PlayCalls answers: a cache and the targets, each list in memory of its own. -/
def PlayAns (W : World) (cs : Nat → Dv) (n : Nat) (st nm : Int) (zs : List Int) (e : Ending) (W' : World) : Prop := ∃ a cap ga gc, e = .returned (.tuple #[.agg #[.int .i64 (mP cs n st nm zs), .int .i64 (cP cs n st nm zs).s, .slice a (cP cs n st nm zs).l cap, .int .i64 (sP cs n st nm zs), .int .i64 (cP cs n st nm zs).h, .int .i64 (cP cs n st nm zs).lk], .slice ga (gP cs n st nm zs).length gc, .bool (okP cs n st nm zs)]) ∧ OwnW W' W.heap.size (.slice a (cP cs n st nm zs).l cap) (cP cs n st nm zs).l (cP cs n st nm zs).zs ∧ ints.Own W' W.heap.size (.slice ga (gP cs n st nm zs).length gc) (gP cs n st nm zs) ∧ Below W.heap.size W W'
theorem play_zero {W W' : World} {cs : Nat → Dv} {n : Nat} {st nm : Int} {zs : List Int} (h : okP cs n st nm zs = false) (hb : Below W.heap.size W W') : PlayAns W cs n st nm zs (.returned (.tuple #[.agg #[.int .i64 0, .int .i64 0, .slice none 0 0, .int .i64 0, .int .i64 0, .int .i64 0], .slice none 0 0, .bool false])) W' := by
  obtain ⟨e1, e2, e3, e4⟩ := play_no h
  refine ⟨none, 0, none, 0, ?_, ?_, ?_, hb⟩
  · rw [e1, e2, e3, e4, h]; rfl
  · rw [e1]; exact OwnW.nil _ _
  · rw [e2]; exact own_nil _ _
theorem CBox.put {w : World} {g : Nat} {m s : Int} {v : Value} {st h lk : Int} (q : CBox w g m s v st h lk) (m' s' : Int) (v' : Value) (st' h' lk' : Int) : CBox ((((((w.setCell ⟨g, 0, none⟩ (.int .i64 m')).setCell ⟨g, 1, none⟩ (.int .i64 s')).setCell ⟨g, 2, none⟩ v').setCell ⟨g, 3, none⟩ (.int .i64 st')).setCell ⟨g, 4, none⟩ (.int .i64 h')).setCell ⟨g, 5, none⟩ (.int .i64 lk')) g m' s' v' st' h' lk' :=
  ((((((World.rowIs.set q 0 _).set 1 _).set 2 _).set 3 _).set 4 _).set 5 _).congr (fun i hi => by match i, hi with | 0, _ => rfl | 1, _ => rfl | 2, _ => rfl | 3, _ => rfl | 4, _ => rfl | 5, _ => rfl | i + 6, h => exact absurd h (by omega))
theorem own_keep {w w' : World} {B : Nat} {v : Value} {zs : List Int} (h : ints.Own w B v zs) (hb : ∀ x, B ≤ x → x < w.heap.size → w'.heap[x]? = w.heap[x]?) : ints.Own w' B v zs := by
  refine ⟨h.1, ?_⟩
  rcases h.2 with q | ⟨g, cap, cur, e, hg, hw, r⟩
  · exact Or.inl q
  · have hl := (World.ownsRow.lt h g (by rw [e]; rfl)).2
    exact Or.inr ⟨g, cap, cur, e, hg, (hb g hg hl).trans hw, r⟩
theorem own_low {w : World} {B B' : Nat} {v : Value} {zs : List Int} (h : ints.Own w B v zs) (hb : B' ≤ B) : ints.Own w B' v zs := by
  refine ⟨h.1, ?_⟩
  rcases h.2 with q | ⟨g, cap, cur, e, hg, r⟩
  · exact Or.inl q
  · exact Or.inr ⟨g, cap, cur, e, Nat.le_trans hb hg, r⟩
/-- Lists of other types lie in other blocks. -/
theorem way_int {w : World} {B B' l : Nat} {v vo : Value} {zs go : List Int} (h : OwnW w B v l zs) (ho : ints.Own w B' vo go) : ∀ x, v.ownBlock = some x → vo.ownBlock ≠ some x := by
  intro x e e2
  rcases h.2 with ⟨rfl, _⟩ | ⟨g, cap, cur, rfl, _, hw, _⟩
  · cases e
  rcases ho.2 with ⟨rfl, _⟩ | ⟨g2, cap2, cur2, rfl, _, hw2, _⟩
  · cases e2
  have e : g = x := Option.some.inj e
  have e2 : g2 = x := Option.some.inj e2
  subst e e2
  rw [hw] at hw2
  simp only [Option.some.injEq, Obj.cells.injEq] at hw2
  exact absurd hw2.2.1 (by decide)
structure PlayAt (W w : World) (pa : Option Addr) (n pcap G : Nat) (m st : Int) (c : Cst) (v vo : Value) (go : List Int) : Prop where
  box : CBox w G m c.s v st c.h c.lk
  zero : CBox w (W.heap.size + 1) 0 0 (.slice none 0 0) 0 0 0
  row : w.rowIs W.heap.size 29 2 (rowF [.slice pa n pcap, .int .i64 st])
  ways : OwnW w (G + 1) v c.l c.zs
  out : ints.Own w (G + 1) vo go
  bel : Below W.heap.size W w
  big : G + 1 ≤ w.heap.size
  lo : W.heap.size + 2 ≤ G
theorem PlayAt.kept {W w w' : World} {pa : Option Addr} {n pcap G : Nat} {m st : Int} {c : Cst} {v vo : Value} {go : List Int} (h : PlayAt W w pa n pcap G m st c v vo go) (hb : Below w.heap.size w w') : PlayAt W w' pa n pcap G m st c v vo go :=
  ⟨World.rowIs.of_block h.box (hb.block _ (World.rowIs.lt h.box)), World.rowIs.of_block h.zero (hb.block _ (World.rowIs.lt h.zero)), h.row.of_block (hb.block _ h.row.lt), h.ways.kept hb, own_keep h.out (fun x _ hx => hb.block x hx), h.bel.trans (hb.mono h.bel.size), Nat.le_trans h.big hb.size, h.lo⟩
/-- The cache is laid anew. -/
theorem PlayAt.put {W w : World} {pa : Option Addr} {n pcap G : Nat} {m st : Int} {c c' : Cst} {v v' vo : Value} {go : List Int} (h : PlayAt W w pa n pcap G m st c v vo go) (hw : OwnW w (G + 1) v' c'.l c'.zs) : PlayAt W ((((((w.setCell ⟨G, 0, none⟩ (.int .i64 m)).setCell ⟨G, 1, none⟩ (.int .i64 c'.s)).setCell ⟨G, 2, none⟩ v').setCell ⟨G, 3, none⟩ (.int .i64 st)).setCell ⟨G, 4, none⟩ (.int .i64 c'.h)).setCell ⟨G, 5, none⟩ (.int .i64 c'.lk)) pa n pcap G m st c' v' vo go := by
  have lo := h.lo
  have g1 : G < G + 1 := by omega
  have blk : ∀ x, x ≠ G → ((((((w.setCell ⟨G, 0, none⟩ (.int .i64 m)).setCell ⟨G, 1, none⟩ (.int .i64 c'.s)).setCell ⟨G, 2, none⟩ v').setCell ⟨G, 3, none⟩ (.int .i64 st)).setCell ⟨G, 4, none⟩ (.int .i64 c'.h)).setCell ⟨G, 5, none⟩ (.int .i64 c'.lk)).heap[x]? = w.heap[x]? := fun x hx => (Below.heap_setCell _ _ _ _ hx).trans ((Below.heap_setCell _ _ _ _ hx).trans ((Below.heap_setCell _ _ _ _ hx).trans ((Below.heap_setCell _ _ _ _ hx).trans ((Below.heap_setCell _ _ _ _ hx).trans (Below.heap_setCell _ _ _ _ hx)))))
  have q : W.heap.size ≤ G := by omega
  refine ⟨h.box.put _ _ _ _ _ _, World.rowIs.of_block h.zero (blk _ (by omega)), h.row.of_block (blk _ (by omega)), (((((hw.set g1 _).set g1 _).set g1 _).set g1 _).set g1 _).set g1 _, own_keep h.out (fun x hx _ => blk x (by omega)), (((((h.bel.setCell q _).setCell q _).setCell q _).setCell q _).setCell q _).setCell q _, ?_, lo⟩
  have := h.big
  simp [World.setCell]; omega
/-- A target is put behind all. -/
theorem PlayAt.snoc {W w w' : World} {pa : Option Addr} {n pcap G : Nat} {m st : Int} {c : Cst} {v vo vo' : Value} {go : List Int} {t : Int} {ob : Obj} (h : PlayAt W w pa n pcap G m st c v vo go) (ho : w'.ownsRow (G + 1) 3 1 vo' (go.length + 1) (go.map (Value.int .i64) ++ [.int .i64 t])) (hg : (w.alloc ob).grownBy w' vo.ownBlock) : PlayAt W w' pa n pcap G m st c v vo' (go ++ [t]) := by
  have big := h.big
  have lo := h.lo
  have own : ∀ x, vo.ownBlock = some x → G + 1 ≤ x := fun x e => (World.ownsRow.lt h.out x e).1
  have blk : ∀ x, x < w.heap.size → vo.ownBlock ≠ some x → w'.heap[x]? = w.heap[x]? := fun x hx hn => (hg.block x (by simp; omega) (fun e => hn e.symm)).trans (Go.Deep.blk_alloc_lt w _ x hx)
  have lowb : ∀ x, x < G + 1 → w'.heap[x]? = w.heap[x]? := fun x hx => blk x (by omega) (fun e => by have := own x e; omega)
  have s := hg.size
  have s' : w.heap.size + 1 ≤ w'.heap.size := by simpa using s
  refine ⟨World.rowIs.of_block h.box (lowb _ (by omega)), World.rowIs.of_block h.zero (lowb _ (by omega)), h.row.of_block (lowb _ (by omega)), ?_, ?_, ?_, by omega, lo⟩
  · refine ⟨h.ways.1, ?_⟩
    rcases h.ways.2 with q | ⟨g, cap, cur, e, hgb, hw, r⟩
    · exact Or.inl q
    · have hl := (World.ownsRow.lt h.ways g (by rw [e]; rfl)).2
      exact Or.inr ⟨g, cap, cur, e, hgb, (blk g hl (way_int h.ways h.out g (by rw [e]; rfl))).trans hw, r⟩
  · unfold ints.Own; simpa using ho
  · exact h.bel.trans ⟨by rw [hg.os]; rfl, by rw [hg.tape]; rfl, by rw [hg.output]; rfl, by omega, fun x hx => lowb x (by omega)⟩
set_option maxHeartbeats 8000000 in
theorem spec_play (pa : Option Addr) (n pcap : Nat) (cs : Nat → Dv) (st nm : Int) (la : Option Addr) (ll lcap : Nat) (zs : List Int) (d : Bool) (W : World) (hf : Hid (Fits shClassS (.l n 2 cs))) (hs : Hid (szD (.l n 2 cs) ≤ 1048576)) (hh : Hid (Holds W d (.l n 2 cs) (.slice pa n pcap))) (hz : Hid (zs.length = ll)) (hl : ll ≤ 1048576) (hi : Hid (Ints W la zs)) :
    Calls Try.prog 25 #[.agg #[.slice pa n pcap, .int .i64 st], .int .i64 nm, .slice la ll lcap] W fun e W' => PlayAns W cs n st nm zs e W' := by
  obtain ⟨X, hX⟩ : ∃ X, Hid ((W.alloc (.cells #[.slice pa n pcap, .int .i64 st] 29)).alloc (.cells #[.int .i64 0, .int .i64 0, .slice none 0 0, .int .i64 0, .int .i64 0, .int .i64 0] 42) = X) := ⟨_, rfl⟩
  have HX : Hid (Below W.heap.size W X) := by show Below _ _ _; rw [← hX.out]; go_grown
  have HXS : Hid (X.heap.size = W.heap.size + 2) := by show _ = _; rw [← hX.out]; simp
  have HRX : Hid (X.rowIs W.heap.size 29 2 (rowF [.slice pa n pcap, .int .i64 st])) := by show World.rowIs _ _ _ _ _; rw [← hX.out]; exact (row_of W #[.slice pa n pcap, .int .i64 st] _).alloc _
  have HZX : Hid (CBox X (W.heap.size + 1) 0 0 (.slice none 0 0) 0 0 0) := by
    have q := row_of (W.alloc (.cells #[.slice pa n pcap, .int .i64 st] 29)) #[.int .i64 0, .int .i64 0, .slice none 0 0, .int .i64 0, .int .i64 0, .int .i64 0] 42
    rw [show (W.alloc (.cells #[.slice pa n pcap, .int .i64 st] 29)).heap.size = W.heap.size + 1 by simp] at q
    show World.rowIs _ _ _ _ _
    rw [← hX.out]; exact q
  have hcn := spec_newcache pa n pcap cs st nm d X hf hs (hh.out.kept HX.out)
  cases hok : okN cs n st nm
  · have HNO : Hid (okP cs n st nm zs = false) := by show _ = _; unfold okP; rw [hok]; rfl
    obtain ⟨e1, e2⟩ := newN_no hok
    rw [hok, e1, e2] at hcn
    go_enter Try.func25, Try.ntmps25
    go_wp2_with fail
    rw [hX.out]
    clear hX
    refine hcn.mono ?_
    rintro e w1 ⟨rfl, hB⟩
    have B1X : Hid (Below X.heap.size X w1) := hB
    have Z1 : Hid (CBox w1 (W.heap.size + 1) 0 0 (.slice none 0 0) 0 0 0) := World.rowIs.of_block HZX.out (hB.block _ (World.rowIs.lt HZX.out))
    clear hB hcn
    have l1 := World.rowIs.lt Z1.out
    obtain ⟨V, hV⟩ : ∃ V, Hid (w1.alloc (.cells #[.int .i64 0, .int .i64 0, .slice none 0 0, .int .i64 0, .int .i64 0, .int .i64 0] 42) = V) := ⟨_, rfl⟩
    have HVB : Hid (Below W.heap.size W V) := by show Below _ _ _; rw [← hV.out]; exact (HX.out.trans (B1X.out.mono HX.out.size)).alloc (by have := B1X.out.size; have := HX.out.size; omega) _
    have ZV : Hid (CBox V (W.heap.size + 1) 0 0 (.slice none 0 0) 0 0 0) := by show World.rowIs _ _ _ _ _; rw [← hV.out]; exact World.rowIs.alloc Z1.out _
    go_upto_region 2 with fail
    rw [hV.out]
    clear hV
    obtain ⟨z0, z1, z2, z3, z4, z5⟩ := (ZV.out).cells
    have fz0 : V.frozen? ⟨W.heap.size + 1, 0, none⟩ = false := World.rowIs.frozen (ZV.out) 0
    have fz1 : V.frozen? ⟨W.heap.size + 1, 1, none⟩ = false := World.rowIs.frozen (ZV.out) 1
    have fz2 : V.frozen? ⟨W.heap.size + 1, 2, none⟩ = false := World.rowIs.frozen (ZV.out) 2
    have fz3 : V.frozen? ⟨W.heap.size + 1, 3, none⟩ = false := World.rowIs.frozen (ZV.out) 3
    have fz4 : V.frozen? ⟨W.heap.size + 1, 4, none⟩ = false := World.rowIs.frozen (ZV.out) 4
    have fz5 : V.frozen? ⟨W.heap.size + 1, 5, none⟩ = false := World.rowIs.frozen (ZV.out) 5
    have lz : W.heap.size + 1 < V.heap.size := World.rowIs.lt (ZV.out)
    go_wp2
    refine bodyPost_ret (v := .tuple #[.agg #[.int .i64 0, .int .i64 0, .slice none 0 0, .int .i64 0, .int .i64 0, .int .i64 0], .slice none 0 0, .bool false]) (by simp only [results, Try.results25]; go_simp) rfl (play_zero HNO.out ?_)
    refine Below.trans HVB.out ?_
    iterate 6 refine Below.setCell ?_ (by simp; try omega) _
    exact Below.refl _ _
  have HOKN : Hid (okN cs n st nm = true) := hok
  obtain ⟨e1, e2⟩ := newN_yes hok
  rw [hok, e1, e2] at hcn
  have hq : worldB cs n st = true ∧ inR nm 0 4 = true := by unfold okN at hok; simpa using hok
  have hw : Hid (worldB cs n st = true) := hq.1
  obtain ⟨m0, m1⟩ := inR_out hq.2
  obtain ⟨m, rfl⟩ : ∃ q : Nat, nm = (q : Int) := ⟨nm.toNat, by omega⟩
  have hm : m < 5 := by omega
  clear hq e1 e2 hok
  go_enter Try.func25, Try.ntmps25
  go_wp2_with fail
  rw [hX.out]
  clear hX
  refine hcn.mono ?_
  rintro e w1 ⟨rfl, hB⟩
  have B1X : Hid (Below X.heap.size X w1) := hB
  clear hB hcn
  obtain ⟨V, hV⟩ : ∃ V, Hid (w1.alloc (.cells #[.int .i64 (m : Int), .int .i64 0, .slice none 0 0, .int .i64 st, .int .i64 0, .int .i64 0] 42) = V) := ⟨_, rfl⟩
  have l1 := B1X.out.size
  have HP0 : Hid (PlayAt W V pa n pcap w1.heap.size (m : Int) st ⟨0, 0, [], 0, 0⟩ (.slice none 0 0) (.slice none 0 0) []) := by
    have hx := HXS.out
    refine ⟨?_, ?_, ?_, OwnW.nil _ _, own_nil _ _, ?_, ?_, by omega⟩
    · show World.rowIs _ _ _ _ _; rw [← hV.out]; exact row_of w1 #[.int .i64 (m : Int), .int .i64 0, .slice none 0 0, .int .i64 st, .int .i64 0, .int .i64 0] _
    · show World.rowIs _ _ _ _ _; rw [← hV.out]; exact (World.rowIs.of_block HZX.out (B1X.out.block _ (World.rowIs.lt HZX.out))).alloc _
    · rw [← hV.out]; exact (HRX.out.of_block (B1X.out.block _ HRX.out.lt)).alloc _
    · rw [← hV.out]; exact (HX.out.trans (B1X.out.mono HX.out.size)).alloc (by omega) _
    · rw [← hV.out]; simp
  obtain ⟨G, HG⟩ : ∃ G, Hid (w1.heap.size = G) := ⟨_, rfl⟩
  rw [HG.out] at HP0
  go_upto_region 2 with fail
  rw [hV.out, HG.out]
  clear hV
  by_cases h100 : 100 < ll
  · have HNO : Hid (okP cs n st (m : Int) zs = false) := by show _ = _; unfold okP; rw [hz.out, decide_eq_false (show ¬ ll ≤ 100 by omega)]; simp
    have h100I : (100 : Int) < (ll : Int) := by omega
    obtain ⟨z0, z1, z2, z3, z4, z5⟩ := (HP0.out.zero).cells
    have fz0 : V.frozen? ⟨W.heap.size + 1, 0, none⟩ = false := World.rowIs.frozen (HP0.out.zero) 0
    have fz1 : V.frozen? ⟨W.heap.size + 1, 1, none⟩ = false := World.rowIs.frozen (HP0.out.zero) 1
    have fz2 : V.frozen? ⟨W.heap.size + 1, 2, none⟩ = false := World.rowIs.frozen (HP0.out.zero) 2
    have fz3 : V.frozen? ⟨W.heap.size + 1, 3, none⟩ = false := World.rowIs.frozen (HP0.out.zero) 3
    have fz4 : V.frozen? ⟨W.heap.size + 1, 4, none⟩ = false := World.rowIs.frozen (HP0.out.zero) 4
    have fz5 : V.frozen? ⟨W.heap.size + 1, 5, none⟩ = false := World.rowIs.frozen (HP0.out.zero) 5
    have lz : W.heap.size + 1 < V.heap.size := World.rowIs.lt (HP0.out.zero)
    go_wp2
    refine bodyPost_ret (v := .tuple #[.agg #[.int .i64 0, .int .i64 0, .slice none 0 0, .int .i64 0, .int .i64 0, .int .i64 0], .slice none 0 0, .bool false]) (by simp only [results, Try.results25]; go_simp) rfl (play_zero HNO.out ?_)
    refine Below.trans HP0.out.bel ?_
    iterate 6 refine Below.setCell ?_ (by simp; try omega) _
    exact Below.refl _ _
  have h100I : (ll : Int) ≤ 100 := by omega
  have d100 : decide ((100 : Int) < (ll : Int)) = false := decide_eq_false (by omega)
  have HOKP : Hid (allB cs n m (fun i => zs.getD i 0) ll = true → okP cs n st (m : Int) zs = true) := fun q => by unfold okP; rw [HOKN.out, hz.out, decide_eq_true (show ll ≤ 100 by omega), Int.toNat_natCast, q]; rfl
  have HNOP : Hid (allB cs n m (fun i => zs.getD i 0) ll = false → okP cs n st (m : Int) zs = false) := fun q => by unfold okP; rw [hz.out, Int.toNat_natCast, q]; simp
  have HOK : Hid (∀ k, k < n → ClassOk cs k) := (world_out hw.out).2.2
  go_wp2
  go_loopw [11, 33] (fun vo vi wr => ∃ i : Nat, i ≤ ll ∧ vi = .int .i64 i ∧ Hid (allB cs n m (fun i => zs.getD i 0) i = true) ∧ Hid (∃ v, PlayAt W wr pa n pcap G (m : Int) st (playS cs m (fun i => zs.getD i 0) i) v vo (goneTo cs m zs i))) (fun _ vi _ => ll - (intOf vi).toNat)
  case atStart => exact ⟨0, Nat.zero_le _, rfl, rfl, ⟨_, HP0.out⟩⟩
  case round =>
    obtain ⟨i, hil, rfl, HA, HP⟩ := hrel
    obtain ⟨v, hP⟩ := HP.out
    obtain ⟨a, cap, hv, hcap, hIw, hbw⟩ := hP.ways.form
    subst hv
    have HPA : Hid (PlayAt W wr pa n pcap G (m : Int) st (playS cs m (fun i => zs.getD i 0) i) (.slice a (playS cs m (fun i => zs.getD i 0) i).l cap) _ (goneTo cs m zs i)) := hP
    have HIW : Hid (Ints wr a (playS cs m (fun i => zs.getD i 0) i).zs) := hIw
    have hna : a = none → (playS cs m (fun i => zs.getD i 0) i).l = 0 := fun q => by
      rcases hP.ways.2 with ⟨e, e2⟩ | ⟨g, c2, cur, e, _⟩
      · exact e2
      · rw [q] at e; cases e
    clear hP hIw hbw HP
    obtain ⟨hg, hsum, hh0, hk0⟩ := play_good HOK.out hm HA.out
    have HGC : Hid (GoodC cs n m (playS cs m (fun i => zs.getD i 0) i)) := hg
    clear hg
    by_cases hlt : i < ll
    rotate_left
    · have e : i = ll := by omega
      subst e
      have HY : Hid (okP cs n st (m : Int) zs = true) := HOKP.out HA.out
      obtain ⟨ga, gcap, hvo, _⟩ := HPA.out.out.mine
      obtain ⟨vo', hvo'⟩ : ∃ vo', vo' = Value.slice ga (goneTo cs m zs i).length gcap := ⟨_, rfl⟩
      have hx := hvo.symm
      subst hvo
      have HRES : Hid (∀ u0 u1 u2 u3 u4 u5, PlayAns W cs n st (m : Int) zs (.returned (.tuple #[.agg #[.int .i64 (m : Int), .int .i64 (playS cs m (fun i => zs.getD i 0) i).s, .slice a (playS cs m (fun i => zs.getD i 0) i).l cap, .int .i64 st, .int .i64 (playS cs m (fun i => zs.getD i 0) i).h, .int .i64 (playS cs m (fun i => zs.getD i 0) i).lk], .slice ga (goneTo cs m zs i).length gcap, .bool true])) ((((((wr.setCell ⟨W.heap.size + 1, 0, none⟩ u0).setCell ⟨W.heap.size + 1, 1, none⟩ u1).setCell ⟨W.heap.size + 1, 2, none⟩ u2).setCell ⟨W.heap.size + 1, 3, none⟩ u3).setCell ⟨W.heap.size + 1, 4, none⟩ u4).setCell ⟨W.heap.size + 1, 5, none⟩ u5)) := fun u0 u1 u2 u3 u4 u5 => by
        obtain ⟨y1, y2, y3, y4⟩ := play_yes HY.out
        have lo := HPA.out.lo
        have g1 : W.heap.size + 1 < G + 1 := by omega
        have q : W.heap.size ≤ W.heap.size + 1 := by omega
        have blk : ∀ x, x ≠ W.heap.size + 1 → ((((((wr.setCell ⟨W.heap.size + 1, 0, none⟩ u0).setCell ⟨W.heap.size + 1, 1, none⟩ u1).setCell ⟨W.heap.size + 1, 2, none⟩ u2).setCell ⟨W.heap.size + 1, 3, none⟩ u3).setCell ⟨W.heap.size + 1, 4, none⟩ u4).setCell ⟨W.heap.size + 1, 5, none⟩ u5).heap[x]? = wr.heap[x]? := fun x hx => (Below.heap_setCell _ _ _ _ hx).trans ((Below.heap_setCell _ _ _ _ hx).trans ((Below.heap_setCell _ _ _ _ hx).trans ((Below.heap_setCell _ _ _ _ hx).trans ((Below.heap_setCell _ _ _ _ hx).trans (Below.heap_setCell _ _ _ _ hx)))))
        rw [Int.toNat_natCast] at y1 y2
        rw [hz.out] at y1 y2
        refine ⟨a, cap, ga, gcap, ?_, ?_, ?_, (((((HPA.out.bel.setCell q _).setCell q _).setCell q _).setCell q _).setCell q _).setCell q _⟩
        · rw [y1, y2, y3, y4, HY.out]
        · rw [y1]
          exact ((((((HPA.out.ways.set g1 _).set g1 _).set g1 _).set g1 _).set g1 _).set g1 _).low (by omega)
        · rw [y2]
          have q2 := own_keep HPA.out.out (fun x hx _ => blk x (by omega))
          exact own_low q2 (by omega)
      obtain ⟨x0, x1, x2, x3, x4, x5⟩ := HPA.out.box.cells
      obtain ⟨z0, z1, z2, z3, z4, z5⟩ := (HPA.out.zero).cells
      have fz0 : wr.frozen? ⟨W.heap.size + 1, 0, none⟩ = false := World.rowIs.frozen (HPA.out.zero) 0
      have fz1 : wr.frozen? ⟨W.heap.size + 1, 1, none⟩ = false := World.rowIs.frozen (HPA.out.zero) 1
      have fz2 : wr.frozen? ⟨W.heap.size + 1, 2, none⟩ = false := World.rowIs.frozen (HPA.out.zero) 2
      have fz3 : wr.frozen? ⟨W.heap.size + 1, 3, none⟩ = false := World.rowIs.frozen (HPA.out.zero) 3
      have fz4 : wr.frozen? ⟨W.heap.size + 1, 4, none⟩ = false := World.rowIs.frozen (HPA.out.zero) 4
      have fz5 : wr.frozen? ⟨W.heap.size + 1, 5, none⟩ = false := World.rowIs.frozen (HPA.out.zero) 5
      have lz : W.heap.size + 1 < wr.heap.size := World.rowIs.lt (HPA.out.zero)
      have hne : G ≠ W.heap.size + 1 := by have := HPA.out.lo; omega
      clear hx hvo' hna
      go_wp2
      refine bodyPost_ret (v := .tuple #[.agg #[.int .i64 (m : Int), .int .i64 (playS cs m (fun i => zs.getD i 0) i).s, .slice a (playS cs m (fun i => zs.getD i 0) i).l cap, .int .i64 st, .int .i64 (playS cs m (fun i => zs.getD i 0) i).h, .int .i64 (playS cs m (fun i => zs.getD i 0) i).lk], .slice ga (goneTo cs m zs i).length gcap, .bool true]) (by simp only [results, Try.results25]; go_simp) rfl ?_
      exact HRES.out _ _ _ _ _ _
    have hltI : (i : Int) < (ll : Int) := by omega
    obtain ⟨b', o', ha', hc'⟩ := hi.out.at HPA.out.bel (k := i) (by rw [hz.out]; exact hlt)
    obtain ⟨k, HK⟩ : ∃ k, Hid (zs.getD i 0 = k) := ⟨_, rfl⟩
    rw [HK.out] at hc'
    subst ha'
    have hcb := spec_callby pa n pcap cs st m k (playS cs m (fun i => zs.getD i 0) i) a cap d wr hf hs (hh.out.kept HPA.out.bel) hw hm HGC hh0 (by omega) hk0 (by omega) hcap hna HIW
    obtain ⟨x0, x1, x2, x3, x4, x5⟩ := HPA.out.box.cells
    have p0 : wr.cell? ⟨W.heap.size, 0, none⟩ = some (.slice pa n pcap) := HPA.out.row.cell (i := 0) (by decide)
    have p1 : wr.cell? ⟨W.heap.size, 1, none⟩ = some (.int .i64 st) := HPA.out.row.cell (i := 1) (by decide)
    have HSC : Hid (playS cs m (fun i => zs.getD i 0) (i + 1) = callS (findC cs k m) k (playS cs m (fun i => zs.getD i 0) i)) := by show _ = _; rw [← HK.out]; rfl
    have HAC : Hid (allB cs n m (fun i => zs.getD i 0) (i + 1) = hasB cs n m k) := by show _ = _; rw [← HK.out]; show (allB _ _ _ _ i && _) = _; rw [HA.out]; rfl
    have HGO : Hid (goneTo cs m zs (i + 1) = goneTo cs m zs i ++ [findC cs k m]) := by show _ = _; rw [← HK.out]; exact gone_succ cs m zs i
    have HNB : Hid (hasB cs n m k = false → okP cs n st (m : Int) zs = false) := fun q => HNOP.out (all_no (i := i) (by rw [HK.out]; exact q) hlt)
    have hgl : (goneTo cs m zs i).length = i := gone_len _ _ _ _
    clear hna
    go_wp2_with fail
    refine hcb.mono ?_
    rintro e w2 ⟨hB, hby⟩
    have B2 : Hid (Below wr.heap.size wr w2) := hB
    have P2 := (show Hid _ from HPA.out.kept hB)
    clear hB hcb x0 x1 x2 x3 x4 x5 p0 p1 HIW
    rcases hby with ⟨hhas, a2, c2, rfl, hO2⟩ | ⟨hhas, rfl⟩
    rotate_left
    · have HNO : Hid (okP cs n st (m : Int) zs = false) := HNB.out hhas
      have HZ3 : Hid (CBox (w2.alloc (.cells #[.int .i64 0, .int .i64 0, .slice none 0 0, .int .i64 0, .int .i64 0, .int .i64 0] 42)) (W.heap.size + 1) 0 0 (.slice none 0 0) 0 0 0) := World.rowIs.alloc P2.out.zero _
      have HB3 : Hid (Below W.heap.size W (w2.alloc (.cells #[.int .i64 0, .int .i64 0, .slice none 0 0, .int .i64 0, .int .i64 0, .int .i64 0] 42))) := P2.out.bel.alloc P2.out.bel.size _
      go_upto_region 9 with fail
      obtain ⟨V3, hV3⟩ : ∃ V3, Hid (w2.alloc (.cells #[.int .i64 0, .int .i64 0, .slice none 0 0, .int .i64 0, .int .i64 0, .int .i64 0] 42) = V3) := ⟨_, rfl⟩
      rw [hV3.out] at HZ3 HB3 ⊢
      obtain ⟨z0, z1, z2, z3, z4, z5⟩ := (HZ3.out).cells
      have fz0 : V3.frozen? ⟨W.heap.size + 1, 0, none⟩ = false := World.rowIs.frozen (HZ3.out) 0
      have fz1 : V3.frozen? ⟨W.heap.size + 1, 1, none⟩ = false := World.rowIs.frozen (HZ3.out) 1
      have fz2 : V3.frozen? ⟨W.heap.size + 1, 2, none⟩ = false := World.rowIs.frozen (HZ3.out) 2
      have fz3 : V3.frozen? ⟨W.heap.size + 1, 3, none⟩ = false := World.rowIs.frozen (HZ3.out) 3
      have fz4 : V3.frozen? ⟨W.heap.size + 1, 4, none⟩ = false := World.rowIs.frozen (HZ3.out) 4
      have fz5 : V3.frozen? ⟨W.heap.size + 1, 5, none⟩ = false := World.rowIs.frozen (HZ3.out) 5
      have lz : W.heap.size + 1 < V3.heap.size := World.rowIs.lt (HZ3.out)
      go_wp2
      refine bodyPost_ret (v := .tuple #[.agg #[.int .i64 0, .int .i64 0, .slice none 0 0, .int .i64 0, .int .i64 0, .int .i64 0], .slice none 0 0, .bool false]) (by simp only [results, Try.results25]; go_simp) rfl (play_zero HNO.out ?_)
      refine Below.trans HB3.out ?_
      iterate 6 refine Below.setCell ?_ (by simp; try omega) _
      exact Below.refl _ _
    · obtain ⟨c', HC'⟩ : ∃ c', Hid (callS (findC cs k m) k (playS cs m (fun i => zs.getD i 0) i) = c') := ⟨_, rfl⟩
      obtain ⟨t, HT⟩ : ∃ t, Hid (findC cs k m = t) := ⟨_, rfl⟩
      rw [HC'.out] at HSC hO2 ⊢
      rw [HT.out] at HGO ⊢
      rw [hhas] at HAC
      have lG := P2.out.big
      have lG0 := HPA.out.big
      have O2 : Hid (OwnW w2 (G + 1) (.slice a2 c'.l c2) c'.l c'.zs) := hO2.low lG0
      clear hO2
      obtain ⟨s', l', zs', h', lk'⟩ := c'
      obtain ⟨V3, hV3⟩ : ∃ V3, Hid (w2.alloc (.cells #[.int .i64 (m : Int), .int .i64 s', .slice a2 l' c2, .int .i64 st, .int .i64 h', .int .i64 lk'] 42) = V3) := ⟨_, rfl⟩
      have B3 : Hid (Below w2.heap.size w2 V3) := by show Below _ _ _; rw [← hV3.out]; repeat (first | exact Below.refl _ _ | refine Below.drew ?_ | refine Below.setCell ?_ (by simp; try omega) _ | refine Below.alloc ?_ (by simp; try omega) _)
      have P3 := (show Hid _ from P2.out.kept B3.out)
      have O3 : Hid (OwnW V3 (G + 1) (.slice a2 l' c2) l' zs') := O2.out.kept B3.out
      have R3 : Hid (CBox V3 w2.heap.size (m : Int) s' (.slice a2 l' c2) st h' lk') := by show World.rowIs _ _ _ _ _; rw [← hV3.out]; exact row_of w2 #[.int .i64 (m : Int), .int .i64 s', .slice a2 l' c2, .int .i64 st, .int .i64 h', .int .i64 lk'] _
      go_upto_region 9 with fail
      rw [hV3.out]
      clear hV3
      obtain ⟨u0, u1, u2, u3, u4, u5⟩ := R3.out.cells
      obtain ⟨x0, x1, x2, x3, x4, x5⟩ := P3.out.box.cells
      have f0 : V3.frozen? ⟨G, 0, none⟩ = false := World.rowIs.frozen P3.out.box 0
      have f1 : V3.frozen? ⟨G, 1, none⟩ = false := World.rowIs.frozen P3.out.box 1
      have f2 : V3.frozen? ⟨G, 2, none⟩ = false := World.rowIs.frozen P3.out.box 2
      have f3 : V3.frozen? ⟨G, 3, none⟩ = false := World.rowIs.frozen P3.out.box 3
      have f4 : V3.frozen? ⟨G, 4, none⟩ = false := World.rowIs.frozen P3.out.box 4
      have f5 : V3.frozen? ⟨G, 5, none⟩ = false := World.rowIs.frozen P3.out.box 5
      have lt3 : G < V3.heap.size := World.rowIs.lt P3.out.box
      have P4 := (show Hid _ from P3.out.put (c' := ⟨s', l', zs', h', lk'⟩) (v' := .slice a2 l' c2) O3.out)
      go_upto_region 12 with fail
      obtain ⟨V4, hV4⟩ : ∃ V4, Hid ((((((V3.setCell ⟨G, 0, none⟩ (.int .i64 (m : Int))).setCell ⟨G, 1, none⟩ (.int .i64 s')).setCell ⟨G, 2, none⟩ (.slice a2 l' c2)).setCell ⟨G, 3, none⟩ (.int .i64 st)).setCell ⟨G, 4, none⟩ (.int .i64 h')).setCell ⟨G, 5, none⟩ (.int .i64 lk') = V4) := ⟨_, rfl⟩
      rw [hV4.out] at P4 ⊢
      clear hV4 u0 u1 u2 u3 u4 u5 x0 x1 x2 x3 x4 x5 f0 f1 f2 f3 f4 f5 lt3 R3 O3 P3 B3 O2 P2 B2
      have OA := (show Hid _ from own_keep (w' := V4.alloc (.cells #[.int .i64 t] 3)) P4.out.out (fun x _ hx => Go.Deep.blk_alloc_lt V4 _ x hx))
      obtain ⟨i0, hi0, hz00, hz01, hz02⟩ := parts_of (P := Try.prog) (e := 3) (z := .int .i64 0) (a := 1) (b := 8) (by kernel_rfl)
      have big4 := P4.out.big
      have l63 : (goneTo cs m zs i).length + 1 ≤ maxLen := by unfold maxLen; omega
      have lby : ((goneTo cs m zs i).length + 1) * 8 ≤ 140737488355328 := by omega
      go_wp2_with (at_builtin; refine wpList_append_own_at _ rfl _ _ 48 rfl (G + 1) 3 i0 (.int .i64 0) 1 8 Try.underlying48 hi0 hz00 hz01 hz02 rfl (by decide) _ (goneTo cs m zs i).length ((goneTo cs m zs i).map (Value.int .i64)) rfl OA.out ⟨V4.heap.size, 0, none⟩ 1 1 [.int .i64 t] rfl rfl (new_one V4 t _) (one_of t) l63 lby (by simp; omega) ?_; intro vo' w5 ho hg5 _ _; have P5 := (show Hid _ from P4.out.snoc ho hg5); clear ho hg5)
      go_roundw
      case rel => exact ⟨i + 1, by omega, by go_num, HAC, ⟨_, by rw [HSC.out, HGO.out]; exact P5.out⟩⟩
      case measure => simp [intOf]; omega
end Go.Proofs.Yticgipmaflhplaa.walks
