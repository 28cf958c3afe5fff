/-
  What the program's PlayCalls answers.
-/
import Derived.Test.YticgipmaflhplaaProg
import Derived.Test.YticgipmaflhplaaMagMath
import Derived.Test.YticgipmaflhplaaWorldMath
import Derived.Test.YticgipmaflhplaaLookMath
import Derived.Test.YticgipmaflhplaaCacheMath
import Derived.Test.YticgipmaflhplaaPlayMath
import Derived.Test.YticgipmaflhplaaInts
import Derived.Test.YticgipmaflhplaaOwnInts
import Derived.Test.YticgipmaflhplaaDeep
import Derived.Test.YticgipmaflhplaaDeepRow
import Derived.Test.YticgipmaflhplaaDeepC
import Derived.Test.YticgipmaflhplaaWorldImpl
import Derived.Test.YticgipmaflhplaaFindImpl
import Derived.Test.YticgipmaflhplaaPlaySpec
import Derived.Test.YticgipmaflhplaaSiteImpl
import Derived.Test.YticgipmaflhplaaRemImpl
import Derived.Test.YticgipmaflhplaaCallImpl
import Derived.Test.YticgipmaflhplaaSiteOf
import Derived.WalkKit
import Derived.WalkSpells
import Derived.Below
import Derived.Handy
import Derived.OwnWalk
import Derived.Maps.AppendAt
import Derived.Deep.DeepFit
import Derived.Deep.DeepCutAuto
namespace Go.Proofs.Yticgipmaflhplaa.walks
open Go.RowKit Go.Proofs.Yticgipmaflhplaa.math Go.Proofs.Yticgipmaflhplaa.ints Go.Proofs.Yticgipmaflhplaa.deep
set_option linter.unusedVariables false
set_option maxRecDepth 100000

theorem own_only {w w' : World} {B : Nat} {v : Value} {zs : List Int} {F : Nat → Prop} (h : ints.Own w B v zs) (ho : OnlyF w w' F) (hn : ∀ x, v.ownBlock = some x → ¬ F x) : ints.Own w' B v zs := by
  refine ⟨h.1, ?_⟩
  rcases h.2 with q | ⟨g, cap, cur, e, hg, hw, r⟩
  · exact Or.inl q
  · have hl := (World.ownsRow.lt h g (by rw [e]; rfl)).2
    exact Or.inr ⟨g, cap, cur, e, hg, (ho.block g hl (hn g (by rw [e]; rfl))).trans hw, r⟩
theorem own_snoc {w : World} {B : Nat} {v : Value} {go : List Int} {t : Int} (h : w.ownsRow B 3 1 v (go.length + 1) (go.map (Value.int .i64) ++ [.int .i64 t])) : ints.Own w B v (go ++ [t]) := by
  unfold ints.Own; simpa using h
theorem Site.far {Wb w : World} {pa : Option Addr} {n pcap : Nat} {st : Int} {cs : Nat → Dv} {g gs : Nat} {m : Int} {c : Cst} {v vo : Value} {B : Nat} {go : List Int} (h : Site Wb w pa n pcap st cs g gs m c v) (ho : ints.Own w B vo go) : ∀ x, vo.ownBlock = some x → ¬ Turn g gs v x := by
  intro x e q
  obtain ⟨d, hd⟩ := h.look
  rcases q with q | q | q
  · subst q; exact int_row ho hd (by decide) e
  · subst q; exact int_row ho h.row (by decide) e
  · exact way_int h.ways ho x q e
theorem Site.grown {Wb w w' : World} {pa : Option Addr} {n pcap : Nat} {st : Int} {cs : Nat → Dv} {g gs : Nat} {m : Int} {c : Cst} {v vo : Value} {go : List Int} {ob : Obj} (h : Site Wb w pa n pcap st cs g gs m c v) (ho : ints.Own w Wb.heap.size vo go) (hg : (w.alloc ob).grownBy w' vo.ownBlock) : Site Wb w' pa n pcap st cs g gs m c v := by
  obtain ⟨d, hd⟩ := h.look
  have far := h.far ho
  have blk : ∀ x, x < w.heap.size → vo.ownBlock ≠ some x → w'.heap[x]? = w.heap[x]? := fun x hx hn => (hg.block x (by simp; omega) (fun e => hn e.symm)).trans (Go.Deep.blk_alloc_lt w _ x hx)
  have s : w.heap.size + 1 ≤ w'.heap.size := by simpa using hg.size
  refine ⟨World.rowIs.of_block h.row (blk _ (World.rowIs.lt h.row) (fun e => far _ e (Or.inr (Or.inl rfl)))), ⟨d, World.rowIs.of_block hd (blk _ (World.rowIs.lt hd) (fun e => far _ e (Or.inl rfl)))⟩, ?_, ?_, h.lg, h.ls⟩
  · refine ⟨h.ways.1, ?_⟩
    rcases h.ways.2 with q | ⟨g2, cap, cur, e, hgb, hw, r⟩
    · exact Or.inl q
    · have hl := (World.ownsRow.lt h.ways g2 (by rw [e]; rfl)).2
      exact Or.inr ⟨g2, cap, cur, e, hgb, (blk g2 hl (fun e2 => far g2 e2 (Or.inr (Or.inr (by rw [e]; rfl))))).trans hw, r⟩
  · exact h.bel.trans ⟨by rw [hg.os]; rfl, by rw [hg.tape]; rfl, by rw [hg.output]; rfl, by omega, fun x hx => blk x (by have := h.bel.size; omega) (fun e => by have := (World.ownsRow.lt ho x e).1; omega)⟩
set_option maxHeartbeats 8000000 in
theorem impl_play (pa : Option Addr) (n pcap : Nat) (cs : Nat → Dv) (st nm : Int) (la : Option Addr) (ll lcap : Nat) (zs : List Int) (d : Bool) (W : World) (hf : Hid (Fits shClassS (.l n 2 cs))) (hs : Hid (szD (.l n 2 cs) ≤ 1048576)) (hh : Hid (Holds W d (.l n 2 cs) (.slice pa n pcap))) (hz : Hid (zs.length = ll)) (hl : ll ≤ 1048576) (hi : Hid (Ints W la zs)) :
    Calls Try.prog 27 #[.agg #[.slice pa n pcap, .int .i64 st], .int .i64 nm, .slice la ll lcap] W fun e W' => PlayAns W cs n st nm zs e W' := by
  obtain ⟨X, hX⟩ : ∃ X, Hid ((W.alloc (.cells #[.slice pa n pcap, .int .i64 st] 29)).alloc (.cells #[.int .i64 0, .int .i64 0, .slice none 0 0, .int .i64 0, .int .i64 0, .int .i64 0] 42) = X) := ⟨_, rfl⟩
  have HX : Hid (Below W.heap.size W X) := by show Below _ _ _; rw [← hX.out]; go_grown
  have HXS : Hid (X.heap.size = W.heap.size + 2) := by show _ = _; rw [← hX.out]; simp
  have HRX : Hid (X.rowIs W.heap.size 29 2 (rowF [.slice pa n pcap, .int .i64 st])) := by show World.rowIs _ _ _ _ _; rw [← hX.out]; exact (row_of W #[.slice pa n pcap, .int .i64 st] _).alloc _
  have HZX : Hid (CBox X (W.heap.size + 1) 0 0 (.slice none 0 0) 0 0 0) := by
    have q := row_of (W.alloc (.cells #[.slice pa n pcap, .int .i64 st] 29)) #[.int .i64 0, .int .i64 0, .slice none 0 0, .int .i64 0, .int .i64 0, .int .i64 0] 42
    rw [show (W.alloc (.cells #[.slice pa n pcap, .int .i64 st] 29)).heap.size = W.heap.size + 1 by simp] at q
    show World.rowIs _ _ _ _ _
    rw [← hX.out]; exact q
  have HHX : Hid (Holds X d (.l n 2 cs) (.slice pa n pcap)) := hh.out.kept HX.out
  have hli := impl_lookupin pa n pcap cs st d X hf hs HHX
  have HNC : Hid (∀ w, Below X.heap.size X w → Calls Try.prog 21 #[.agg #[.slice pa n pcap, .int .i64 st], .int .i64 nm] w fun e W' => e = .returned (.tuple #[.agg #[.int .i64 (nameN cs n st nm), .int .i64 0, .slice none 0 0, .int .i64 (stampN cs n st nm), .int .i64 0, .int .i64 0], .bool (okN cs n st nm)]) ∧ Below w.heap.size w W') := fun w q => impl_newcache pa n pcap cs st nm d w hf hs (HHX.out.kept q)
  have HP : Hid (∀ w, Below X.heap.size X w → w.cell? ⟨W.heap.size, 0, none⟩ = some (.slice pa n pcap) ∧ w.cell? ⟨W.heap.size, 1, none⟩ = some (.int .i64 st)) := fun w q => ⟨(HRX.out.of_block (q.block _ HRX.out.lt)).cell (i := 0) (by decide), (HRX.out.of_block (q.block _ HRX.out.lt)).cell (i := 1) (by decide)⟩
  cases hok : okN cs n st nm
  · have HNO : Hid (okP cs n st nm zs = false) := by show _ = _; unfold okP; rw [hok]; rfl
    obtain ⟨e1, e2⟩ := newN_no hok
    rw [hok, e1, e2] at HNC
    cases hw : worldB cs n st
    · have hli' : Calls Try.prog 42 #[.agg #[.slice pa n pcap, .int .i64 st]] X fun e W' => e = .returned (.tuple #[.pointer none, .bool false]) ∧ Below X.heap.size X W' := hli.mono (fun e W' q => by
        rcases q.2 with r | r
        · exact ⟨r.2, q.1⟩
        · rw [hw] at r; cases r.1)
      clear hli
      go_enter Try.func27, Try.ntmps27
      go_wp2_with fail
      rw [hX.out]
      clear hX
      refine hli'.mono ?_
      rintro e w1 ⟨rfl, hB⟩
      have X1 : Hid (Below X.heap.size X w1) := hB
      clear hB hli'
      obtain ⟨p0, p1⟩ := HP.out w1 X1.out
      go_wp2_with fail
      refine (HNC.out w1 X1.out).mono ?_
      rintro e w2 ⟨rfl, hB2⟩
      have X2 : Hid (Below X.heap.size X w2) := X1.out.trans (hB2.mono X1.out.size)
      clear hB2
      obtain ⟨V, hV⟩ : ∃ V, Hid (w2.alloc (.cells #[.int .i64 0, .int .i64 0, .slice none 0 0, .int .i64 0, .int .i64 0, .int .i64 0] 42) = V) := ⟨_, rfl⟩
      have XV : Hid (Below X.heap.size X V) := by show Below _ _ _; rw [← hV.out]; exact X2.out.alloc X2.out.size _
      have BV : Hid (Below W.heap.size W V) := HX.out.trans (XV.out.mono HX.out.size)
      have ZV : Hid (CBox V (W.heap.size + 1) 0 0 (.slice none 0 0) 0 0 0) := World.rowIs.of_block HZX.out (XV.out.block _ (World.rowIs.lt HZX.out))
      go_upto_region 3 with fail
      rw [hV.out]
      clear hV
      obtain ⟨z0, z1, z2, z3, z4, z5⟩ := (ZV.out).cells
      have fz0 : V.frozen? ⟨W.heap.size + 1, 0, none⟩ = false := World.rowIs.frozen (ZV.out) 0
      have fz1 : V.frozen? ⟨W.heap.size + 1, 1, none⟩ = false := World.rowIs.frozen (ZV.out) 1
      have fz2 : V.frozen? ⟨W.heap.size + 1, 2, none⟩ = false := World.rowIs.frozen (ZV.out) 2
      have fz3 : V.frozen? ⟨W.heap.size + 1, 3, none⟩ = false := World.rowIs.frozen (ZV.out) 3
      have fz4 : V.frozen? ⟨W.heap.size + 1, 4, none⟩ = false := World.rowIs.frozen (ZV.out) 4
      have fz5 : V.frozen? ⟨W.heap.size + 1, 5, none⟩ = false := World.rowIs.frozen (ZV.out) 5
      have lz : W.heap.size + 1 < V.heap.size := World.rowIs.lt (ZV.out)
      go_wp2
      refine bodyPost_ret (v := .tuple #[.agg #[.int .i64 0, .int .i64 0, .slice none 0 0, .int .i64 0, .int .i64 0, .int .i64 0], .slice none 0 0, .bool false]) (by simp only [results, Try.results27]; go_simp) rfl (play_zero HNO.out ?_)
      refine Below.trans BV.out ?_
      iterate 6 refine Below.setCell ?_ (by simp; try omega) _
      exact Below.refl _ _
    · have hli' : Calls Try.prog 42 #[.agg #[.slice pa n pcap, .int .i64 st]] X fun e W' => (∃ g, e = .returned (.tuple #[.pointer (some ⟨g, 0, none⟩), .bool true])) ∧ Below X.heap.size X W' := hli.mono (fun e W' q => by
        rcases q.2 with r | ⟨r, g, r1, r2, r3⟩
        · rw [hw] at r; cases r.1
        · exact ⟨⟨g, r2⟩, q.1⟩)
      clear hli
      go_enter Try.func27, Try.ntmps27
      go_wp2_with fail
      rw [hX.out]
      clear hX
      refine hli'.mono ?_
      rintro e w1 ⟨⟨g, rfl⟩, hB⟩
      have X1 : Hid (Below X.heap.size X w1) := hB
      clear hB hli'
      obtain ⟨p0, p1⟩ := HP.out w1 X1.out
      go_wp2_with fail
      refine (HNC.out w1 X1.out).mono ?_
      rintro e w2 ⟨rfl, hB2⟩
      have X2 : Hid (Below X.heap.size X w2) := X1.out.trans (hB2.mono X1.out.size)
      clear hB2
      obtain ⟨V, hV⟩ : ∃ V, Hid (w2.alloc (.cells #[.int .i64 0, .int .i64 0, .slice none 0 0, .int .i64 0, .int .i64 0, .int .i64 0] 42) = V) := ⟨_, rfl⟩
      have XV : Hid (Below X.heap.size X V) := by show Below _ _ _; rw [← hV.out]; exact X2.out.alloc X2.out.size _
      have BV : Hid (Below W.heap.size W V) := HX.out.trans (XV.out.mono HX.out.size)
      have ZV : Hid (CBox V (W.heap.size + 1) 0 0 (.slice none 0 0) 0 0 0) := World.rowIs.of_block HZX.out (XV.out.block _ (World.rowIs.lt HZX.out))
      go_upto_region 3 with fail
      rw [hV.out]
      clear hV
      obtain ⟨z0, z1, z2, z3, z4, z5⟩ := (ZV.out).cells
      have fz0 : V.frozen? ⟨W.heap.size + 1, 0, none⟩ = false := World.rowIs.frozen (ZV.out) 0
      have fz1 : V.frozen? ⟨W.heap.size + 1, 1, none⟩ = false := World.rowIs.frozen (ZV.out) 1
      have fz2 : V.frozen? ⟨W.heap.size + 1, 2, none⟩ = false := World.rowIs.frozen (ZV.out) 2
      have fz3 : V.frozen? ⟨W.heap.size + 1, 3, none⟩ = false := World.rowIs.frozen (ZV.out) 3
      have fz4 : V.frozen? ⟨W.heap.size + 1, 4, none⟩ = false := World.rowIs.frozen (ZV.out) 4
      have fz5 : V.frozen? ⟨W.heap.size + 1, 5, none⟩ = false := World.rowIs.frozen (ZV.out) 5
      have lz : W.heap.size + 1 < V.heap.size := World.rowIs.lt (ZV.out)
      go_wp2
      refine bodyPost_ret (v := .tuple #[.agg #[.int .i64 0, .int .i64 0, .slice none 0 0, .int .i64 0, .int .i64 0, .int .i64 0], .slice none 0 0, .bool false]) (by simp only [results, Try.results27]; go_simp) rfl (play_zero HNO.out ?_)
      refine Below.trans BV.out ?_
      iterate 6 refine Below.setCell ?_ (by simp; try omega) _
      exact Below.refl _ _
  have HOKN : Hid (okN cs n st nm = true) := hok
  obtain ⟨e1, e2⟩ := newN_yes hok
  rw [hok, e1, e2] at HNC
  have hq : worldB cs n st = true ∧ inR nm 0 4 = true := by unfold okN at hok; simpa using hok
  have hw : Hid (worldB cs n st = true) := hq.1
  obtain ⟨m0, m1⟩ := inR_out hq.2
  obtain ⟨m, rfl⟩ : ∃ q : Nat, nm = (q : Int) := ⟨nm.toNat, by omega⟩
  have hm : m < 5 := by omega
  have hli' : Calls Try.prog 42 #[.agg #[.slice pa n pcap, .int .i64 st]] X fun e W' => ∃ g, e = .returned (.tuple #[.pointer (some ⟨g, 0, none⟩), .bool true]) ∧ X.heap.size ≤ g ∧ LookB W' g pa n pcap st cs false ∧ Below X.heap.size X W' := hli.mono (fun e W' q => by
    rcases q.2 with r | ⟨r, g, r1, r2, r3⟩
    · rw [hw.out] at r; cases r.1
    · exact ⟨g, r2, r1, r3, q.1⟩)
  clear hq e1 e2 hok hli
  go_enter Try.func27, Try.ntmps27
  go_wp2_with fail
  rw [hX.out]
  clear hX
  refine hli'.mono ?_
  rintro e w1 ⟨g, rfl, hg, hL, hB⟩
  have X1 : Hid (Below X.heap.size X w1) := hB
  have L1 : Hid (LookB w1 g pa n pcap st cs false) := hL
  clear hB hL hli'
  obtain ⟨p0, p1⟩ := HP.out w1 X1.out
  go_wp2_with fail
  refine (HNC.out w1 X1.out).mono ?_
  rintro e w2 ⟨rfl, hB2⟩
  have X2 : Hid (Below X.heap.size X w2) := X1.out.trans (hB2.mono X1.out.size)
  have L2 : Hid (LookB w2 g pa n pcap st cs false) := World.rowIs.of_block L1.out (hB2.block _ (World.rowIs.lt L1.out))
  clear hB2 p0 p1
  obtain ⟨V, hV⟩ : ∃ V, Hid (w2.alloc (.cells #[.int .i64 (m : Int), .int .i64 0, .slice none 0 0, .int .i64 st, .int .i64 0, .int .i64 0] 42) = V) := ⟨_, rfl⟩
  have VB : Hid (Below w2.heap.size w2 V) := by show Below _ _ _; rw [← hV.out]; repeat (first | exact Below.refl _ _ | refine Below.drew ?_ | refine Below.setCell ?_ (by simp; try omega) _ | refine Below.alloc ?_ (by simp; try omega) _)
  have XV : Hid (Below X.heap.size X V) := X2.out.trans (VB.out.mono X2.out.size)
  have BV : Hid (Below W.heap.size W V) := HX.out.trans (XV.out.mono HX.out.size)
  have LV : Hid (LookB V g pa n pcap st cs false) := World.rowIs.of_block L2.out (VB.out.block _ (World.rowIs.lt L2.out))
  have ZV : Hid (CBox V (W.heap.size + 1) 0 0 (.slice none 0 0) 0 0 0) := World.rowIs.of_block HZX.out (XV.out.block _ (World.rowIs.lt HZX.out))
  have CV : Hid (CBox V w2.heap.size (m : Int) 0 (.slice none 0 0) st 0 0) := by show World.rowIs _ _ _ _ _; rw [← hV.out]; exact row_of w2 #[.int .i64 (m : Int), .int .i64 0, .slice none 0 0, .int .i64 st, .int .i64 0, .int .i64 0] _
  go_upto_region 3 with fail
  rw [hV.out]
  clear hV
  by_cases h100 : 100 < ll
  · have HNO : Hid (okP cs n st (m : Int) zs = false) := by show _ = _; unfold okP; rw [hz.out, decide_eq_false (show ¬ ll ≤ 100 by omega)]; simp
    have h100I : (100 : Int) < (ll : Int) := by omega
    obtain ⟨z0, z1, z2, z3, z4, z5⟩ := (ZV.out).cells
    have fz0 : V.frozen? ⟨W.heap.size + 1, 0, none⟩ = false := World.rowIs.frozen (ZV.out) 0
    have fz1 : V.frozen? ⟨W.heap.size + 1, 1, none⟩ = false := World.rowIs.frozen (ZV.out) 1
    have fz2 : V.frozen? ⟨W.heap.size + 1, 2, none⟩ = false := World.rowIs.frozen (ZV.out) 2
    have fz3 : V.frozen? ⟨W.heap.size + 1, 3, none⟩ = false := World.rowIs.frozen (ZV.out) 3
    have fz4 : V.frozen? ⟨W.heap.size + 1, 4, none⟩ = false := World.rowIs.frozen (ZV.out) 4
    have fz5 : V.frozen? ⟨W.heap.size + 1, 5, none⟩ = false := World.rowIs.frozen (ZV.out) 5
    have lz : W.heap.size + 1 < V.heap.size := World.rowIs.lt (ZV.out)
    go_wp2
    refine bodyPost_ret (v := .tuple #[.agg #[.int .i64 0, .int .i64 0, .slice none 0 0, .int .i64 0, .int .i64 0, .int .i64 0], .slice none 0 0, .bool false]) (by simp only [results, Try.results27]; go_simp) rfl (play_zero HNO.out ?_)
    refine Below.trans BV.out ?_
    iterate 6 refine Below.setCell ?_ (by simp; try omega) _
    exact Below.refl _ _
  have h100I : (ll : Int) ≤ 100 := by omega
  have d100 : decide ((100 : Int) < (ll : Int)) = false := decide_eq_false (by omega)
  have HOKP : Hid (allB cs n m (fun i => zs.getD i 0) ll = true → okP cs n st (m : Int) zs = true) := fun q => by unfold okP; rw [HOKN.out, hz.out, decide_eq_true (show ll ≤ 100 by omega), Int.toNat_natCast, q]; rfl
  have HNOP : Hid (allB cs n m (fun i => zs.getD i 0) ll = false → okP cs n st (m : Int) zs = false) := fun q => by unfold okP; rw [hz.out, Int.toNat_natCast, q]; simp
  have HOK : Hid (∀ k, k < n → ClassOk cs k) := (world_out hw.out).2.2
  obtain ⟨u0, u1, u2, u3, u4, u5⟩ := CV.out.cells
  go_wp2_with fail
  refine (impl_siteof pa n pcap st cs g (m : Int) false V LV).mono ?_
  rintro e w3 ⟨rfl, hSO⟩
  have X3 : Hid (Below X.heap.size X w3) := XV.out.trans (hSO.bel.mono XV.out.size)
  obtain ⟨gs, HGS⟩ : ∃ gs, Hid (V.heap.size + 1 = gs) := ⟨_, rfl⟩
  have S3 : Hid (Site X w3 pa n pcap st cs g gs (m : Int) ⟨0, 0, [], 0, 0⟩ (.slice none 0 0)) := by
    refine ⟨?_, ⟨false, World.rowIs.of_block LV.out (hSO.bel.block _ (World.rowIs.lt LV.out))⟩, OwnW.nil _ _, X3.out, hg, ?_⟩
    · have q := hSO.row
      rw [HGS.out] at q
      exact q
    · have q := XV.out.size
      have q2 := HGS.out
      omega
  rw [HGS.out]
  clear hSO u0 u1 u2 u3 u4 u5
  go_wp2
  go_loopw [14, 47] (fun vo vi wr => ∃ i : Nat, i ≤ ll ∧ vi = .int .i64 i ∧ Hid (allB cs n m (fun i => zs.getD i 0) i = true) ∧ Hid (∃ v, Site X wr pa n pcap st cs g gs (m : Int) (playS cs m (fun i => zs.getD i 0) i) v) ∧ Hid (ints.Own wr X.heap.size vo (goneTo cs m zs i))) (fun _ vi _ => ll - (intOf vi).toNat)
  case atStart => exact ⟨0, Nat.zero_le _, rfl, rfl, ⟨_, S3.out⟩, own_nil _ _⟩
  case round =>
    obtain ⟨i, hil, rfl, HA, HSX, HO⟩ := hrel
    obtain ⟨v, hSv⟩ := HSX.out
    have HS : Hid (Site X wr pa n pcap st cs g gs (m : Int) (playS cs m (fun i => zs.getD i 0) i) v) := hSv
    clear hSv HSX
    obtain ⟨hgc, hsum, hh0, hk0⟩ := play_good HOK.out hm HA.out
    have HGC : Hid (GoodC cs n m (playS cs m (fun i => zs.getD i 0) i)) := hgc
    clear hgc
    have HBR : Hid (Below W.heap.size W wr) := HX.out.trans (HS.out.bel.mono HX.out.size)
    by_cases hlt : i < ll
    rotate_left
    · have e : i = ll := by omega
      subst e
      have HY : Hid (okP cs n st (m : Int) zs = true) := HOKP.out HA.out
      obtain ⟨a, cap, hv, _, _, _⟩ := HS.out.ways.form
      subst hv
      obtain ⟨ga, gcap, hvo, _⟩ := HO.out.mine
      subst hvo
      have hcc := impl_cacheof X pa n pcap st cs g gs (m : Int) (playS cs m (fun i => zs.getD i 0) i) a cap wr HS
      have HRES : Hid (∀ w6, Below wr.heap.size wr w6 → ∀ u0 u1 u2 u3 u4 u5, PlayAns W cs n st (m : Int) zs (.returned (.tuple #[.agg #[.int .i64 (m : Int), .int .i64 (playS cs m (fun i => zs.getD i 0) i).s, .slice a (playS cs m (fun i => zs.getD i 0) i).l cap, .int .i64 st, .int .i64 (playS cs m (fun i => zs.getD i 0) i).h, .int .i64 (playS cs m (fun i => zs.getD i 0) i).lk], .slice ga (goneTo cs m zs i).length gcap, .bool true])) ((((((w6.setCell ⟨W.heap.size + 1, 0, none⟩ u0).setCell ⟨W.heap.size + 1, 1, none⟩ u1).setCell ⟨W.heap.size + 1, 2, none⟩ u2).setCell ⟨W.heap.size + 1, 3, none⟩ u3).setCell ⟨W.heap.size + 1, 4, none⟩ u4).setCell ⟨W.heap.size + 1, 5, none⟩ u5)) := fun w6 hb6 u0 u1 u2 u3 u4 u5 => by
        obtain ⟨y1, y2, y3, y4⟩ := play_yes HY.out
        have lo := HXS.out
        have g1 : W.heap.size + 1 < X.heap.size := by omega
        have q : W.heap.size ≤ W.heap.size + 1 := by omega
        have blk : ∀ x, x ≠ W.heap.size + 1 → ((((((w6.setCell ⟨W.heap.size + 1, 0, none⟩ u0).setCell ⟨W.heap.size + 1, 1, none⟩ u1).setCell ⟨W.heap.size + 1, 2, none⟩ u2).setCell ⟨W.heap.size + 1, 3, none⟩ u3).setCell ⟨W.heap.size + 1, 4, none⟩ u4).setCell ⟨W.heap.size + 1, 5, none⟩ u5).heap[x]? = w6.heap[x]? := fun x hx => (Below.heap_setCell _ _ _ _ hx).trans ((Below.heap_setCell _ _ _ _ hx).trans ((Below.heap_setCell _ _ _ _ hx).trans ((Below.heap_setCell _ _ _ _ hx).trans ((Below.heap_setCell _ _ _ _ hx).trans (Below.heap_setCell _ _ _ _ hx)))))
        have B6 : Below W.heap.size W w6 := HBR.out.trans (hb6.mono HBR.out.size)
        have s6 := HS.out.kept hb6
        have o6 := own_keep (w' := w6) HO.out (fun x _ hx => hb6.block x hx)
        rw [Int.toNat_natCast] at y1 y2
        rw [hz.out] at y1 y2
        refine ⟨a, cap, ga, gcap, ?_, ?_, ?_, (((((B6.setCell q _).setCell q _).setCell q _).setCell q _).setCell q _).setCell q _⟩
        · rw [y1, y2, y3, y4, HY.out]
        · rw [y1]
          exact ((((((s6.ways.set g1 _).set g1 _).set g1 _).set g1 _).set g1 _).set g1 _).low (by omega)
        · rw [y2]
          exact own_low (own_keep o6 (fun x hx _ => blk x (by omega))) (by omega)
      go_wp2_with fail
      refine hcc.mono ?_
      rintro e w6 ⟨rfl, hB6⟩
      have HR6 := (show Hid _ from HRES.out w6 hB6)
      have X6 : Hid (Below X.heap.size X w6) := HS.out.bel.trans (hB6.mono HS.out.bel.size)
      have Z6 : Hid (CBox w6 (W.heap.size + 1) 0 0 (.slice none 0 0) 0 0 0) := World.rowIs.of_block HZX.out (X6.out.block _ (World.rowIs.lt HZX.out))
      clear hB6 hcc HRES
      obtain ⟨z0, z1, z2, z3, z4, z5⟩ := (Z6.out).cells
      have fz0 : w6.frozen? ⟨W.heap.size + 1, 0, none⟩ = false := World.rowIs.frozen (Z6.out) 0
      have fz1 : w6.frozen? ⟨W.heap.size + 1, 1, none⟩ = false := World.rowIs.frozen (Z6.out) 1
      have fz2 : w6.frozen? ⟨W.heap.size + 1, 2, none⟩ = false := World.rowIs.frozen (Z6.out) 2
      have fz3 : w6.frozen? ⟨W.heap.size + 1, 3, none⟩ = false := World.rowIs.frozen (Z6.out) 3
      have fz4 : w6.frozen? ⟨W.heap.size + 1, 4, none⟩ = false := World.rowIs.frozen (Z6.out) 4
      have fz5 : w6.frozen? ⟨W.heap.size + 1, 5, none⟩ = false := World.rowIs.frozen (Z6.out) 5
      have lz : W.heap.size + 1 < w6.heap.size := World.rowIs.lt (Z6.out)
      go_wp2
      refine bodyPost_ret (v := .tuple #[.agg #[.int .i64 (m : Int), .int .i64 (playS cs m (fun i => zs.getD i 0) i).s, .slice a (playS cs m (fun i => zs.getD i 0) i).l cap, .int .i64 st, .int .i64 (playS cs m (fun i => zs.getD i 0) i).h, .int .i64 (playS cs m (fun i => zs.getD i 0) i).lk], .slice ga (goneTo cs m zs i).length gcap, .bool true]) (by simp only [results, Try.results27]; go_simp) rfl ?_
      exact HR6.out _ _ _ _ _ _
    have hltI : (i : Int) < (ll : Int) := by omega
    obtain ⟨b', o', ha', hc'⟩ := hi.out.at HBR.out (k := i) (by rw [hz.out]; exact hlt)
    obtain ⟨k, HK⟩ : ∃ k, Hid (zs.getD i 0 = k) := ⟨_, rfl⟩
    rw [HK.out] at hc'
    subst ha'
    have hcb := impl_call X pa n pcap st cs g gs m k (playS cs m (fun i => zs.getD i 0) i) v d wr hf hw HHX hm HGC hh0 (by omega) hk0 (by omega) HS
    have HSC : Hid (playS cs m (fun i => zs.getD i 0) (i + 1) = callS (findC cs k m) k (playS cs m (fun i => zs.getD i 0) i)) := by show _ = _; rw [← HK.out]; rfl
    have HAC : Hid (allB cs n m (fun i => zs.getD i 0) (i + 1) = hasB cs n m k) := by show _ = _; rw [← HK.out]; show (allB _ _ _ _ i && _) = _; rw [HA.out]; rfl
    have HGO : Hid (goneTo cs m zs (i + 1) = goneTo cs m zs i ++ [findC cs k m]) := by show _ = _; rw [← HK.out]; exact gone_succ cs m zs i
    have HNB : Hid (hasB cs n m k = false → okP cs n st (m : Int) zs = false) := fun q => HNOP.out (all_no (i := i) (by rw [HK.out]; exact q) hlt)
    have hgl : (goneTo cs m zs i).length = i := gone_len _ _ _ _
    go_wp2_with fail
    refine hcb.mono ?_
    rintro e w4 hcc
    rcases hcc with ⟨hhas, rfl, v', hS4, hO4, _⟩ | ⟨hhas, rfl, hO4⟩
    rotate_left
    · have HNO : Hid (okP cs n st (m : Int) zs = false) := HNB.out hhas
      have X4 : Hid (Below X.heap.size X w4) := HS.out.bel.trans (hO4.below HS.out.bel.size (fun x hx => by
        rcases hx with q | q | q
        · rw [q]; exact HS.out.lg
        · rw [q]; exact HS.out.ls
        · exact (World.ownsRow.lt HS.out.ways x q).1))
      have Z4 : Hid (CBox w4 (W.heap.size + 1) 0 0 (.slice none 0 0) 0 0 0) := World.rowIs.of_block HZX.out (X4.out.block _ (World.rowIs.lt HZX.out))
      have B4 : Hid (Below W.heap.size W w4) := HX.out.trans (X4.out.mono HX.out.size)
      clear hcb
      obtain ⟨z0, z1, z2, z3, z4, z5⟩ := (Z4.out).cells
      have fz0 : w4.frozen? ⟨W.heap.size + 1, 0, none⟩ = false := World.rowIs.frozen (Z4.out) 0
      have fz1 : w4.frozen? ⟨W.heap.size + 1, 1, none⟩ = false := World.rowIs.frozen (Z4.out) 1
      have fz2 : w4.frozen? ⟨W.heap.size + 1, 2, none⟩ = false := World.rowIs.frozen (Z4.out) 2
      have fz3 : w4.frozen? ⟨W.heap.size + 1, 3, none⟩ = false := World.rowIs.frozen (Z4.out) 3
      have fz4 : w4.frozen? ⟨W.heap.size + 1, 4, none⟩ = false := World.rowIs.frozen (Z4.out) 4
      have fz5 : w4.frozen? ⟨W.heap.size + 1, 5, none⟩ = false := World.rowIs.frozen (Z4.out) 5
      have lz : W.heap.size + 1 < w4.heap.size := World.rowIs.lt (Z4.out)
      go_wp2
      refine bodyPost_ret (v := .tuple #[.agg #[.int .i64 0, .int .i64 0, .slice none 0 0, .int .i64 0, .int .i64 0, .int .i64 0], .slice none 0 0, .bool false]) (by simp only [results, Try.results27]; go_simp) rfl (play_zero HNO.out ?_)
      refine Below.trans B4.out ?_
      iterate 6 refine Below.setCell ?_ (by simp; try omega) _
      exact Below.refl _ _
    · have S4 : Hid (Site X w4 pa n pcap st cs g gs (m : Int) (callS (findC cs k m) k (playS cs m (fun i => zs.getD i 0) i)) v') := hS4
      have OG : Hid (ints.Own w4 X.heap.size _ (goneTo cs m zs i)) := own_only HO.out hO4 (HS.out.far HO.out)
      rw [hhas] at HAC
      obtain ⟨t, HT⟩ : ∃ t, Hid (findC cs k m = t) := ⟨_, rfl⟩
      obtain ⟨c', HC'⟩ : ∃ c', Hid (callS (findC cs k m) k (playS cs m (fun i => zs.getD i 0) i) = c') := ⟨_, rfl⟩
      rw [HC'.out] at HSC S4
      rw [HT.out] at HGO ⊢
      have OA := (show Hid _ from own_keep (w' := w4.alloc (.cells #[.int .i64 t] 3)) OG.out (fun x _ hx => Go.Deep.blk_alloc_lt w4 _ x hx))
      obtain ⟨i0, hi0, hz00, hz01, hz02⟩ := parts_of (P := Try.prog) (e := 3) (z := .int .i64 0) (a := 1) (b := 8) (by kernel_rfl)
      have big4 : X.heap.size ≤ (w4.alloc (.cells #[.int .i64 t] 3)).heap.size := by have := S4.out.bel.size; simp; omega
      have l63 : (goneTo cs m zs i).length + 1 ≤ maxLen := by unfold maxLen; omega
      have lby : ((goneTo cs m zs i).length + 1) * 8 ≤ 140737488355328 := by omega
      clear hcb hS4 hO4
      go_wp2_with (at_builtin; refine wpList_append_own_at _ rfl _ _ 48 rfl X.heap.size 3 i0 (.int .i64 0) 1 8 Try.underlying48 hi0 hz00 hz01 hz02 rfl (by decide) _ (goneTo cs m zs i).length ((goneTo cs m zs i).map (Value.int .i64)) rfl OA.out ⟨w4.heap.size, 0, none⟩ 1 1 [.int .i64 t] rfl rfl (new_one w4 t _) (one_of t) l63 lby big4 ?_; intro vo' w5 ho5 hg5 _ _; have S5 := (show Hid _ from S4.out.grown OG.out hg5); have O5 := (show Hid (ints.Own w5 X.heap.size vo' (goneTo cs m zs i ++ [t])) from own_snoc ho5); clear ho5 hg5)
      go_roundw
      case rel => exact ⟨i + 1, by omega, by go_num, HAC, ⟨_, by rw [HSC.out]; exact S5.out⟩, by rw [HGO.out]; exact O5⟩
      case measure => simp [intOf]; omega
end Go.Proofs.Yticgipmaflhplaa.walks
