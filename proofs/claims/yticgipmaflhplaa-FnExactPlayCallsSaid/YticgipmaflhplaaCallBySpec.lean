/-
  What the specification's CallBy answers of a cache with the world's Stamp.
-/
import Derived.Test.YticgipmaflhplaaProg
import Derived.Test.YticgipmaflhplaaMagMath
import Derived.Test.YticgipmaflhplaaWorldMath
import Derived.Test.YticgipmaflhplaaCacheMath
import Derived.Test.YticgipmaflhplaaPlayMath
import Derived.Test.YticgipmaflhplaaInts
import Derived.Test.YticgipmaflhplaaDeep
import Derived.Test.YticgipmaflhplaaDeepRow
import Derived.Test.YticgipmaflhplaaDeepC
import Derived.Test.YticgipmaflhplaaWorldSpec
import Derived.Test.YticgipmaflhplaaCacheYes
import Derived.Test.YticgipmaflhplaaCallSpec
import Derived.WalkKit
import Derived.WalkSpells
import Derived.Below
import Derived.Handy
import Derived.Deep.DeepFit
import Derived.Deep.DeepCutAuto
namespace Go.Proofs.Yticgipmaflhplaa.walks
open Go.RowKit Go.Proofs.Yticgipmaflhplaa.math Go.Proofs.Yticgipmaflhplaa.ints Go.Proofs.Yticgipmaflhplaa.deep
set_option linter.unusedVariables false
set_option maxRecDepth 100000

def ByAns (W : World) (m st : Int) (c : Cst) (t : Int) (ok : Bool) (e : Ending) (W' : World) : Prop := Below W.heap.size W W' ∧ ((ok = true ∧ ∃ a cap, e = .returned (.tuple #[.agg #[.int .i64 m, .int .i64 c.s, .slice a c.l cap, .int .i64 st, .int .i64 c.h, .int .i64 c.lk], .int .i64 t, .bool true]) ∧ OwnW W' W.heap.size (.slice a c.l cap) c.l c.zs) ∨ (ok = false ∧ e = .returned (.tuple #[.agg #[.int .i64 0, .int .i64 0, .slice none 0 0, .int .i64 0, .int .i64 0, .int .i64 0], .int .i64 0, .bool false])))
set_option maxHeartbeats 8000000 in
theorem spec_callby (pa : Option Addr) (n pcap : Nat) (cs : Nat → Dv) (st : Int) (m : Nat) (k : Int) (c : Cst) (a : Option Addr) (cap : Nat) (d : Bool) (W : World) (hf : Hid (Fits shClassS (.l n 2 cs))) (hs : Hid (szD (.l n 2 cs) ≤ 1048576)) (hh : Hid (Holds W d (.l n 2 cs) (.slice pa n pcap))) (hw : Hid (worldB cs n st = true)) (hm : m < 5)
    (g : Hid (GoodC cs n m c)) (h0 : 0 ≤ c.h) (h1 : c.h ≤ 999) (k0 : 0 ≤ c.lk) (k1 : c.lk ≤ 999) (hcap : c.l ≤ cap) (hna : a = none → c.l = 0) (hc : Hid (Ints W a c.zs)) :
    Calls Try.prog 53 #[.agg #[.slice pa n pcap, .int .i64 st], .agg #[.int .i64 (m : Int), .int .i64 c.s, .slice a c.l cap, .int .i64 st, .int .i64 c.h, .int .i64 c.lk], .int .i64 k] W fun e W' => ByAns W (m : Int) st (callS (findC cs k m) k c) (findC cs k m) (hasB cs n m k) e W' := by
  obtain ⟨⟨hn0, hn1⟩, ⟨st0, st1⟩, hok⟩ := world_out hw.out
  have HOK : Hid (∀ k, k < n → ClassOk cs k) := hok
  clear hok
  have hn : n ≤ 1048576 := by omega
  have HG := g
  have HG1 : Hid (∀ w, Below W.heap.size W w → Calls Try.prog 65 #[.agg #[.slice pa n pcap, .int .i64 st], .agg #[.int .i64 (m : Int), .int .i64 c.s, .slice a c.l cap, .int .i64 st, .int .i64 c.h, .int .i64 c.lk]] w fun e W' => e = .returned (.bool true) ∧ Below w.heap.size w W') := fun w q => spec_good_yes pa n pcap cs st m c a cap d w hf hs (hh.out.kept q) hw hm g h0 (by omega) k0 (by omega) hcap (hc.out.kept q)
  have HL1 : Hid (∀ w t, Below W.heap.size W w → Calls Try.prog 66 #[.agg #[.slice pa n pcap, .int .i64 st], .agg #[.int .i64 (m : Int), .int .i64 c.s, .slice a c.l cap, .int .i64 st, .int .i64 c.h, .int .i64 c.lk], .int .i64 k, .int .i64 t] w fun e W' => CallAns w (m : Int) st (callS t k c) e W') := fun w t q => spec_l12call pa n pcap st (m : Int) k t c a cap w g.out.len g.out.few hna h0 (by omega) k0 (by omega) (hc.out.kept q)
  have HCN : Hid (∀ t, (callS t k c).h ≤ c.h + 1 ∧ (callS t k c).lk ≤ c.lk + 1 ∧ 0 ≤ (callS t k c).h ∧ 0 ≤ (callS t k c).lk) := fun t => by
    have q := call_counts t k c
    omega
  have HGS : Hid (hasB cs n m k = true → GoodC cs n m (callS (findC cs k m) k c)) := fun q => by
    obtain ⟨⟨r0, r1⟩, r2, r3⟩ := has_out HOK.out hm q
    exact g.out.step r0 r1 rfl r2 r3
  obtain ⟨t, HT⟩ : ∃ t, Hid (findC cs k m = t) := ⟨_, rfl⟩
  rw [HT.out] at HGS ⊢
  obtain ⟨R, HR⟩ : ∃ R, Hid (callS t k c = R) := ⟨_, rfl⟩
  rw [HR.out] at HGS ⊢
  obtain ⟨s, l, zs, h, lk⟩ := c
  have HG1 : Hid (∀ w, Below W.heap.size W w → Calls Try.prog 65 #[.agg #[.slice pa n pcap, .int .i64 st], .agg #[.int .i64 (m : Int), .int .i64 s, .slice a l cap, .int .i64 st, .int .i64 h, .int .i64 lk]] w fun e W' => e = .returned (.bool true) ∧ Below w.heap.size w W') := HG1
  have HL1 : Hid (∀ w t, Below W.heap.size W w → Calls Try.prog 66 #[.agg #[.slice pa n pcap, .int .i64 st], .agg #[.int .i64 (m : Int), .int .i64 s, .slice a l cap, .int .i64 st, .int .i64 h, .int .i64 lk], .int .i64 k, .int .i64 t] w fun e W' => CallAns w (m : Int) st (callS t k ⟨s, l, zs, h, lk⟩) e W') := HL1
  have h1 : h ≤ 999 := h1
  have k1 : lk ≤ 999 := k1
  have HCN : Hid (∀ t, (callS t k ⟨s, l, zs, h, lk⟩).h ≤ h + 1 ∧ (callS t k ⟨s, l, zs, h, lk⟩).lk ≤ lk + 1 ∧ 0 ≤ (callS t k ⟨s, l, zs, h, lk⟩).h ∧ 0 ≤ (callS t k ⟨s, l, zs, h, lk⟩).lk) := HCN
  show Calls _ _ #[_, .agg #[.int .i64 (m : Int), .int .i64 s, .slice a l cap, .int .i64 st, .int .i64 h, .int .i64 lk], _] _ _
  clear g HG
  obtain ⟨X, hX⟩ : ∃ X, Hid (((W.alloc (.cells #[.slice pa n pcap, .int .i64 st] 29)).alloc (.cells #[.int .i64 (m : Int), .int .i64 s, .slice a l cap, .int .i64 st, .int .i64 h, .int .i64 lk] 42)).alloc (.cells #[.int .i64 0, .int .i64 0, .slice none 0 0, .int .i64 0, .int .i64 0, .int .i64 0] 42) = X) := ⟨_, rfl⟩
  have HX : Hid (Below W.heap.size W X) := by show Below _ _ _; rw [← hX.out]; go_grown
  have HXS : Hid (X.heap.size = W.heap.size + 3) := by show _ = _; rw [← hX.out]; simp
  have HRX : Hid (X.rowIs W.heap.size 29 2 (rowF [.slice pa n pcap, .int .i64 st])) := by show World.rowIs _ _ _ _ _; rw [← hX.out]; exact ((row_of W #[.slice pa n pcap, .int .i64 st] _).alloc _).alloc _
  have HCX : Hid (CBox X (W.heap.size + 1) (m : Int) s (.slice a l cap) st h lk) := by
    have q := row_of (W.alloc (.cells #[.slice pa n pcap, .int .i64 st] 29)) #[.int .i64 (m : Int), .int .i64 s, .slice a l cap, .int .i64 st, .int .i64 h, .int .i64 lk] 42
    rw [show (W.alloc (.cells #[.slice pa n pcap, .int .i64 st] 29)).heap.size = W.heap.size + 1 by simp] at q
    show World.rowIs _ _ _ _ _
    rw [← hX.out]; exact q.alloc _
  have HZX : Hid (CBox X (W.heap.size + 2) 0 0 (.slice none 0 0) 0 0 0) := by
    have q := row_of ((W.alloc (.cells #[.slice pa n pcap, .int .i64 st] 29)).alloc (.cells #[.int .i64 (m : Int), .int .i64 s, .slice a l cap, .int .i64 st, .int .i64 h, .int .i64 lk] 42)) #[.int .i64 0, .int .i64 0, .slice none 0 0, .int .i64 0, .int .i64 0, .int .i64 0] 42
    rw [show ((W.alloc (.cells #[.slice pa n pcap, .int .i64 st] 29)).alloc (.cells #[.int .i64 (m : Int), .int .i64 s, .slice a l cap, .int .i64 st, .int .i64 h, .int .i64 lk] 42)).heap.size = W.heap.size + 2 by simp] at q
    show World.rowIs _ _ _ _ _
    rw [← hX.out]; exact q
  have hcg := HG1.out X HX.out
  go_enter Try.func53, Try.ntmps53
  go_wp2_with fail
  rw [hX.out]
  clear hX
  refine hcg.mono ?_
  rintro e w1 ⟨rfl, hB⟩
  have B1X : Hid (Below X.heap.size X w1) := hB
  clear hB hcg
  have B1R := HRX.out.of_block (B1X.out.block _ HRX.out.lt)
  have B1C : CBox w1 (W.heap.size + 1) (m : Int) s (.slice a l cap) st h lk := World.rowIs.of_block HCX.out (B1X.out.block _ (World.rowIs.lt HCX.out))
  have B1Z : CBox w1 (W.heap.size + 2) 0 0 (.slice none 0 0) 0 0 0 := World.rowIs.of_block HZX.out (B1X.out.block _ (World.rowIs.lt HZX.out))
  have p0 : w1.cell? ⟨W.heap.size, 0, none⟩ = some (.slice pa n pcap) := B1R.cell (i := 0) (by decide)
  have p1 : w1.cell? ⟨W.heap.size, 1, none⟩ = some (.int .i64 st) := B1R.cell (i := 1) (by decide)
  obtain ⟨q0, q1, q2, q3, q4, q5⟩ := B1C.cells
  cases hk : inR k 0 ((n : Int) - 1)
  · have HNO : Hid (hasB cs n m k = false) := by show _ = _; unfold hasB; rw [hk]; rfl
    go_wp2_with fail
    refine (spec_class hk hn w1).mono ?_
    rintro e w2 ⟨rfl, hB⟩
    have B2X : Hid (Below X.heap.size X w2) := B1X.out.trans (hB.mono B1X.out.size)
    clear hB p0 p1 q0 q1 q2 q3 q4 q5
    have B2R := HRX.out.of_block (B2X.out.block _ HRX.out.lt)
    have B2C : CBox w2 (W.heap.size + 1) (m : Int) s (.slice a l cap) st h lk := World.rowIs.of_block HCX.out (B2X.out.block _ (World.rowIs.lt HCX.out))
    have B2Z : CBox w2 (W.heap.size + 2) 0 0 (.slice none 0 0) 0 0 0 := World.rowIs.of_block HZX.out (B2X.out.block _ (World.rowIs.lt HZX.out))
    have p0 : w2.cell? ⟨W.heap.size, 0, none⟩ = some (.slice pa n pcap) := B2R.cell (i := 0) (by decide)
    have p1 : w2.cell? ⟨W.heap.size, 1, none⟩ = some (.int .i64 st) := B2R.cell (i := 1) (by decide)
    obtain ⟨q0, q1, q2, q3, q4, q5⟩ := B2C.cells
    obtain ⟨z0, z1, z2, z3, z4, z5⟩ := (B2Z).cells
    have fz0 : w2.frozen? ⟨W.heap.size + 2, 0, none⟩ = false := World.rowIs.frozen B2Z 0
    have fz1 : w2.frozen? ⟨W.heap.size + 2, 1, none⟩ = false := World.rowIs.frozen B2Z 1
    have fz2 : w2.frozen? ⟨W.heap.size + 2, 2, none⟩ = false := World.rowIs.frozen B2Z 2
    have fz3 : w2.frozen? ⟨W.heap.size + 2, 3, none⟩ = false := World.rowIs.frozen B2Z 3
    have fz4 : w2.frozen? ⟨W.heap.size + 2, 4, none⟩ = false := World.rowIs.frozen B2Z 4
    have fz5 : w2.frozen? ⟨W.heap.size + 2, 5, none⟩ = false := World.rowIs.frozen B2Z 5
    have lz : W.heap.size + 2 < w2.heap.size := World.rowIs.lt B2Z
    go_wp2
    refine bodyPost_ret (v := .tuple #[.agg #[.int .i64 0, .int .i64 0, .slice none 0 0, .int .i64 0, .int .i64 0, .int .i64 0], .int .i64 0, .bool false]) (by simp only [results, Try.results53]; go_simp) rfl ?_
    rw [HNO.out]
    refine ⟨?_, Or.inr ⟨rfl, rfl⟩⟩
    refine Below.trans (HX.out.trans (B2X.out.mono HX.out.size)) ?_
    iterate 6 refine Below.setCell ?_ (by simp; try omega) _
    exact Below.refl _ _
  obtain ⟨r0, r1⟩ := inR_out hk
  go_wp2_with fail
  refine (spec_class hk hn w1).mono ?_
  rintro e w2 ⟨rfl, hB⟩
  have B2X : Hid (Below X.heap.size X w2) := B1X.out.trans (hB.mono B1X.out.size)
  clear hB p0 p1 q0 q1 q2 q3 q4 q5
  have B2R := HRX.out.of_block (B2X.out.block _ HRX.out.lt)
  have B2C : CBox w2 (W.heap.size + 1) (m : Int) s (.slice a l cap) st h lk := World.rowIs.of_block HCX.out (B2X.out.block _ (World.rowIs.lt HCX.out))
  have B2Z : CBox w2 (W.heap.size + 2) 0 0 (.slice none 0 0) 0 0 0 := World.rowIs.of_block HZX.out (B2X.out.block _ (World.rowIs.lt HZX.out))
  have p0 : w2.cell? ⟨W.heap.size, 0, none⟩ = some (.slice pa n pcap) := B2R.cell (i := 0) (by decide)
  have p1 : w2.cell? ⟨W.heap.size, 1, none⟩ = some (.int .i64 st) := B2R.cell (i := 1) (by decide)
  obtain ⟨q0, q1, q2, q3, q4, q5⟩ := B2C.cells
  have HFD : Hid (∀ w, Below W.heap.size W w → Calls Try.prog 41 #[.agg #[.slice pa n pcap, .int .i64 st], .int .i64 k, .int .i64 (m : Int)] w fun e W' => e = .returned (.int .i64 t) ∧ Below w.heap.size w W') := fun w q => by
    have r := spec_find pa n pcap cs st k m d w hf hw (by omega) (by omega) hm (hh.out.kept q)
    rw [HT.out] at r
    exact r
  have HHB : Hid (hasB cs n m k = decide (0 < t)) := by show _ = _; unfold hasB; rw [hk, HT.out]; rfl
  have t0 : 0 ≤ t := by
    have q := (find_le HOK.out hm (k.toNat + 2) k (by omega)).1
    have q2 : 0 ≤ findC cs k m := q
    rw [HT.out] at q2; exact q2
  go_wp2_with fail
  refine (HFD.out w2 (HX.out.trans (B2X.out.mono HX.out.size))).mono ?_
  rintro e w3 ⟨rfl, hB⟩
  have B3X : Hid (Below X.heap.size X w3) := B2X.out.trans (hB.mono B2X.out.size)
  clear hB p0 p1 q0 q1 q2 q3 q4 q5
  have B3R := HRX.out.of_block (B3X.out.block _ HRX.out.lt)
  have B3C : CBox w3 (W.heap.size + 1) (m : Int) s (.slice a l cap) st h lk := World.rowIs.of_block HCX.out (B3X.out.block _ (World.rowIs.lt HCX.out))
  have B3Z : CBox w3 (W.heap.size + 2) 0 0 (.slice none 0 0) 0 0 0 := World.rowIs.of_block HZX.out (B3X.out.block _ (World.rowIs.lt HZX.out))
  have p0 : w3.cell? ⟨W.heap.size, 0, none⟩ = some (.slice pa n pcap) := B3R.cell (i := 0) (by decide)
  have p1 : w3.cell? ⟨W.heap.size, 1, none⟩ = some (.int .i64 st) := B3R.cell (i := 1) (by decide)
  obtain ⟨q0, q1, q2, q3, q4, q5⟩ := B3C.cells
  go_wp2_with fail
  refine (HL1.out w3 t (HX.out.trans (B3X.out.mono HX.out.size))).mono ?_
  rintro e w4 ⟨a4, c4, rfl, hO4, hB⟩
  obtain ⟨n1, n2, n3, n4⟩ := HCN.out t
  rw [HR.out] at hO4 n1 n2 n3 n4 ⊢
  obtain ⟨s', l', zs', h', lk'⟩ := R
  have n1 : h' ≤ h + 1 := n1
  have n2 : lk' ≤ lk + 1 := n2
  have n3 : 0 ≤ h' := n3
  have n4 : 0 ≤ lk' := n4
  have O4 : Hid (OwnW w4 w3.heap.size (.slice a4 l' c4) l' zs') := hO4
  have B4X : Hid (Below X.heap.size X w4) := B3X.out.trans (hB.mono B3X.out.size)
  have s34 := hB.size
  have s3X := B3X.out.size
  clear hB hO4 p0 p1 q0 q1 q2 q3 q4 q5
  obtain ⟨V, hV⟩ : ∃ V, Hid (w4.alloc (.cells #[.int .i64 (m : Int), .int .i64 s', .slice a4 l' c4, .int .i64 st, .int .i64 h', .int .i64 lk'] 42) = V) := ⟨_, rfl⟩
  have HVB : Hid (Below w4.heap.size w4 V) := by show Below _ _ _; rw [← hV.out]; repeat (first | exact Below.refl _ _ | refine Below.drew ?_ | refine Below.setCell ?_ (by simp; try omega) _ | refine Below.alloc ?_ (by simp; try omega) _)
  have BVX : Hid (Below X.heap.size X V) := B4X.out.trans (HVB.out.mono B4X.out.size)
  have HVR : Hid (CBox V w4.heap.size (m : Int) s' (.slice a4 l' c4) st h' lk') := by show World.rowIs _ _ _ _ _; rw [← hV.out]; exact row_of w4 #[.int .i64 (m : Int), .int .i64 s', .slice a4 l' c4, .int .i64 st, .int .i64 h', .int .i64 lk'] _
  have OV : Hid (OwnW V w3.heap.size (.slice a4 l' c4) l' zs') := O4.out.kept HVB.out
  have l4 := B4X.out.size
  go_upto_region 5 with fail
  rw [hV.out]
  clear hV
  have BVR := HRX.out.of_block (BVX.out.block _ HRX.out.lt)
  have BVC : CBox V (W.heap.size + 1) (m : Int) s (.slice a l cap) st h lk := World.rowIs.of_block HCX.out (BVX.out.block _ (World.rowIs.lt HCX.out))
  have BVZ : CBox V (W.heap.size + 2) 0 0 (.slice none 0 0) 0 0 0 := World.rowIs.of_block HZX.out (BVX.out.block _ (World.rowIs.lt HZX.out))
  have p0 : V.cell? ⟨W.heap.size, 0, none⟩ = some (.slice pa n pcap) := BVR.cell (i := 0) (by decide)
  have p1 : V.cell? ⟨W.heap.size, 1, none⟩ = some (.int .i64 st) := BVR.cell (i := 1) (by decide)
  obtain ⟨q0, q1, q2, q3, q4, q5⟩ := BVC.cells
  obtain ⟨u0, u1, u2, u3, u4, u5⟩ := HVR.out.cells
  by_cases ht : t = 0
  · subst ht
    have HNO : Hid (hasB cs n m k = false) := by show _ = _; rw [HHB.out]; rfl
    obtain ⟨z0, z1, z2, z3, z4, z5⟩ := (BVZ).cells
    have fz0 : V.frozen? ⟨W.heap.size + 2, 0, none⟩ = false := World.rowIs.frozen BVZ 0
    have fz1 : V.frozen? ⟨W.heap.size + 2, 1, none⟩ = false := World.rowIs.frozen BVZ 1
    have fz2 : V.frozen? ⟨W.heap.size + 2, 2, none⟩ = false := World.rowIs.frozen BVZ 2
    have fz3 : V.frozen? ⟨W.heap.size + 2, 3, none⟩ = false := World.rowIs.frozen BVZ 3
    have fz4 : V.frozen? ⟨W.heap.size + 2, 4, none⟩ = false := World.rowIs.frozen BVZ 4
    have fz5 : V.frozen? ⟨W.heap.size + 2, 5, none⟩ = false := World.rowIs.frozen BVZ 5
    have lz : W.heap.size + 2 < V.heap.size := World.rowIs.lt BVZ
    go_wp2
    refine bodyPost_ret (v := .tuple #[.agg #[.int .i64 0, .int .i64 0, .slice none 0 0, .int .i64 0, .int .i64 0, .int .i64 0], .int .i64 0, .bool false]) (by simp only [results, Try.results53]; go_simp) rfl ?_
    rw [HNO.out]
    refine ⟨?_, Or.inr ⟨rfl, rfl⟩⟩
    refine Below.trans (HX.out.trans (BVX.out.mono HX.out.size)) ?_
    iterate 6 refine Below.setCell ?_ (by simp; try omega) _
    exact Below.refl _ _
  have htp : 0 < t := by omega
  have e1 : (t == 0) = false := by simpa using ht
  have e2 : decide (t = 0) = false := decide_eq_false ht
  have HYES : Hid (hasB cs n m k = true) := by show _ = _; rw [HHB.out]; exact decide_eq_true htp
  obtain ⟨a5, c5, e5, hcap5, hI5, hna5⟩ := OV.out.form
  simp only [Value.slice.injEq, true_and] at e5
  obtain ⟨rfl, rfl⟩ := e5
  have hg5 := spec_good_yes pa n pcap cs st m ⟨s', l', zs', h', lk'⟩ a4 c4 d V hf hs (hh.out.kept (HX.out.trans (BVX.out.mono HX.out.size))) hw hm (HGS.out HYES.out) n3 (by show h' ≤ 1000; omega) n4 (by show lk' ≤ 1000; omega) hcap5 hI5
  have hg6 : Calls Try.prog 65 #[.agg #[.slice pa n pcap, .int .i64 st], .agg #[.int .i64 (m : Int), .int .i64 s', .slice a4 l' c4, .int .i64 st, .int .i64 h', .int .i64 lk']] V fun e W' => e = .returned (.bool true) ∧ Below V.heap.size V W' := hg5
  clear ht hg5 hI5 hna5
  go_wp2_with fail
  refine hg6.mono ?_
  rintro e w6 ⟨rfl, hB⟩
  have B6X : Hid (Below X.heap.size X w6) := BVX.out.trans (hB.mono BVX.out.size)
  have H6R : Hid (CBox w6 w4.heap.size (m : Int) s' (.slice a4 l' c4) st h' lk') := World.rowIs.of_block HVR.out (hB.block _ (World.rowIs.lt HVR.out))
  have O6 : Hid (OwnW w6 w3.heap.size (.slice a4 l' c4) l' zs') := OV.out.kept hB
  clear hB hg6 p0 p1 q0 q1 q2 q3 q4 q5 u0 u1 u2 u3 u4 u5
  have B6Z : CBox w6 (W.heap.size + 2) 0 0 (.slice none 0 0) 0 0 0 := World.rowIs.of_block HZX.out (B6X.out.block _ (World.rowIs.lt HZX.out))
  obtain ⟨u0, u1, u2, u3, u4, u5⟩ := H6R.out.cells
  obtain ⟨z0, z1, z2, z3, z4, z5⟩ := (B6Z).cells
  have fz0 : w6.frozen? ⟨W.heap.size + 2, 0, none⟩ = false := World.rowIs.frozen B6Z 0
  have fz1 : w6.frozen? ⟨W.heap.size + 2, 1, none⟩ = false := World.rowIs.frozen B6Z 1
  have fz2 : w6.frozen? ⟨W.heap.size + 2, 2, none⟩ = false := World.rowIs.frozen B6Z 2
  have fz3 : w6.frozen? ⟨W.heap.size + 2, 3, none⟩ = false := World.rowIs.frozen B6Z 3
  have fz4 : w6.frozen? ⟨W.heap.size + 2, 4, none⟩ = false := World.rowIs.frozen B6Z 4
  have fz5 : w6.frozen? ⟨W.heap.size + 2, 5, none⟩ = false := World.rowIs.frozen B6Z 5
  have lz : W.heap.size + 2 < w6.heap.size := World.rowIs.lt B6Z
  have hx := HXS.out
  have hne : w4.heap.size ≠ W.heap.size + 2 := by omega
  have hlt3 : W.heap.size + 2 < w3.heap.size := by omega
  clear hx
  go_wp2
  refine bodyPost_ret (v := .tuple #[.agg #[.int .i64 (m : Int), .int .i64 s', .slice a4 l' c4, .int .i64 st, .int .i64 h', .int .i64 lk'], .int .i64 t, .bool true]) (by simp only [results, Try.results53]; go_simp) rfl ?_
  refine ⟨?_, Or.inl ⟨HYES.out, a4, c4, rfl, ?_⟩⟩
  · refine Below.trans (HX.out.trans (B6X.out.mono HX.out.size)) ?_
    iterate 6 refine Below.setCell ?_ (by simp; try omega) _
    exact Below.refl _ _
  · have q : W.heap.size ≤ w3.heap.size := by omega
    exact ((((((O6.out.set hlt3 _).set hlt3 _).set hlt3 _).set hlt3 _).set hlt3 _).set hlt3 _).low q
end Go.Proofs.Yticgipmaflhplaa.walks
