/-
  What the specification's NumberCode answers: the walk.
-/
import Derived.Test.YtldmeffhbabanaaProg
import Derived.Test.YtldmeffhbabanaaNumSpec
import Derived.WalkKit
import Derived.WalkSpells
import Derived.Below
import Derived.Handy
import Derived.Deep.RegionWith
namespace Go.Proofs.Ytldmeffhbabanaa.nums
open Go.RowKit Go.Proofs.Ytldmeffhbabanaa.math Go.Proofs.Ytldmeffhbabanaa.ints Go.Proofs.Ytldmeffhbabanaa.walks
set_option linter.unusedVariables false
set_option linter.unusedSimpArgs false

/-- What holds at each round. -/
structure Rnd (W w2 wr : World) (B sb : Nat) (zs : List Int) (k : Nat) (vt : Value) : Prop where
  own : OwnI wr w2.heap.size vt k (outTo zs k)
  st : St wr B sb (numTo zs k).1 (numsOf (numTo zs k).1 (numTo zs k).2)
  below : Below W.heap.size W wr
  size : w2.heap.size ≤ wr.heap.size
theorem own_grow {wr wq w3 : World} {B n : Nat} {vt v' : Value} {fl : List Int} {i : I5} (hown' : w3.ownsRow B 61 5 v' (n + 1) (fl.map (Value.int .i64) ++ [.int .i64 i.1, .int .i64 i.2.1, .int .i64 i.2.2.1, .int .i64 i.2.2.2.1, .int .i64 i.2.2.2.2])) : OwnI w3 B v' (n + 1) (fl ++ flat5 i) := by
  unfold OwnI; simpa [flat5] using hown'
theorem st_grown {w w' : World} {B sb g : Nat} {vs : List V} {ks : List Int} {v : Value} {n : Nat} {fl : List Int} {Bo : Nat} (h : St w B sb vs ks) (hv : 0 < vs.length) (hk : 0 < ks.length) (hO : OwnI w Bo v n fl) (hg : w.grownBy w' v.ownBlock) : St w' B sb vs ks := by
  obtain ⟨gv, gn, cv, cn, hE⟩ := h.seen hv hk
  have hne : ∀ q, v.ownBlock = some q → q ≠ sb ∧ q ≠ gv ∧ q ≠ gn := fun q hq => hE.apart (own_kind hO hq)
  refine Seen.st (gv := gv) (gn := gn) (cv := cv) (cn := cn) ⟨(hg.block sb hE.lt.1 (fun e => (hne sb e.symm).1 rfl)).trans hE.heap, hE.vals.kept hg ?_, hE.nums.kept hg ?_, hE.n0, hE.n1, hE.n2, hE.low⟩
  · right
    intro e
    exact (hne gv (e.symm.trans rfl)).2.1 rfl
  · right
    intro e
    exact (hne gn (e.symm.trans rfl)).2.2 rfl
theorem put_cell (w : World) (a : Addr) (v : Value) (c : Array Value) (t : TypeId) (i : Nat) : (((w.setCell a v).alloc (.cells c t)).drew).cell? ⟨w.heap.size, i, none⟩ = c[i]? := World.cell?_alloc_at _ _ _ _ (by simp [World.setCell])
/-- The world behind the store of a name's number. -/
theorem fin_world {W w3 wz : World} {B sb gv gn cv cn bx dj k lo : Nat} {r : Int} {vs' : List V} {ks fl : List Int} {vt : Value} (hE : Seen w3 B sb gv gn cv cn vs' ks) (hO : OwnI w3 lo vt k fl) (hb : But w3 wz bx) (m0 : bx ≠ sb) (m1 : bx ≠ gv) (m2 : bx ≠ gn) (hvb : vt.ownBlock ≠ some bx) (hB : Below W.heap.size W w3) (hWB : W.heap.size ≤ B) (hbx : W.heap.size ≤ bx) :
    OwnI (wz.setCell ⟨gn, dj, none⟩ (.int .i64 r)) lo vt k fl ∧ St (wz.setCell ⟨gn, dj, none⟩ (.int .i64 r)) B sb vs' (ks.set dj r) ∧ Below W.heap.size W (wz.setCell ⟨gn, dj, none⟩ (.int .i64 r)) ∧ wz.heap.size = w3.heap.size := by
  have hEz := hE.but hb m0 m1 m2
  have hOz : OwnI wz lo vt k fl := World.ownsRow.kept hO hb.1 (Or.inr hvb)
  have hgn : vt.ownBlock ≠ some gn := fun e => (hE.apart (own_kind hO e)).2.2 rfl
  exact ⟨World.ownsRow.kept hOz (set_grown wz gn dj _) (Or.inr hgn), (hEz.put (j := dj) r).st, (below_but hB hb hbx hB.size).setCell (p := ⟨gn, dj, none⟩) (Nat.le_trans hWB hE.lt.2.2.2.2) _, hb.2⟩
theorem rnd_next {W w2 wq w5 : World} {B sb k : Nat} {zs : List Int} {vt v' : Value} {vs' ns' : List V} {ks' : List Int} {i : I5} (hO : OwnI wq w2.heap.size vt k (outTo zs k)) (hS : St wq B sb vs' ks') (hB : Below W.heap.size W wq) (hs2 : w2.heap.size ≤ wq.heap.size) (hW2 : W.heap.size ≤ w2.heap.size)
    (hown' : w5.ownsRow w2.heap.size 61 5 v' (k + 1) ((outTo zs k).map (Value.int .i64) ++ [.int .i64 i.1, .int .i64 i.2.1, .int .i64 i.2.2.1, .int .i64 i.2.2.2.1, .int .i64 i.2.2.2.2])) (hgrow : wq.grownBy w5 vt.ownBlock) (hT : outTo zs (k + 1) = outTo zs k ++ flat5 i) (hN : numTo zs (k + 1) = (vs', ns')) (hk : ks' = numsOf vs' ns') (hv : 0 < vs'.length) (hn : ns'.length = 8) : Rnd W w2 w5 B sb zs (k + 1) v' := by
  have hkp : 0 < ks'.length := by rw [hk, nums_len, hn]; omega
  refine ⟨by rw [hT]; exact own_grow (wr := w5) (wq := w5) (vt := v') hown', ?_, ?_, by have := hgrow.size; omega⟩
  · rw [hN]
    have := st_grown (g := 0) hS hv hkp hO hgrow
    rw [hk] at this
    exact this
  · exact hB.grown hgrow hB.size (fun j hj => Nat.le_trans hW2 (World.ownsRow.lt hO j hj).1)
theorem num_is {vs ns : List V} {v : V} {m j r : Nat} (hI : Inv vs ns m) (hj : j < 8) (hr : idx (addV vs v) v = r) : ((numsOf vs ns).getD j 0 = (r : Int)) ↔ ns.getD j zV = v := by
  have h1 : (numsOf vs ns).getD j 0 = (idx (addV vs v) (ns.getD j zV) : Int) := by
    rw [nums_at (by rw [hI.len]; exact hj), idx_add v (hI.at hj)]
  rw [h1]
  constructor
  · intro e
    refine idx_inj (mem_add_of v (hI.at hj)) (mem_add vs v) ?_
    omega
  · intro e
    rw [e, hr]
set_option maxRecDepth 100000 in
set_option maxHeartbeats 8000000 in
theorem spec_number (a : Option Addr) (len cap : Nat) (zs : List Int) (W : World) (hz : Hid (zs.length = len * 5)) (hlen : len ≤ 1048576) (h : Hid (Ints W a zs)) :
    Calls Try.prog 7 #[.slice a len cap] W fun e W' => CodeTold (codeB zs len) len (outTo zs len) W e W' := by
  obtain ⟨i0, hi, hz0, hz1, hz2⟩ := info_parts instr_row
  go_enter Try.func7, Try.ntmps7
  go_wp2_with fail
  refine (spec_code _ _ _ zs _ hz hlen h).mono ?_
  cases hc : codeB zs len
  · rintro e w1 ⟨rfl, hb⟩
    have HA : Hid (CodeTold (codeB zs len) len (outTo zs len) W (.returned (.tuple #[.slice none 0 0, .bool false])) w1) := Or.inr ⟨hc, rfl, hb⟩
    clear hb hc
    go_wp2
    go_ret2
    exact HA.out
  rintro e w1 ⟨rfl, hb⟩
  have HB1 : Hid (Below W.heap.size W w1) := hb
  have HC : Hid (codeB zs len = true) := hc
  have h30 : len ≤ 30 := (code_out hc).1
  clear hb hc
  go_wp2_with fail
  refine (spec_start w1).mono ?_
  rintro e w2 ⟨rfl, hS0, hb⟩
  have HR0 : Hid (Rnd W w2 w2 w1.heap.size w1.heap.size zs 0 (.slice none 0 0)) := ⟨ownI_nil _ _, by rw [show numsOf (numTo zs 0).1 (numTo zs 0).2 = kTo 8 from k8.symm]; exact hS0, HB1.out.trans (hb.mono HB1.out.size), Nat.le_refl _⟩
  have hw1 := HB1.out.size
  have hsb : w1.heap.size < w2.heap.size := hS0.lt
  clear hS0 hb
  go_wp2
  go_loopw [5, 17] (fun vt vi wr => ∃ k : Nat, k ≤ len ∧ vi = .int .i64 k ∧ Hid (Rnd W w2 wr w1.heap.size w1.heap.size zs k vt)) (fun _ vi _ => len - (intOf vi).toNat)
  case atStart => exact ⟨0, Nat.zero_le _, rfl, HR0⟩
  case round =>
    obtain ⟨k, hk, rfl, HR⟩ := hrel
    have hsz := HR.out.below.size
    have hws := HR.out.size
    by_cases hlt : k < len
    · obtain ⟨b, off, ha, hb, c0, c1, c2, c3, c4⟩ := Instr_at h.out hz.out HR.out.below hlt
      subst ha
      have HI : Hid (Inv (numTo zs k).1 (numTo zs k).2 (8 + k)) := inv_to HC.out k hk
      have HG : Hid (stepB zs k = true) := (code_out HC.out).2 k hlt
      have HG' : Hid (goodI (zs.getD (k * 5) 0) (zs.getD (k * 5 + 1) 0) (zs.getD (k * 5 + 2) 0) (zs.getD (k * 5 + 3) 0) (zs.getD (k * 5 + 4) 0) = true) := HG
      have HT : Hid (outTo zs (k + 1) = outTo zs k ++ flat5 (cheapI (numTo zs k).1 (numTo zs k).2 (zs.getD (k * 5) 0) (zs.getD (k * 5 + 1) 0) (zs.getD (k * 5 + 2) 0) (zs.getD (k * 5 + 3) 0) (zs.getD (k * 5 + 4) 0))) := rfl
      have HT2 : Hid (numTo zs (k + 1) = stepN (numTo zs k) (zs.getD (k * 5) 0) (zs.getD (k * 5 + 1) 0) (zs.getD (k * 5 + 2) 0) (zs.getD (k * 5 + 3) 0) (zs.getD (k * 5 + 4) 0)) := rfl
      clear HG
      generalize zs.getD (k * 5) 0 = o at c0 HT HG' HT2
      generalize zs.getD (k * 5 + 1) 0 = d at c1 HT HG' HT2
      generalize zs.getD (k * 5 + 2) 0 = x at c2 HT HG' HT2
      generalize zs.getD (k * 5 + 3) 0 = y at c3 HT HG' HT2
      generalize zs.getD (k * 5 + 4) 0 = n at c4 HT HG' HT2
      have HS : Hid (St wr w1.heap.size w1.heap.size (numTo zs k).1 (numsOf (numTo zs k).1 (numTo zs k).2)) := HR.out.st
      obtain ⟨vs, ns, hvn⟩ : ∃ vs ns, numTo zs k = (vs, ns) := ⟨_, _, rfl⟩
      rw [hvn] at HS HI HT HT2
      have HS : Hid (St wr w1.heap.size w1.heap.size vs (numsOf vs ns)) := HS
      have HI : Hid (Inv vs ns (8 + k)) := HI
      have HT : Hid (outTo zs (k + 1) = outTo zs k ++ flat5 (cheapI vs ns o d x y n)) := HT
      have hkl : (numsOf vs ns).length = 8 := by rw [nums_len, HI.out.len]
      have hv : 0 < vs.length := by
        have := idx_lt (HI.out.at (i := 0) (by omega))
        omega
      have HO : Hid (OwnI wr w2.heap.size _ k (outTo zs k)) := HR.out.own
      have HLo : Hid (∀ g, Value.ownBlock _ = some g → w2.heap.size ≤ g ∧ g < wr.heap.size) := World.ownsRow.lt HO.out
      by_cases h8 : o = 8
      · have HT' : Hid (outTo zs (k + 1) = outTo zs k ++ flat5 (8, d, x, y, n)) := by show _ = _; rw [HT.out]; unfold cheapI; rw [if_pos h8, h8]
        have HT2' : Hid (numTo zs (k + 1) = (vs, ns)) := by show _ = _; rw [HT2.out]; unfold stepN; rw [if_pos h8]
        subst h8
        clear HT HT2 hvn
        go_wp2_with (at_builtin; refine wpList_append_own _ rfl _ _ 23 rfl w2.heap.size 61 i0 _ 5 40 Try.underlying23 hi hz0 hz1 hz2 rfl (by decide) _ _ _ rfl (World.ownsRow.alloc (World.ownsRow.alloc HO.out _) _) ⟨wr.heap.size + 1, 0, none⟩ 1 1 [.int .i64 8, .int .i64 d, .int .i64 x, .int .i64 y, .int .i64 n] rfl rfl (five_cell _ _ _ _ _ _ (by go_simp) (by go_simp) (by go_simp) (by go_simp) (by go_simp)) (five_of _ _ _ _ _) (by unfold maxLen; omega) (by omega) (by simp; omega) ?_)
        intro v' w3 hown' hgrow _
        have HR' : Hid (Rnd W w2 w3 w1.heap.size w1.heap.size zs (k + 1) v') := by
          refine ⟨by rw [HT'.out]; exact own_grow (wr := wr) (wq := wr) (vt := v') hown', ?_, ?_, by have := hgrow.size; simp at this; omega⟩
          · rw [HT2'.out]
            exact st_grown (g := 0) ((HS.out.alloc _).alloc _) hv (by show 0 < (numsOf vs ns).length; omega) (World.ownsRow.alloc (World.ownsRow.alloc HO.out _) _) hgrow
          · refine Below.grown (w := (wr.alloc (.cells #[.int .i64 8, .int .i64 d, .int .i64 x, .int .i64 y, .int .i64 n] 61)).alloc (.cells #[.int .i64 8, .int .i64 d, .int .i64 x, .int .i64 y, .int .i64 n] 61)) ((HR.out.below.alloc hsz _).alloc (by simp; omega) _) hgrow (by simp; omega) (fun j hj => by have := (HLo.out j hj).1; omega)
        clear hown' hgrow
        go_wp2
        go_roundw
        case rel => exact ⟨k + 1, by omega, by go_num, HR'⟩
        case measure => simp [intOf]; omega
      · have q8 : (o == 8) = false := by simpa using h8
        obtain ⟨dj, rfl, hdj⟩ : ∃ j : Nat, d = (j : Int) ∧ j < 8 := by
          have h0 : 0 ≤ d ∧ d ≤ 7 := by
            rcases good_cases HG'.out with ⟨_, hd, _⟩ | ⟨_, hd, _⟩ | ⟨e, _⟩ | ⟨_, hd, _⟩
            · exact hd
            · exact hd
            · exact (h8 e).elim
            · exact hd
          exact ⟨d.toNat, by omega, by omega⟩
        obtain ⟨v0, v1, v2, v3, hval⟩ := four_v (valV vs ns o x y n)
        have HT' : Hid (outTo zs (k + 1) = outTo zs k ++ flat5 (cheapV ns (v0, v1, v2, v3) o (dj : Int) x y n)) := by show _ = _; rw [HT.out]; unfold cheapI; rw [if_neg h8, hval]
        have HT2' : Hid (numTo zs (k + 1) = (addV vs (v0, v1, v2, v3), ns.set dj (v0, v1, v2, v3))) := by show _ = _; rw [HT2.out]; unfold stepN; rw [if_neg h8]; simp only [Int.toNat_natCast]; rw [hval]
        obtain ⟨r, hr⟩ : ∃ r : Nat, Hid (idx (addV vs (v0, v1, v2, v3)) (v0, v1, v2, v3) = r) := ⟨_, rfl⟩
        go_wp2_with fail
        refine (spec_value o (dj : Int) x y n w1.heap.size w1.heap.size (8 + k) vs ns _ (by omega) HG'.out h8 HI.out (HS.out.alloc _) (by simp; omega)).mono ?_
        unfold FindAns
        rw [hval, hr.out]
        rintro e w3 ⟨rfl, h1, h2, h3⟩
        obtain ⟨gv0, gn0, cv0, cn0, hE0⟩ := (HS.out.alloc (.cells #[.int .i64 o, .int .i64 (dj : Int), .int .i64 x, .int .i64 y, .int .i64 n] 61)).seen hv (by omega)
        obtain ⟨h4, h5⟩ := h3 gv0 gn0 cv0 cn0 hE0
        clear h5
        have hbk := box_new wr o (dj : Int) x y n
        obtain ⟨a0, a1, _⟩ := hE0.apart (box_kind hbk)
        have HBx : Hid (Box5 w3 wr.heap.size (o, (dj : Int), x, y, n)) := hbk.of_block (h4 _ (by simp) a0 a1)
        have HO3 : Hid (OwnI w3 w2.heap.size _ k (outTo zs k)) := ownI_far (World.ownsRow.alloc HO.out _) (fun g hg => by
          obtain ⟨b0, b1, _⟩ := hE0.apart (own_kind (World.ownsRow.alloc HO.out _) hg)
          exact h4 g (by have := (HLo.out g hg).2; simp; omega) b0 b1)
        obtain ⟨gv, gn, cv, cn, hE⟩ := h1.seen (by have := add_len' vs (v0, v1, v2, v3); omega) (by omega)
        have HE : Hid (Seen w3 w1.heap.size w1.heap.size gv gn cv cn (addV vs (v0, v1, v2, v3)) (numsOf vs ns)) := hE
        have HB3 : Hid (Below W.heap.size W w3) := (HR.out.below.alloc hsz _).trans (h2.mono hw1)
        have hs3 : wr.heap.size < w3.heap.size := by have := h2.size; simp at this; omega
        obtain ⟨l0, l1, l2, l3, l4⟩ := hE.lt
        have n0 := hE.n0
        have n1 := hE.n1
        have n2 := hE.n2
        obtain ⟨m0, m1, m2⟩ := hE.apart (box_kind HBx.out)
        have e0 := hE.v
        have e1 := hE.n
        rw [hkl] at e1
        have hrl : r < (addV vs (v0, v1, v2, v3)).length := by rw [← hr.out]; exact idx_lt (mem_add _ _)
        have hrg : (addV vs (v0, v1, v2, v3)).getD r zV = (v0, v1, v2, v3) := by rw [← hr.out]; exact idx_get (mem_add _ _)
        have d0 := hE.val (k := r) (i := 0) hrl (by omega)
        have d1 := hE.val (k := r) (i := 1) hrl (by omega)
        have d2 := hE.val (k := r) (i := 2) hrl (by omega)
        have d3 := hE.val (k := r) (i := 3) hrl (by omega)
        rw [hrg] at d0 d1 d2 d3
        simp only [Nat.add_zero, fldV] at d0 d1 d2 d3
        obtain ⟨vl, hvl⟩ : ∃ vl, (addV vs (v0, v1, v2, v3)).length = vl := ⟨_, rfl⟩
        rw [hvl] at hrl e0
        have hrl' : (r : Int) < (vl : Int) := by omega
        have b0 : w3.cell? ⟨wr.heap.size, 0, none⟩ = some (.int .i64 o) := HBx.out.cell (i := 0) (by omega)
        have b1 : w3.cell? ⟨wr.heap.size, 1, none⟩ = some (.int .i64 (dj : Int)) := HBx.out.cell (i := 1) (by omega)
        have b2 : w3.cell? ⟨wr.heap.size, 2, none⟩ = some (.int .i64 x) := HBx.out.cell (i := 2) (by omega)
        have b3 : w3.cell? ⟨wr.heap.size, 3, none⟩ = some (.int .i64 y) := HBx.out.cell (i := 3) (by omega)
        have b4 : w3.cell? ⟨wr.heap.size, 4, none⟩ = some (.int .i64 n) := HBx.out.cell (i := 4) (by omega)
        have f0 := HBx.out.frozen 0
        have f1 := HBx.out.frozen 1
        have f2 := HBx.out.frozen 2
        have f3 := HBx.out.frozen 3
        have f4 := HBx.out.frozen 4
        have hdj' : (dj : Int) < 8 := by omega
        have HNS : Hid (numsOf (addV vs (v0, v1, v2, v3)) (ns.set dj (v0, v1, v2, v3)) = (numsOf vs ns).set dj (r : Int)) := by show _ = _; rw [nums_set HI.out, hr.out]
        have hwb2 : w2.heap.size ≤ wr.heap.size := hws
        have hwb : W.heap.size ≤ wr.heap.size := hsz
        have hvb : Hid (Value.ownBlock _ ≠ some wr.heap.size) := fun e => by have := (HLo.out _ e).2; omega
        have hW2 : W.heap.size ≤ w2.heap.size := by omega
        have hns8 : Hid ((ns.set dj (v0, v1, v2, v3)).length = 8) := by show _ = _; simpa using HI.out.len
        have hvp : Hid (0 < (addV vs (v0, v1, v2, v3)).length) := by show 0 < _; have := add_len' vs (v0, v1, v2, v3); omega
        clear h1 h2 h3 h4 hE hE0 hbk a0 a1 hvn HT HT2 hval hrg hvl HLo HO HS c0 c1 c2 c3 c4 HR
        generalize wr.heap.size = bx at HBx m0 m1 m2 b0 b1 b2 b3 b4 f0 f1 f2 f3 f4 hs3 hwb2 hwb hvb ⊢
        by_cases hk1 : v0 = 1
        · have HT1 : Hid (outTo zs (k + 1) = outTo zs k ++ flat5 (1, (dj : Int), 0, 0, v3)) := by show _ = _; rw [HT'.out]; unfold cheapV; rw [if_pos hk1]
          subst hk1
          have e2 := HE.out.num (k := dj) (by omega)
          generalize (numsOf vs ns).getD dj 0 = old at e2
          have g2 := HE.out.nums.frozenAt dj
          have HF : Hid _ := fin_world (dj := dj) (r := (r : Int)) HE.out HO3.out (but_put (But.refl w3 bx) (.int .i64 1) (.int .i64 (dj : Int)) (.int .i64 0) (.int .i64 0) (.int .i64 v3)) m0 m1 m2 hvb.out HB3.out hw1 hwb
          go_wp2
          go_region
          all_goals go_wp2_with (at_builtin; refine wpList_append_own _ rfl _ _ 23 rfl w2.heap.size 61 i0 _ 5 40 Try.underlying23 hi hz0 hz1 hz2 rfl (by decide) _ _ _ rfl ((World.ownsRow.alloc (World.ownsRow.alloc HF.out.1 _) _).drew) ⟨w3.heap.size + 1, 0, none⟩ 1 1 [.int .i64 1, .int .i64 (dj : Int), .int .i64 0, .int .i64 0, .int .i64 v3] rfl rfl (five_cell _ _ _ _ _ _ (by go_simp) (by go_simp) (by go_simp) (by go_simp) (by go_simp)) (five_of _ _ _ _ _) (by unfold maxLen; omega) (by omega) (by simp; omega) ?_)
          all_goals intro v' w5 hown' hgrow _
          have HR' : Hid (Rnd W w2 w5 w1.heap.size w1.heap.size zs (k + 1) v') := rnd_next (i := (1, (dj : Int), 0, 0, v3)) ((World.ownsRow.alloc (World.ownsRow.alloc HF.out.1 _) _).drew) (((HF.out.2.1.alloc _).alloc _).drew) (by exact (((HF.out.2.2.1.alloc (by simp; omega) _).alloc (by simp; omega) _).drew)) (by simp; omega) hW2 hown' hgrow HT1.out HT2'.out HNS.out.symm hvp.out hns8.out
          clear hown' hgrow
          go_wp2
          go_roundw
          case rel => exact ⟨k + 1, by omega, by go_num, HR'⟩
          case measure => simp [intOf]; omega
        · have q1 : (v0 == 1) = false := by simpa using hk1
          have HTs : Hid (outTo zs (k + 1) = outTo zs k ++ flat5 (selI ns (v0, v1, v2, v3) o (dj : Int) x y n 8)) := by show _ = _; rw [HT'.out, selI_end HI.out.len hk1]
          have HBx4 : Hid (Box5 (w3.alloc (.cells #[.int .i64 v0, .int .i64 v1, .int .i64 v2, .int .i64 v3] 49)) bx (o, (dj : Int), x, y, n)) := World.rowIs.alloc HBx.out _
          have HE4 : Hid (Seen (w3.alloc (.cells #[.int .i64 v0, .int .i64 v1, .int .i64 v2, .int .i64 v3] 49)) w1.heap.size w1.heap.size gv gn cv cn (addV vs (v0, v1, v2, v3)) (numsOf vs ns)) := HE.out.kept ((Below.refl _ _).alloc (Nat.le_refl _) _)
          have HO4 : Hid (OwnI (w3.alloc (.cells #[.int .i64 v0, .int .i64 v1, .int .i64 v2, .int .i64 v3] 49)) w2.heap.size _ k (outTo zs k)) := World.ownsRow.alloc HO3.out _
          have HB4 : Hid (Below W.heap.size W (w3.alloc (.cells #[.int .i64 v0, .int .i64 v1, .int .i64 v2, .int .i64 v3] 49))) := HB3.out.alloc HB3.out.size _
          have hz4 : (w3.alloc (.cells #[.int .i64 v0, .int .i64 v1, .int .i64 v2, .int .i64 v3] 49)).heap.size = w3.heap.size + 1 := by simp
          go_wp2
          clear b0 b1 b2 b3 b4 f0 f1 f2 f3 f4 d0 d1 d2 d3 e0 e1
          generalize w3.alloc (.cells #[.int .i64 v0, .int .i64 v1, .int .i64 v2, .int .i64 v3] 49) = w4 at HBx4 HE4 HO4 HB4 hz4 ⊢
          go_loopw [10] (fun vi wi => ∃ m : Nat, m ≤ 8 ∧ vi = .int .i64 (7 - (m : Int)) ∧ Hid (Box5 wi bx (selI ns (v0, v1, v2, v3) o (dj : Int) x y n m)) ∧ Hid (But w4 wi bx)) (fun vi _ => (intOf vi + 1).toNat)
          case atStart => exact ⟨0, Nat.zero_le _, rfl, HBx4, But.refl _ _⟩
          case round =>
            obtain ⟨m, hm, rfl, HX, HU⟩ := hrel
            have hus := HU.out.2
            have hbl : bx < wr.heap.size := by omega
            have HEr : Hid (Seen wr w1.heap.size w1.heap.size gv gn cv cn (addV vs (v0, v1, v2, v3)) (numsOf vs ns)) := HE4.out.but HU.out m0 m1 m2
            have e1 := HEr.out.n
            rw [hkl] at e1
            obtain ⟨k0, k1, k2, k3, k4⟩ := HEr.out.lt
            by_cases hml : m < 8
            · obtain ⟨jj, hjj⟩ : ∃ j, 7 - m = j := ⟨_, rfl⟩
              have hji : 7 - (m : Int) = (jj : Int) := by omega
              have hj8 : (jj : Int) < 8 := by omega
              rw [hji]
              have cn' := HEr.out.num (k := jj) (by omega)
              by_cases heq : ns.getD jj zV = (v0, v1, v2, v3)
              · rw [(num_is HI.out (by omega) hr.out).2 heq] at cn'
                have HY : Hid (selI ns (v0, v1, v2, v3) o (dj : Int) x y n (m + 1) = (2, (dj : Int), (jj : Int), 0, 0)) := by show _ = _; rw [selI_yes (by rw [hjj]; exact heq), hjj]
                obtain ⟨p0, p2, p3, p4, hp⟩ := selI_d ns (v0, v1, v2, v3) o (dj : Int) x y n m
                rw [hp] at HX
                have b0 : wr.cell? ⟨bx, 0, none⟩ = some (.int .i64 p0) := HX.out.cell (i := 0) (by omega)
                have b1 : wr.cell? ⟨bx, 1, none⟩ = some (.int .i64 (dj : Int)) := HX.out.cell (i := 1) (by omega)
                have b2 : wr.cell? ⟨bx, 2, none⟩ = some (.int .i64 p2) := HX.out.cell (i := 2) (by omega)
                have b3 : wr.cell? ⟨bx, 3, none⟩ = some (.int .i64 p3) := HX.out.cell (i := 3) (by omega)
                have b4 : wr.cell? ⟨bx, 4, none⟩ = some (.int .i64 p4) := HX.out.cell (i := 4) (by omega)
                have f0 := HX.out.frozen 0
                have f1 := HX.out.frozen 1
                have f2 := HX.out.frozen 2
                have f3 := HX.out.frozen 3
                have f4 := HX.out.frozen 4
                clear heq hp
                go_wp2
                go_roundw
                case rel => exact ⟨m + 1, by omega, by go_num, by show Box5 _ _ _; rw [HY.out]; exact box_put HX.out _ _ _ _ _, but_put HU.out _ _ _ _ _⟩
                case measure => simp [intOf]
              · have hne : ¬ (numsOf vs ns).getD jj 0 = (r : Int) := fun e => heq ((num_is HI.out (by omega) hr.out).1 e)
                generalize (numsOf vs ns).getD jj 0 = u at cn' hne
                have qu : (u == (r : Int)) = false := by simpa using hne
                have HY : Hid (selI ns (v0, v1, v2, v3) o (dj : Int) x y n (m + 1) = selI ns (v0, v1, v2, v3) o (dj : Int) x y n m) := selI_no (by rw [hjj]; exact heq)
                clear heq hne
                go_wp2
                go_roundw
                case rel => exact ⟨m + 1, by omega, by go_num, by show Box5 _ _ _; rw [HY.out]; exact HX.out, HU⟩
                case measure => simp [intOf]
            · have hm8 : m = 8 := by omega
              subst hm8
              obtain ⟨p0, p2, p3, p4, hp⟩ := selI_d ns (v0, v1, v2, v3) o (dj : Int) x y n 8
              rw [hp] at HX HTs
              have b0 : wr.cell? ⟨bx, 0, none⟩ = some (.int .i64 p0) := HX.out.cell (i := 0) (by omega)
              have b1 : wr.cell? ⟨bx, 1, none⟩ = some (.int .i64 (dj : Int)) := HX.out.cell (i := 1) (by omega)
              have b2 : wr.cell? ⟨bx, 2, none⟩ = some (.int .i64 p2) := HX.out.cell (i := 2) (by omega)
              have b3 : wr.cell? ⟨bx, 3, none⟩ = some (.int .i64 p3) := HX.out.cell (i := 3) (by omega)
              have b4 : wr.cell? ⟨bx, 4, none⟩ = some (.int .i64 p4) := HX.out.cell (i := 4) (by omega)
              have e2 := HEr.out.num (k := dj) (by omega)
              generalize (numsOf vs ns).getD dj 0 = old at e2
              have g2 := HEr.out.nums.frozenAt dj
              have HF : Hid _ := fin_world (dj := dj) (r := (r : Int)) HE4.out HO4.out HU.out m0 m1 m2 hvb.out HB4.out hw1 hwb
              have hw2r : w2.heap.size ≤ wr.heap.size := by omega
              have hwr : W.heap.size ≤ wr.heap.size := by omega
              clear hp hus hz4
              go_wp2
              go_region
              all_goals go_wp2_with (at_builtin; refine wpList_append_own _ rfl _ _ 23 rfl w2.heap.size 61 i0 _ 5 40 Try.underlying23 hi hz0 hz1 hz2 rfl (by decide) _ _ _ rfl ((World.ownsRow.alloc HF.out.1 _).drew) ⟨wr.heap.size, 0, none⟩ 1 1 [.int .i64 p0, .int .i64 (dj : Int), .int .i64 p2, .int .i64 p3, .int .i64 p4] rfl rfl (five_cell _ _ _ _ _ _ ((put_cell _ _ _ _ _ _).trans rfl) ((put_cell _ _ _ _ _ _).trans rfl) ((put_cell _ _ _ _ _ _).trans rfl) ((put_cell _ _ _ _ _ _).trans rfl) ((put_cell _ _ _ _ _ _).trans rfl)) (five_of _ _ _ _ _) (by unfold maxLen; omega) (by omega) (by simp; omega) ?_)
              all_goals intro v' w5 hown' hgrow _
              have HR' : Hid (Rnd W w2 w5 w1.heap.size w1.heap.size zs (k + 1) v') := rnd_next (i := (p0, (dj : Int), p2, p3, p4)) ((World.ownsRow.alloc HF.out.1 _).drew) ((HF.out.2.1.alloc _).drew) (by exact ((HF.out.2.2.1.alloc (by simp; omega) _).drew)) (by simp; omega) hW2 hown' hgrow HTs.out HT2'.out HNS.out.symm hvp.out hns8.out
              clear hown' hgrow
              go_wp2
              go_roundw
              case rel => exact ⟨k + 1, by omega, by go_num, HR'⟩
              case measure => simp [intOf]; omega
    · have HE : Hid (k = len) := by show k = len; omega
      rw [HE.out] at HR
      obtain ⟨ra, rc, rfl, hM⟩ := HR.out.own.mine
      have HA : Hid (CodeTold (codeB zs len) len (outTo zs len) W (.returned (.tuple #[.slice ra len rc, .bool true])) wr) := Or.inl ⟨HC.out, ⟨ra, rc, rfl, mine_low hM (by omega)⟩, HR.out.below⟩
      clear hM
      go_wp2
      go_ret2
      exact HA.out
end Go.Proofs.Ytldmeffhbabanaa.nums
