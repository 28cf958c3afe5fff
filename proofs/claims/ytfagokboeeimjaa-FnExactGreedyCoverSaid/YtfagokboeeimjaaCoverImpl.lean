/-
  What the program's cover answers by the pieces that IsCover is handed.
-/
import Derived.Test.YtfagokboeeimjaaProg
import Derived.Test.YtfagokboeeimjaaMagMath
import Derived.Test.YtfagokboeeimjaaTreeMath
import Derived.Test.YtfagokboeeimjaaFitMath
import Derived.Test.YtfagokboeeimjaaCoverMath
import Derived.Test.YtfagokboeeimjaaFitSpec
import Derived.Test.YtfagokboeeimjaaHolesImpl
import Derived.Test.YtfagokboeeimjaaCoverSpec
import Derived.Test.YtfagokboeeimjaaCoverCost
import Derived.Test.YtfagokboeeimjaaTilingImpl
import Derived.Test.YtfagokboeeimjaaChooseImpl
import Derived.Test.YtfagokboeeimjaaConcat9
import Derived.Test.YtfagokboeeimjaaInts
import Derived.Test.YtfagokboeeimjaaOwnInts
import Derived.WalkKit
import Derived.WalkSpells
import Derived.Below
import Derived.Handy
import Derived.OwnWalk
import Derived.Maps.AppendAt
import Derived.Laws.EntriesVeiled
import Derived.Deep.RegionHeld3
namespace Go.Proofs.Ytfagokboeeimjaa.walks
open Go.RowKit Go.Proofs.Ytfagokboeeimjaa.math Go.Proofs.Ytfagokboeeimjaa.ints
set_option linter.unusedVariables false
set_option maxRecDepth 100000

def readO (v : Value) (w : World) : List Nat := match v with
  | .slice (some a) m _ => (List.range m).map fun j => match w.cell? (a.add j) with
    | some (.int _ x) => x.toNat
    | _ => 0
  | _ => []
theorem pick_none {t : List Int} {f : Nat → Pv} {n len i a : Nat} {z : List Int} {os : List Nat} (hi : i ≤ len) (h : pickB n len i (z.getD (i * 2) 0) (z.getD (i * 2 + 1) 0) (a : Int) = false) : goC t f n z (len - i) i (a :: os) = none := by
  by_cases e : i = len
  · subst e
    rw [Nat.sub_self]
    rfl
  · rw [show len - i = len - i - 1 + 1 by omega]
    refine goC_none ?_
    unfold pickB at h
    rw [decide_eq_true (show i < len by omega)] at h
    unfold pieceO
    refine if_neg fun q => ?_
    have h2 : inR (z.getD (i * 2 + 1) 0) 0 ((n : Int) - 1) = true := inR_mk q.2.1 (by omega)
    rw [decide_eq_true q.1, h2] at h
    cases h
theorem pick_some {n len i a : Nat} {z : List Int} (h : pickB n len i (z.getD (i * 2) 0) (z.getD (i * 2 + 1) 0) (a : Int) = true) : i < len ∧ z.getD (i * 2) 0 = (a : Int) ∧ ∃ k : Nat, z.getD (i * 2 + 1) 0 = (k : Int) ∧ k < n := by
  unfold pickB at h
  simp only [Bool.and_eq_true, decide_eq_true_eq] at h
  have := inR_out h.2.2
  exact ⟨h.1, h.2.1, (z.getD (i * 2 + 1) 0).toNat, by omega, by omega⟩
theorem go_pick {t : List Int} {f : Nat → Pv} {n len i a k : Nat} {z : List Int} {os : List Nat} (hi : i < len) (hx : z.getD (i * 2) 0 = (a : Int)) (hy : z.getD (i * 2 + 1) 0 = (k : Int)) (hk : k < n) : goC t f n z (len - i) i (a :: os) = match fitL t (f k).zs a with
    | none => none
    | some hs => goC t f n z (len - (i + 1)) (i + 1) (hs ++ os) := by
  have e : pieceO t f n (z.getD (i * 2) 0) (z.getD (i * 2 + 1) 0) a = fitL t (f k).zs a := by rw [hx, hy]; exact piece_yes hk
  rw [show len - i = len - (i + 1) + 1 by omega]
  cases q : fitL t (f k).zs a with
  | none => exact goC_none (by rw [e]; exact q)
  | some hs => exact goC_some (by rw [e]; exact q)
theorem read_own {w : World} {B : Nat} {a : Option Addr} {m c : Nat} {os : List Nat} (h : ints.Own w B (.slice a m c) (asI os)) (hm : os.length = m) : readO (.slice a m c) w = os := by
  obtain ⟨a', c', e, hM⟩ := ints.Own.mine h
  simp only [Value.slice.injEq] at e
  obtain ⟨rfl, e2, rfl⟩ := e
  rcases hM with hM | ⟨b, off, rfl, _, _, hc⟩
  · have : os = [] := by
      have := asI_len os
      rw [hM] at this
      simp at this
      exact List.eq_nil_of_length_eq_zero this.symm
    subst this
    simp at hm
    subst hm
    cases a <;> rfl
  · simp only [readO]
    apply List.ext_getElem
    · simp [hm]
    · intro j h1 h2
      have hj : j < os.length := h2
      have q := (hc j (by rw [asI_len]; exact hj)).1
      have ha : (⟨b, off, none⟩ : Addr).add j = ⟨b, off + j, none⟩ := by
        unfold Addr.add
        split
        · rename_i h; subst h; rfl
        · rfl
      simp only [List.getElem_map, List.getElem_range]
      rw [ha, q]
      have e : (asI os).getD j 0 = (os[j] : Int) := by simp [asI, List.getD, List.getElem?_eq_getElem hj]
      rw [e]
      simp
theorem holes_none {t p : List Int} {at0 : Nat} (hf : fitL t p at0 = none) (tb to tc sb so sc len g : Nat) (c nm : Int) (ca : Option Addr) (pl cc : Nat) (W : World) (h : Hid (TreeIn W t tb to tc sb so sc)) (hz : Hid (t.length = len)) (hat : at0 < len) (hg : g < W.heap.size) (hbox : W.cell? ⟨g, 0, none⟩ = some (.slice ca pl cc)) (hp : Hid (Ints W ca p)) (hzp : Hid (p.length = pl)) (hlp : pl ≤ 10) (hw : Hid (wholeB true p = true)) :
    Calls Try.prog 47 #[.agg #[.func (.func 72) #[] #[.pointer (some ⟨g, 0, none⟩)], .int .i64 c, .int .i64 nm], .agg #[.slice (some ⟨tb, to, none⟩) len tc, .slice (some ⟨sb, so, none⟩) len sc], .int .i64 (at0 : Int)] W fun e W' => e = .returned (.tuple #[.slice none 0 0, .bool false]) ∧ Below W.heap.size W W' :=
  (impl_holes t p tb to tc sb so sc at0 len g c nm ca pl cc W h hz hat hg hbox hp hzp hlp hw).mono fun e W' ⟨hq, hb⟩ => by
    rcases hq with ⟨_, rfl⟩ | ⟨hs, a, cp, h1, _⟩
    · exact ⟨rfl, hb⟩
    · rw [hf] at h1; cases h1
theorem holes_some {t p : List Int} {at0 : Nat} {hs : List Nat} (hf : fitL t p at0 = some hs) (tb to tc sb so sc len g : Nat) (c nm : Int) (ca : Option Addr) (pl cc : Nat) (W : World) (h : Hid (TreeIn W t tb to tc sb so sc)) (hz : Hid (t.length = len)) (hat : at0 < len) (hg : g < W.heap.size) (hbox : W.cell? ⟨g, 0, none⟩ = some (.slice ca pl cc)) (hp : Hid (Ints W ca p)) (hzp : Hid (p.length = pl)) (hlp : pl ≤ 10) (hw : Hid (wholeB true p = true)) :
    Calls Try.prog 47 #[.agg #[.func (.func 72) #[] #[.pointer (some ⟨g, 0, none⟩)], .int .i64 c, .int .i64 nm], .agg #[.slice (some ⟨tb, to, none⟩) len tc, .slice (some ⟨sb, so, none⟩) len sc], .int .i64 (at0 : Int)] W fun e W' => ∃ a cp, e = .returned (.tuple #[.slice a hs.length cp, .bool true]) ∧ Mine W' W.heap.size a (asI hs) ∧ Below W.heap.size W W' :=
  (impl_holes t p tb to tc sb so sc at0 len g c nm ca pl cc W h hz hat hg hbox hp hzp hlp hw).mono fun e W' ⟨hq, hb⟩ => by
    rcases hq with ⟨h1, _⟩ | ⟨hs', a, cp, h1, hl, rfl, hm⟩
    · rw [hf] at h1; cases h1
    · rw [hf] at h1
      cases h1
      exact ⟨a, cp, rfl, hm, hb⟩
/-- The cells of the box that holds the tiling. -/
def Bc (w : World) (b tb to tl tc sb : Nat) (gv : Option Addr) (n gc : Nat) : Prop := b < w.heap.size ∧ w.cell? ⟨b, 0, none⟩ = some (.slice (some ⟨tb, to, none⟩) tl tc) ∧ w.cell? ⟨b, 1, none⟩ = some (.slice (some ⟨sb, 0, none⟩) tl tl) ∧ w.cell? ⟨b, 2, none⟩ = some (.slice gv n gc)
theorem Bc.kept {w w' : World} {b tb to tl tc sb : Nat} {gv : Option Addr} {n gc : Nat} (h : Bc w b tb to tl tc sb gv n gc) (hb : Below w.heap.size w w') : Bc w' b tb to tl tc sb gv n gc :=
  ⟨Nat.lt_of_lt_of_le h.1 hb.size, (hb.cell (p := ⟨b, 0, none⟩) h.1).trans h.2.1, (hb.cell (p := ⟨b, 1, none⟩) h.1).trans h.2.2.1, (hb.cell (p := ⟨b, 2, none⟩) h.1).trans h.2.2.2⟩
theorem Bc.but {w w' : World} {b tb to tl tc sb : Nat} {gv : Option Addr} {n gc : Nat} (h : Bc w b tb to tl tc sb gv n gc) (hs : w.heap.size ≤ w'.heap.size) (hb : w'.heap[b]? = w.heap[b]?) : Bc w' b tb to tl tc sb gv n gc :=
  ⟨Nat.lt_of_lt_of_le h.1 hs, (World.cell?_of_block hb).trans h.2.1, (World.cell?_of_block hb).trans h.2.2.1, (World.cell?_of_block hb).trans h.2.2.2⟩
theorem asI_get (l : List Nat) (j : Nat) (hj : j < l.length) : (asI l).getD j 0 = ((l.getD j 0 : Nat) : Int) := by
  unfold asI
  simp only [List.getD, List.getElem?_map, List.getElem?_eq_getElem hj]
  rfl
theorem own_form9 {w : World} {B : Nat} {v : Value} {zs : List Int} (h : ints.Own w B v zs) : ∃ a c, v = .slice a zs.length c ∧ zs.length ≤ c ∧ c ≤ maxLen := by
  have h0 : World.ownsRow w B 3 1 v zs.length (zs.map (Value.int .i64)) := h
  rcases h0.2 with ⟨rfl, hn⟩ | ⟨g, cap, cur, rfl, _, _, hmc, hcm, _⟩
  · exact ⟨none, 0, by rw [hn], by omega, by unfold maxLen; omega⟩
  · exact ⟨_, cap, rfl, hmc, hcm⟩
/-- What a call of cover answers. -/
def CovAns (t : List Int) (f : Nat → Pv) (n : Nat) (z : List Int) (len tbx : Nat) (W0 : World) (e : Ending) (W' : World) : Prop := ((goC t f n z len 0 [0] = none ∧ e = .returned (.tuple #[.slice none 0 0, .int .i64 0, .bool false])) ∨ ∃ i v, goC t f n z len 0 [0] = some i ∧ e = .returned (.tuple #[v, .int .i64 (costTo f z i), .bool true]) ∧ W'.cell? ⟨tbx, 0, none⟩ = some (.int .i64 (i : Int))) ∧ tbx < W'.heap.size ∧ Below tbx W0 W'
theorem piece_parts : ∃ i, Try.prog.info? 93 = some i ∧ i.zero = some (.agg #[.int .i64 0, .int .i64 0]) ∧ i.size = 2 ∧ i.bytes = 16 := by
  have h : (Try.prog.info? 93).map (fun i => (i.zero, i.size, i.bytes)) = some (some (.agg #[.int .i64 0, .int .i64 0]), 2, 16) := by kernel_rfl
  cases hi : Try.prog.info? 93 with
  | none => rw [hi] at h; cases h
  | some i =>
    rw [hi] at h
    simp at h
    exact ⟨i, rfl, h.1, h.2.1, h.2.2⟩
/-- Pieces that a call has made itself. -/
def OwnP (w : World) (B : Nat) (v : Value) (m : Nat) : Prop := ∃ L, w.ownsRow B 93 2 v m L
theorem OwnP.kept {w w' : World} {B m : Nat} {v : Value} (h : OwnP w B v m) (hb : Below w.heap.size w w') : OwnP w' B v m := by
  obtain ⟨L, h⟩ := h
  exact ⟨L, World.ownsRow.kept h (row := none) ⟨hb.os, hb.tape, hb.output, hb.size, fun i hi _ => hb.block i hi⟩ (by
    cases q : v.ownBlock with
    | none => exact Or.inl rfl
    | some g => exact Or.inr (by simp))⟩
theorem own_set9 {w : World} {B m c i size : Nat} {ty : TypeId} {v u : Value} {L : List Value} (h : w.ownsRow B ty size v m L) (hc : c < B) : (w.setCell ⟨c, i, none⟩ u).ownsRow B ty size v m L :=
  World.ownsRow.kept h (row := some c) ⟨rfl, rfl, rfl, by simp [World.setCell], fun k hk hne => Below.heap_setCell _ _ _ _ (by simpa using hne)⟩ (by
    cases q : v.ownBlock with
    | none => exact Or.inl rfl
    | some g =>
      refine Or.inr fun e => ?_
      have := (World.ownsRow.lt h g q).1
      simp at e
      omega)
theorem own_drewN {w : World} {B m size : Nat} {ty : TypeId} {v : Value} {L : List Value} (h : w.ownsRow B ty size v m L) (q : Nat) : (w.drewN q).ownsRow B ty size v m L := h
theorem new_two9 (w : World) (x y : Value) (t : TypeId) : ∀ (j : Nat) (u : Value), [x, y][j]? = some u → (w.alloc (.cells #[x, y] t)).cell? ((⟨w.heap.size, 0, none⟩ : Addr).add j) = some u := by
  intro j u hj
  match j, hj with
  | 0, hj => simp at hj; subst hj; simp [Addr.add]
  | 1, hj => simp at hj; subst hj; simp [Addr.add]
  | j + 2, hj => simp at hj
/-- Rows of other types lie elsewhere. -/
theorem own_apart {w : World} {B B' m m' size size' : Nat} {ty ty' : TypeId} {v v' : Value} {L L' : List Value} (h : w.ownsRow B ty size v m L) (h' : w.ownsRow B' ty' size' v' m' L') (hne : ty ≠ ty') : v'.ownBlock = none ∨ v'.ownBlock ≠ v.ownBlock := by
  rcases h.2 with ⟨rfl, _⟩ | ⟨g, c, cur, rfl, _, hb, _⟩
  · cases q : v'.ownBlock with
    | none => exact Or.inl rfl
    | some x => exact Or.inr (by simp [Value.ownBlock])
  · rcases h'.2 with ⟨rfl, _⟩ | ⟨g', c', cur', rfl, _, hb', _⟩
    · exact Or.inl rfl
    · refine Or.inr fun e => ?_
      simp [Value.ownBlock] at e
      subst e
      rw [hb] at hb'
      simp at hb'
      exact hne hb'.2
set_option maxHeartbeats 4000000 in
theorem impl_cover (t : List Int) (tl tb to tc sb : Nat) (gv : Option Addr) (n gc : Nat) (f : Nat → Pv) (G : Nat → Nat) (z : List Int) (len pb po pc tbx pbx lbx lc : Nat) (pa la : Option Addr) (W0 W : World) (hz : Hid (t.length = tl)) (ht : Hid (TreeIn W0 t tb to tc sb 0 t.length)) (hT : Hid (TilesM W0 gv n f G)) (hngc : n ≤ gc) (hgcm : gc ≤ maxLen) (hg : Hid (GoodPs f n)) (hn : n ≤ 12) (hlen : len ≤ 1048576)
    (h0 : W0.heap.size = tbx) (hB0 : Hid (Below tbx W0 W)) (hlt : tbx < W.heap.size) (ct : W.cell? ⟨tbx, 0, none⟩ = some (.int .i64 0)) (zt : W.frozen? ⟨tbx, 0, none⟩ = false) (cp : Hid (W0.cell? ⟨pbx, 0, none⟩ = some (.slice pa len pc))) (cl : Hid (W0.cell? ⟨lbx, 0, none⟩ = some (.slice la n lc))) (hpb : pbx < tbx) (hlb : lbx < tbx) (hpbl : 0 < len → pb < tbx) (hpa : Hid (0 < len → pa = some ⟨pb, po, none⟩)) (hc : Hid (∀ q, q < len * 2 → W0.cell? ⟨pb, po + q, none⟩ = some (.int .i64 (z.getD q 0)))) :
    Calls Try.prog 52 #[.agg #[.slice (some ⟨tb, to, none⟩) tl tc, .slice (some ⟨sb, 0, none⟩) tl tl, .slice gv n gc], .func (.func 58) #[] #[.pointer (some ⟨tbx, 0, none⟩), .pointer (some ⟨pbx, 0, none⟩), .pointer (some ⟨lbx, 0, none⟩)]] W fun e W' => CovAns t f n z len tbx W0 e W' := by
  go_enter Try.func52, Try.ntmps52
  go_wp2_with fail
  have hw := ht.out.whole
  have ht40 : tl ≤ 40 := by have := ht.out.le; have := hz.out; omega
  have ht1 : 0 < tl := by have := (whole_iff.1 hw).1; have := hz.out; omega
  have hsz0 : szT false t 0 = tl := by
    have e := (whole_iff.1 hw).2
    unfold szT
    rw [List.drop_zero, e, ← hz.out]
    rfl
  obtain ⟨X, hX⟩ : ∃ X, Hid ((W.alloc (.cells #[.slice (some ⟨tb, to, none⟩) tl tc, .slice (some ⟨sb, 0, none⟩) tl tl, .slice gv n gc] 82)).alloc (.cells #[.int .i64 0] 3) = X) := ⟨_, rfl⟩
  have HBX : Hid (Below tbx W0 X) := by show Below _ _ _; rw [← hX.out]; exact (hB0.out.alloc (by omega) _).alloc (by simp; omega) _
  have hXs : X.heap.size = W.heap.size + 1 + 1 := by rw [← hX.out]; simp
  have HC : Hid (Bc X W.heap.size tb to tl tc sb gv n gc) := by
    show Bc _ _ _ _ _ _ _ _ _ _
    rw [← hX.out]
    exact ⟨by simp; omega, by go_simp, by go_simp, by go_simp⟩
  have HTX : Hid (X.cell? ⟨tbx, 0, none⟩ = some (.int .i64 0) ∧ X.frozen? ⟨tbx, 0, none⟩ = false) := by
    show _ ∧ _
    rw [← hX.out]
    exact ⟨by go_simp, by go_simp⟩
  have HOX : Hid (ints.Own X (W.heap.size + 1) (.slice (some ⟨W.heap.size + 1, 0, none⟩) 1 1) (asI [0])) := by
    have q := World.ownsRow_lit (base := W.heap.size + 1) (e := 3) (size := 1) (W.alloc (.cells #[.slice (some ⟨tb, to, none⟩) tl tc, .slice (some ⟨sb, 0, none⟩) tl tl, .slice gv n gc] 82)) #[.int .i64 0] 1 (by simp) (by unfold maxLen; omega) rfl
    simp only [World.size_alloc] at q
    show ints.Own _ _ _ _
    rw [← hX.out]
    exact q
  rw [hX.out]
  clear hX ct zt
  obtain ⟨i0, hi, hz0, hz1, hz2⟩ := piece_parts
  go_loopw [7, 8, 9] (fun vp vc vo wr => ∃ (i : Nat) (os : List Nat) (v : Value) (cst : Int) (oa : Option Addr) (m oc : Nat), i ≤ len ∧ vp = v ∧ vc = .int .i64 cst ∧ vo = .slice oa m oc ∧ Hid (cst = costTo f z i) ∧ 0 ≤ cst ∧ cst ≤ 100 * (i : Int) ∧ Hid (os.length = m) ∧ m ≤ 40 ∧ m ≤ oc ∧ oc ≤ 9223372036854775807 ∧ Hid (OpenB t os) ∧ Hid (szS t os ≤ tl) ∧ Hid (goC t f n z len 0 [0] = goC t f n z (len - i) i os) ∧ Hid (ints.Own wr (W.heap.size + 1) (.slice oa m oc) (asI os)) ∧ Hid (OwnP wr (W.heap.size + 1) v i) ∧ Hid (wr.cell? ⟨tbx, 0, none⟩ = some (.int .i64 (i : Int)) ∧ wr.frozen? ⟨tbx, 0, none⟩ = false) ∧ Hid (Bc wr W.heap.size tb to tl tc sb gv n gc) ∧ Hid (Below tbx W0 wr) ∧ W.heap.size + 1 < wr.heap.size) (fun _ _ vo wr => szS t (readO vo wr))
  case atStart => exact ⟨0, [0], _, 0, _, 1, 1, Nat.zero_le _, rfl, rfl, rfl, rfl, by omega, by omega, rfl, by omega, by omega, by omega, fun o ho => by simp at ho; subst ho; rw [hz.out]; exact ht1, by show szS t [0] ≤ tl; rw [szS_cons, szS_nil, hsz0]; omega, by show _ = _; rw [Nat.sub_zero], HOX, ⟨[], World.ownsRow_nil _ _ _ _⟩, HTX, HC, HBX, by omega⟩
  case round =>
    obtain ⟨i, os, v, cst, oa, m, oc, hil, hv, rfl, rfl, HCS, hc0, hc1, HM, hm40, hmo, hom, HOB, HSS, HGC, HO, HP, HT, HBc, HBr, hwr⟩ := hrel
    have hv := hv.symm
    subst hv
    have hi20 : (i : Int) ≤ 1048576 := by omega
    rcases os with _ | ⟨a, os⟩
    · have hm0 : m = 0 := by have := HM.out; simp at this; exact this.symm
      have HE : Hid (goC t f n z len 0 [0] = some i) := by show _ = _; rw [HGC.out, goC_nil]
      subst hm0
      go_wp2
      go_ret3
      exact ⟨Or.inr ⟨i, v, HE.out, by rw [← HCS.out]; rfl, HT.out.1⟩, by omega, HBr.out⟩
    · obtain ⟨m, rfl⟩ : ∃ k, m = k + 1 := ⟨m - 1, by have := HM.out; simp at this; omega⟩
      have hoc1 : 1 ≤ oc := by omega
      have hml : os.length = m := by have := HM.out; simp at this; exact this
      have hat : a < tl := by have := HOB.out a (by simp); have := hz.out; omega
      obtain ⟨ob, oo, hoa, HOC⟩ : ∃ ob oo, oa = some ⟨ob, oo, none⟩ ∧ Hid (W.heap.size + 1 ≤ ob ∧ ob < wr.heap.size ∧ ∀ j, j < (a :: os).length → wr.cell? ⟨ob, oo + j, none⟩ = some (.int .i64 ((a :: os).getD j 0 : Int))) := by
        obtain ⟨a', c', e, hMn⟩ := ints.Own.mine HO.out
        simp only [Value.slice.injEq] at e
        obtain ⟨rfl, _, _⟩ := e
        rcases hMn with hMn | ⟨b, off, e, h1, h2, h3⟩
        · simp [asI] at hMn
        · refine ⟨b, off, e, h1, h2, fun j hj => ?_⟩
          have q := (h3 j (by rw [asI_len]; exact hj)).1
          have e2 := asI_get (a :: os) j hj
          rw [e2] at q
          exact q
      subst hoa
      have ca := HOC.out.2.2 0 (by simp)
      rw [Nat.add_zero, List.getD_cons_zero] at ca
      have hmI : (0 : Int) < ((m + 1 : Nat) : Int) := by omega
      have cp' := (HBr.out.cell (p := ⟨pbx, 0, none⟩) (by show pbx < _; omega)).trans cp.out
      have cl' := (HBr.out.cell (p := ⟨lbx, 0, none⟩) (by show lbx < _; omega)).trans cl.out
      obtain ⟨pb2, hne3, hpa2, hc2⟩ : ∃ pb2, pb2 ≠ tbx ∧ Hid (0 < len → pa = some ⟨pb2, po, none⟩) ∧ Hid (∀ q, q < len * 2 → wr.cell? ⟨pb2, po + q, none⟩ = some (.int .i64 (z.getD q 0))) := by
        by_cases hl0 : len = 0
        · exact ⟨tbx + 1, by omega, fun q => by omega, fun q hq => by omega⟩
        · have hpt := hpbl (by omega)
          exact ⟨pb, by omega, hpa, fun q hq => (HBr.out.cell (p := ⟨pb, po + q, none⟩) (by show pb < _; omega)).trans (hc.out q hq)⟩
      have HCH : Hid _ := impl_choose n len i pb2 po pc tbx pbx lbx pa la lc z (a : Int) wr (by omega) hlen hil HT.out.1 HT.out.2 cp' cl' (by omega) (by omega) hne3 hpa2 hc2
      clear cp' cl' hc2 hpa2
      go_wp2_with fail
      refine Calls.mono HCH.out ?_
      rintro e w1 (⟨h1, rfl, hB1⟩ | ⟨h1, rfl, q, hw1⟩)
      · have HE : Hid (goC t f n z len 0 [0] = none) := by show _ = _; rw [HGC.out]; exact pick_none hil h1
        have HB1 : Hid (Below tbx W0 w1) := HBr.out.trans (hB1.mono (by omega))
        have hs1 := hB1.size
        clear hB1 h1
        go_wp2
        go_ret3
        exact ⟨Or.inl ⟨HE.out, rfl⟩, by omega, HB1.out⟩
      obtain ⟨hilt, hx, k, hy, hkn⟩ := pick_some h1
      rw [hy]
      have hs1 : w1.heap.size = wr.heap.size := by rw [hw1]; simp [World.setCell, World.drewN]
      have blk : ∀ b, b ≠ tbx → w1.heap[b]? = wr.heap[b]? := fun b hb => by rw [hw1]; exact Below.heap_setCell _ _ _ _ (by simpa using hb)
      have HB1 : Hid (Below tbx W0 w1) := by
        show Below _ _ _
        rw [hw1]
        exact belowN (HBr.out.setCell (Nat.le_refl _) _) q
      have HT1 : Hid (w1.cell? ⟨tbx, 0, none⟩ = some (.int .i64 ((i + 1 : Nat) : Int)) ∧ w1.frozen? ⟨tbx, 0, none⟩ = false) := by
        show _ ∧ _
        rw [hw1]
        exact ⟨World.cell?_setCell_same _ _ _ HT.out.1, by have := HT.out.2; simpa using this⟩
      have HBc1 : Hid (Bc w1 W.heap.size tb to tl tc sb gv n gc) := HBc.out.but (by omega) (blk _ (by omega))
      have HO1 : Hid (ints.Own w1 (W.heap.size + 1) (.slice (some ⟨ob, oo, none⟩) (m + 1) oc) (asI (a :: os))) := by
        show World.ownsRow _ _ _ _ _ _ _
        rw [hw1]
        exact own_drewN (own_set9 HO.out (by omega)) q
      have HP1 : Hid (OwnP w1 (W.heap.size + 1) v i) := by
        obtain ⟨L, hL⟩ := HP.out
        refine ⟨L, ?_⟩
        rw [hw1]
        exact own_drewN (own_set9 hL (by omega)) q
      have HG1 : Hid (goC t f n z len 0 [0] = match fitL t (f k).zs a with | none => none | some hs => goC t f n z (len - (i + 1)) (i + 1) (hs ++ os)) := by
        show _ = _
        rw [HGC.out]
        exact go_pick hilt hx hy hkn
      have HCT : Hid (costTo f z (i + 1) = cst + (f k).c) := by show costTo f z i + _ = _; rw [hy, ← HCS.out]; rfl
      clear hw1 h1 HCH ca
      obtain ⟨gl, gz, gw, gc0, gc1⟩ := hg.out k hkn
      obtain ⟨gb, hgv, hgb, hgc⟩ := (hT.out.kept (by rw [h0]; exact HB1.out)).row (by omega)
      subst hgv
      obtain ⟨t0, t1, t2⟩ := hgc k hkn
      obtain ⟨hGl, ka, kc, hbox, hIk⟩ := (hT.out.kept (by rw [h0]; exact HB1.out)).box k hkn
      have HTI : Hid (TreeIn w1 t tb to tc sb 0 t.length) := ht.out.kept (by rw [h0]; exact HB1.out)
      have HIK : Hid (Ints w1 ka (f k).zs) := hIk
      have HBOX : Hid (w1.cell? ⟨G k, 0, none⟩ = some (.slice ka (f k).zs.length kc)) := hbox
      have b0 := HBc1.out.2.1
      have b1 := HBc1.out.2.2.1
      have b2 := HBc1.out.2.2.2
      have hknI : (k : Int) < (n : Int) := by omega
      obtain ⟨nm, hnm⟩ : ∃ nm : Int, Hid ((namedTo (f k).zs (f k).zs.length : Int) = nm) := ⟨_, rfl⟩
      obtain ⟨ck, hck⟩ : ∃ ck : Int, Hid ((f k).c = ck) := ⟨_, rfl⟩
      rw [hnm.out] at t2
      rw [hck.out] at t1 gc0 gc1 HCT
      clear hgc hbox hIk
      have HTD : Hid (TreeIn w1.drew t tb to tc sb 0 tl) := by have := HTI.out.kept (Below.refl _ _).drew; rw [hz.out] at this; exact this
      have HID : Hid (Ints w1.drew ka (f k).zs) := HIK.out.kept (Below.refl _ _).drew
      have HBD : Hid (w1.drew.cell? ⟨G k, 0, none⟩ = some (.slice ka (f k).zs.length kc)) := HBOX.out
      have q1 := And.intro (And.intro b0 (And.intro b1 b2)) (And.intro t0 (And.intro t1 t2))
      have q2 : ((fun w' => (w'.cell? ⟨W.heap.size, 0, none⟩ = some (.slice (some ⟨tb, to, none⟩) tl tc) ∧ w'.cell? ⟨W.heap.size, 1, none⟩ = some (.slice (some ⟨sb, 0, none⟩) tl tl) ∧ w'.cell? ⟨W.heap.size, 2, none⟩ = some (.slice (some ⟨gb, 0, none⟩) n gc)) ∧ (w'.cell? ⟨gb, k * 3, none⟩ = some (.func (.func 72) #[] #[.pointer (some ⟨G k, 0, none⟩)]) ∧ w'.cell? ⟨gb, k * 3 + 1, none⟩ = some (.int .i64 ck) ∧ w'.cell? ⟨gb, k * 3 + 2, none⟩ = some (.int .i64 nm))) w1.drew : Prop) := q1
      have hgcI : (n : Int) ≤ (gc : Int) := by omega
      cases hf : fitL t (f k).zs a with
      | none =>
        have HE : Hid (goC t f n z len 0 [0] = none) := by show _ = _; rw [HG1.out, hf]
        go_wp2_with fail
        go_region_held3 (fun w' => (w'.cell? ⟨W.heap.size, 0, none⟩ = some (.slice (some ⟨tb, to, none⟩) tl tc) ∧ w'.cell? ⟨W.heap.size, 1, none⟩ = some (.slice (some ⟨sb, 0, none⟩) tl tl) ∧ w'.cell? ⟨W.heap.size, 2, none⟩ = some (.slice (some ⟨gb, 0, none⟩) n gc)) ∧ (w'.cell? ⟨gb, k * 3, none⟩ = some (.func (.func 72) #[] #[.pointer (some ⟨G k, 0, none⟩)]) ∧ w'.cell? ⟨gb, k * 3 + 1, none⟩ = some (.int .i64 ck) ∧ w'.cell? ⟨gb, k * 3 + 2, none⟩ = some (.int .i64 nm))) (first | assumption | exact q1 | exact q2 | exact q3 | go_keep) (first
          | (go_at_call 47; refine (holes_none hf tb to tc sb 0 tl tl (G k) ck nm ka (f k).zs.length kc _ HTD hz hat hGl HBD.out HID rfl gl gw).mono ?_; rintro e w2 ⟨rfl, hB⟩; have q3 := And.intro (And.intro ((hB.cell (p := ⟨W.heap.size, 0, none⟩) (by show W.heap.size < w1.heap.size; omega)).trans b0) (And.intro ((hB.cell (p := ⟨W.heap.size, 1, none⟩) (by show W.heap.size < w1.heap.size; omega)).trans b1) ((hB.cell (p := ⟨W.heap.size, 2, none⟩) (by show W.heap.size < w1.heap.size; omega)).trans b2))) (And.intro ((hB.cell (p := ⟨gb, k * 3, none⟩) hgb).trans t0) (And.intro ((hB.cell (p := ⟨gb, k * 3 + 1, none⟩) hgb).trans t1) ((hB.cell (p := ⟨gb, k * 3 + 2, none⟩) hgb).trans t2))); have HB2 : Hid (Below tbx W0 w2) := HB1.out.drew.trans (hB.mono (by show tbx ≤ w1.heap.size; omega)); have hs2 : w1.heap.size ≤ w2.heap.size := hB.size; clear hB))
        go_wp2
        go_ret3
        exact ⟨Or.inl ⟨HE.out, rfl⟩, by omega, HB2.out⟩
      | some hs =>
        have HGN : Hid (goC t f n z len 0 [0] = goC t f n z (len - (i + 1)) (i + 1) (hs ++ os)) := by show _ = _; rw [HG1.out, hf]
        have hless := fit_less hw gw (by rw [hz.out]; exact hat) gz hf
        have hin := fit_in hw gw (by rw [hz.out]; exact hat) hf
        have hszn : szS t (hs ++ os) + 1 ≤ szS t (a :: os) := by rw [szS_app, szS_cons]; omega
        have HOBN : Hid (OpenB t (hs ++ os)) := fun o ho => by
          rcases List.mem_append.1 ho with ho | ho
          · exact (hin o ho).2.2
          · exact HOB.out o (by simp [ho])
        have HSN : Hid (szS t (hs ++ os) ≤ tl) := by have := HSS.out; show _ ≤ _; omega
        have hln := open_len hw _ HOBN.out
        have hln40' : (hs ++ os).length ≤ 40 := by have := HSN.out; omega
        obtain ⟨ml, HML⟩ : ∃ ml, Hid ((hs ++ os).length = ml) := ⟨_, rfl⟩
        have hln40 : ml ≤ 40 := by rw [← HML.out]; exact hln40'
        have hh40 : hs.length ≤ 40 := by rw [List.length_append] at hln40'; omega
        clear hln40'
        have HLT : Hid (szS t (hs ++ os) < szS t (readO (.slice (some ⟨ob, oo, none⟩) (m + 1) oc) wr)) := by
          show _ < _
          rw [read_own HO.out HM.out]
          omega
        clear hless hin hszn hln
        go_wp2_with fail
        go_region_held3 (fun w' => (w'.cell? ⟨W.heap.size, 0, none⟩ = some (.slice (some ⟨tb, to, none⟩) tl tc) ∧ w'.cell? ⟨W.heap.size, 1, none⟩ = some (.slice (some ⟨sb, 0, none⟩) tl tl) ∧ w'.cell? ⟨W.heap.size, 2, none⟩ = some (.slice (some ⟨gb, 0, none⟩) n gc)) ∧ (w'.cell? ⟨gb, k * 3, none⟩ = some (.func (.func 72) #[] #[.pointer (some ⟨G k, 0, none⟩)]) ∧ w'.cell? ⟨gb, k * 3 + 1, none⟩ = some (.int .i64 ck) ∧ w'.cell? ⟨gb, k * 3 + 2, none⟩ = some (.int .i64 nm))) (first | assumption | exact q1 | exact q2 | exact q3 | go_keep) (first
          | (go_at_call 47; refine (holes_some hf tb to tc sb 0 tl tl (G k) ck nm ka (f k).zs.length kc _ HTD hz hat hGl HBD.out HID rfl gl gw).mono ?_; rintro e w2 ⟨ha, hcp, rfl, hMh, hB⟩; have q3 := And.intro (And.intro ((hB.cell (p := ⟨W.heap.size, 0, none⟩) (by show W.heap.size < w1.heap.size; omega)).trans b0) (And.intro ((hB.cell (p := ⟨W.heap.size, 1, none⟩) (by show W.heap.size < w1.heap.size; omega)).trans b1) ((hB.cell (p := ⟨W.heap.size, 2, none⟩) (by show W.heap.size < w1.heap.size; omega)).trans b2))) (And.intro ((hB.cell (p := ⟨gb, k * 3, none⟩) hgb).trans t0) (And.intro ((hB.cell (p := ⟨gb, k * 3 + 1, none⟩) hgb).trans t1) ((hB.cell (p := ⟨gb, k * 3 + 2, none⟩) hgb).trans t2))); have HB2 : Hid (Below tbx W0 w2) := HB1.out.drew.trans (hB.mono (by show tbx ≤ w1.heap.size; omega)); have hs2 : w1.heap.size ≤ w2.heap.size := hB.size; have HBB : Hid (Below w1.heap.size w1 w2) := (Below.refl _ _).drew.trans hB; have HMH : Hid (Mine w2 w1.heap.size ha (asI hs)) := hMh; clear hB hMh))
        have b2' := q3.1.2.2
        have t1' := q3.2.2.1
        obtain ⟨L, hL⟩ := HP1.out
        have hown1 : ∀ g, v.ownBlock = some g → W.heap.size + 1 ≤ g ∧ g < w1.heap.size := fun g hg => World.ownsRow.lt hL g hg
        have HL2 : Hid (w2.ownsRow (W.heap.size + 1) 93 2 v i L) := World.ownsRow.kept hL (row := none) ⟨HBB.out.os, HBB.out.tape, HBB.out.output, HBB.out.size, fun i hi _ => HBB.out.block i hi⟩ (by
          cases q : v.ownBlock with
          | none => exact Or.inl rfl
          | some g => exact Or.inr (by simp))
        have HO2 : Hid (w2.ownsRow (W.heap.size + 1) 3 1 (.slice (some ⟨ob, oo, none⟩) (m + 1) oc) (asI (a :: os)).length ((asI (a :: os)).map (Value.int .i64))) := World.ownsRow.kept HO1.out (row := none) ⟨HBB.out.os, HBB.out.tape, HBB.out.output, HBB.out.size, fun i hi _ => HBB.out.block i hi⟩ (Or.inr (by simp [Value.ownBlock]))
        have HT2 : Hid (w2.cell? ⟨tbx, 0, none⟩ = some (.int .i64 ((i + 1 : Nat) : Int)) ∧ w2.frozen? ⟨tbx, 0, none⟩ = false) := ⟨(HBB.out.cell (p := ⟨tbx, 0, none⟩) (by show tbx < _; omega)).trans HT1.out.1, (HBB.out.frozen (p := ⟨tbx, 0, none⟩) (by show tbx < _; omega)).trans HT1.out.2⟩
        have HBc2 : Hid (Bc w2 W.heap.size tb to tl tc sb (some ⟨gb, 0, none⟩) n gc) := HBc1.out.kept HBB.out
        clear q1 q2 q3 b0 b1 b2 t0 t1 t2 hL HG1 HTD HID HBD HTI HIK HBOX
        go_wp2_with (first
          | (at_builtin; refine wpList_append_own_at _ rfl _ _ 44 rfl (W.heap.size + 1) 93 i0 (.agg #[.int .i64 0, .int .i64 0]) 2 16 Try.underlying44 hi hz0 hz1 hz2 rfl (by decide) _ i L rfl (World.ownsRow.alloc HL2.out _) ⟨w2.heap.size, 0, none⟩ 1 1 [.int .i64 (a : Int), .int .i64 (k : Int)] rfl rfl (new_two9 _ _ _ _) ?g2 ?g3 ?g4 ?g5 ?_)
          | fail)
        case g2 =>
          first
            | (intro u hu; simp at hu; rcases hu with rfl | rfl <;> rfl)
            | exact ⟨rfl, rfl⟩
        case g3 => unfold maxLen; omega
        case g4 => omega
        case g5 => first | omega | (simp; omega)
        intro v3 w3 hown hgrow _ _
        have hs3 := hgrow.size
        simp only [World.size_alloc] at hs3
        have blk3 : ∀ b, b < w2.heap.size → some b ≠ v.ownBlock → w3.heap[b]? = w2.heap[b]? := fun b hb hne => (hgrow.block b (by simp; omega) hne).trans (Below.heap_alloc _ _ _ hb)
        have HB3 : Hid (Below tbx W0 w3) := (HB2.out.alloc (by omega) _).grown hgrow (by simp; omega) (fun j hj => by have := hown1 j hj; omega)
        have nb : ∀ b, b ≤ W.heap.size → some b ≠ v.ownBlock := fun b hb e => by have := hown1 b e.symm; omega
        have HT3 : Hid (w3.cell? ⟨tbx, 0, none⟩ = some (.int .i64 ((i + 1 : Nat) : Int)) ∧ w3.frozen? ⟨tbx, 0, none⟩ = false) := by
          have e := blk3 tbx (by omega) (nb _ (by omega))
          exact ⟨(World.cell?_of_block e).trans HT2.out.1, (World.frozen?_of_block e).trans HT2.out.2⟩
        have HBc3 : Hid (Bc w3 W.heap.size tb to tl tc sb (some ⟨gb, 0, none⟩) n gc) := HBc2.out.but (by omega) (blk3 _ (by omega) (nb _ (by omega)))
        have HO3 : Hid (ints.Own w3 (W.heap.size + 1) (.slice (some ⟨ob, oo, none⟩) (m + 1) oc) (asI (a :: os))) := World.ownsRow.kept (World.ownsRow.alloc HO2.out _) hgrow (own_apart HL2.out HO2.out (by decide))
        have HP3 : Hid (OwnP w3 (W.heap.size + 1) v3 (i + 1)) := ⟨_, hown⟩
        have HMH3 : Hid (Ints w3 ha (asI hs)) := by
          rcases HMH.out with e | ⟨b, off, e, h1, h2, h3⟩
          · exact Or.inl e
          · refine Or.inr ⟨b, off, e, by omega, fun j hj => ?_⟩
            have e2 := blk3 b h2 (fun q => by have := hown1 b q.symm; omega)
            exact (World.cell?_of_block e2).trans (h3 j hj).1
        obtain ⟨gb', hgv', hgb3, hgc3⟩ := (hT.out.kept (by rw [h0]; exact HB3.out)).row (by omega)
        obtain rfl : gb = gb' := by simpa using hgv'
        have t1 := (hgc3 k hkn).2.1
        rw [hck.out] at t1
        have b2 := HBc3.out.2.2.2
        have hcI : cst + ck ≤ 1000000000 := by omega
        have hcI0 : 0 ≤ cst + ck := by omega
        clear hown hgrow blk3 nb hgc3 hgv' b2' t1' HL2 HO2 HT2 HBc2
        by_cases hoc : oc = 1
        · have hm0 : m = 0 := by omega
          have HI2 : Hid (Ints w3 (some ⟨ob, oo, none⟩) (asI os)) := by
            have : os = [] := List.eq_nil_of_length_eq_zero (by omega)
            rw [this]
            exact Or.inl rfl
          subst hoc hm0
          go_wp2_with fail
          obtain ⟨Y, hY⟩ : ∃ Y, Hid (w3.alloc (.cells #[.slice ha hs.length hcp, .slice (some ⟨ob, oo, none⟩) 0 0] 22) = Y) := ⟨_, rfl⟩
          have HYY : Hid (Below w3.heap.size w3 Y) := by show Below _ _ _; rw [← hY.out]; repeat (first | exact Below.refl _ _ | refine Below.drew ?_ | refine Below.setCell ?_ (by simp; try omega) _ | refine Below.alloc ?_ (by simp; try omega) _)
          have hYs : Y.heap.size = w3.heap.size + 1 := by rw [← hY.out]; simp
          have y0 : Y.cell? ⟨w3.heap.size, 0, none⟩ = some (.slice ha hs.length hcp) := by rw [← hY.out]; go_simp
          have y1 : Y.cell? ⟨w3.heap.size, 1, none⟩ = some (.slice (some ⟨ob, oo, none⟩) 0 0) := by rw [← hY.out]; go_simp
          rw [hY.out]
          refine (impl_concat w3.heap.size ha (some ⟨ob, oo, none⟩) hs.length 0 hcp 0 (asI hs) (asI os) Y (by omega) y0 y1 (asI_len hs) (by show _ = _; rw [asI_len]; omega) hh40 (by omega) (HMH3.out.kept HYY.out) (HI2.out.kept HYY.out)).mono ?_
          rintro e w4 ⟨v4, rfl, ho4, hB4⟩
          have hs4 := hB4.size
          have HB34 : Hid (Below w3.heap.size w3 w4) := HYY.out.trans (hB4.mono (by omega))
          obtain ⟨oa4, oc4, hv4, hc4, hcm4⟩ := own_form9 ho4
          have hl4 : (asI hs ++ asI os).length = ml := by rw [← HML.out, List.length_append, asI_len, asI_len, List.length_append]
          rw [hl4] at hc4 hv4
          subst hv4
          unfold maxLen at hcm4
          have HO4 : Hid (ints.Own w4 (W.heap.size + 1) (.slice oa4 ml oc4) (asI (hs ++ os))) := by
            show ints.Own _ _ _ _
            have e : asI (hs ++ os) = asI hs ++ asI os := by simp [asI]
            rw [e]
            exact own_low ho4 (by omega)
          have HP4 : Hid (OwnP w4 (W.heap.size + 1) v3 (i + 1)) := HP3.out.kept HB34.out
          have HT4 : Hid (w4.cell? ⟨tbx, 0, none⟩ = some (.int .i64 ((i + 1 : Nat) : Int)) ∧ w4.frozen? ⟨tbx, 0, none⟩ = false) := ⟨(HB34.out.cell (p := ⟨tbx, 0, none⟩) (by show tbx < _; omega)).trans HT3.out.1, (HB34.out.frozen (p := ⟨tbx, 0, none⟩) (by show tbx < _; omega)).trans HT3.out.2⟩
          have HBc4 : Hid (Bc w4 W.heap.size tb to tl tc sb (some ⟨gb, 0, none⟩) n gc) := HBc3.out.kept HB34.out
          have HB4 : Hid (Below tbx W0 w4) := HB3.out.trans (HB34.out.mono (by omega))
          have HME : Hid (szS t (readO (.slice oa4 ml oc4) w4) < szS t (readO (.slice (some ⟨ob, oo, none⟩) (0 + 1) 1) wr)) := by
            show _ < _
            rw [read_own HO4.out HML.out]
            exact HLT.out
          clear hB4 ho4 hY y0 y1 HLT
          go_wp2
          go_roundw
          case rel => exact ⟨i + 1, hs ++ os, v3, cst + ck, oa4, ml, oc4, by omega, rfl, rfl, rfl, HCT.out.symm, by omega, by omega, HML, hln40, hc4, by omega, HOBN, HSN, HGN, HO4, HP4, HT4, HBc4, HB4, by omega⟩
          case measure => exact HME.out
        · have hocI : (1 : Int) ≤ (oc : Int) := by omega
          have hm1I : (1 : Int) ≤ ((m + 1 : Nat) : Int) := by omega
          have HI2 : Hid (Ints w3 (some ⟨ob, oo + 1, none⟩) (asI os)) := by
            obtain ⟨a', c', e, hMn⟩ := ints.Own.mine HO3.out
            simp only [Value.slice.injEq] at e
            obtain ⟨rfl, _, _⟩ := e
            rcases hMn with hMn | ⟨b, off, e, h1, h2, h3⟩
            · simp [asI] at hMn
            · simp only [Option.some.injEq, Addr.mk.injEq] at e
              obtain ⟨rfl, rfl, _⟩ := e
              refine Or.inr ⟨ob, oo + 1, rfl, h2, fun j hj => ?_⟩
              have q := (h3 (j + 1) (by rw [asI_len] at hj ⊢; simp; omega)).1
              rw [show oo + 1 + j = oo + (j + 1) by omega, q]
              rfl
          go_wp2_with fail
          obtain ⟨Y, hY⟩ : ∃ Y, Hid (w3.alloc (.cells #[.slice ha hs.length hcp, .slice (some ⟨ob, oo + 1, none⟩) m (oc - 1)] 22) = Y) := ⟨_, rfl⟩
          have HYY : Hid (Below w3.heap.size w3 Y) := by show Below _ _ _; rw [← hY.out]; repeat (first | exact Below.refl _ _ | refine Below.drew ?_ | refine Below.setCell ?_ (by simp; try omega) _ | refine Below.alloc ?_ (by simp; try omega) _)
          have hYs : Y.heap.size = w3.heap.size + 1 := by rw [← hY.out]; simp
          have y0 : Y.cell? ⟨w3.heap.size, 0, none⟩ = some (.slice ha hs.length hcp) := by rw [← hY.out]; go_simp
          have y1 : Y.cell? ⟨w3.heap.size, 1, none⟩ = some (.slice (some ⟨ob, oo + 1, none⟩) m (oc - 1)) := by rw [← hY.out]; go_simp
          rw [hY.out]
          refine (impl_concat w3.heap.size ha (some ⟨ob, oo + 1, none⟩) hs.length m hcp (oc - 1) (asI hs) (asI os) Y (by omega) y0 y1 (asI_len hs) (by show _ = _; rw [asI_len]; exact hml) hh40 (by omega) (HMH3.out.kept HYY.out) (HI2.out.kept HYY.out)).mono ?_
          rintro e w4 ⟨v4, rfl, ho4, hB4⟩
          have hs4 := hB4.size
          have HB34 : Hid (Below w3.heap.size w3 w4) := HYY.out.trans (hB4.mono (by omega))
          obtain ⟨oa4, oc4, hv4, hc4, hcm4⟩ := own_form9 ho4
          have hl4 : (asI hs ++ asI os).length = ml := by rw [← HML.out, List.length_append, asI_len, asI_len, List.length_append]
          rw [hl4] at hc4 hv4
          subst hv4
          unfold maxLen at hcm4
          have HO4 : Hid (ints.Own w4 (W.heap.size + 1) (.slice oa4 ml oc4) (asI (hs ++ os))) := by
            show ints.Own _ _ _ _
            have e : asI (hs ++ os) = asI hs ++ asI os := by simp [asI]
            rw [e]
            exact own_low ho4 (by omega)
          have HP4 : Hid (OwnP w4 (W.heap.size + 1) v3 (i + 1)) := HP3.out.kept HB34.out
          have HT4 : Hid (w4.cell? ⟨tbx, 0, none⟩ = some (.int .i64 ((i + 1 : Nat) : Int)) ∧ w4.frozen? ⟨tbx, 0, none⟩ = false) := ⟨(HB34.out.cell (p := ⟨tbx, 0, none⟩) (by show tbx < _; omega)).trans HT3.out.1, (HB34.out.frozen (p := ⟨tbx, 0, none⟩) (by show tbx < _; omega)).trans HT3.out.2⟩
          have HBc4 : Hid (Bc w4 W.heap.size tb to tl tc sb (some ⟨gb, 0, none⟩) n gc) := HBc3.out.kept HB34.out
          have HB4 : Hid (Below tbx W0 w4) := HB3.out.trans (HB34.out.mono (by omega))
          have HME : Hid (szS t (readO (.slice oa4 ml oc4) w4) < szS t (readO (.slice (some ⟨ob, oo, none⟩) (m + 1) oc) wr)) := by
            show _ < _
            rw [read_own HO4.out HML.out]
            exact HLT.out
          clear hB4 ho4 hY y0 y1 HLT
          go_wp2
          go_roundw
          case rel => exact ⟨i + 1, hs ++ os, v3, cst + ck, oa4, ml, oc4, by omega, rfl, rfl, rfl, HCT.out.symm, by omega, by omega, HML, hln40, hc4, by omega, HOBN, HSN, HGN, HO4, HP4, HT4, HBc4, HB4, by omega⟩
          case measure => exact HME.out
end Go.Proofs.Ytfagokboeeimjaa.walks
