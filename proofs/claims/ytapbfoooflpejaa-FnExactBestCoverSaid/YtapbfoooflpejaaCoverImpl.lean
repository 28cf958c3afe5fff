/-
  What the program's cover answers by the pieces that IsCover is handed.
-/
import Derived.Test.YtapbfoooflpejaaProg
import Derived.Test.YtapbfoooflpejaaMagMath
import Derived.Test.YtapbfoooflpejaaTreeMath
import Derived.Test.YtapbfoooflpejaaFitMath
import Derived.Test.YtapbfoooflpejaaCoverMath
import Derived.Test.YtapbfoooflpejaaFitSpec
import Derived.Test.YtapbfoooflpejaaHolesImpl
import Derived.Test.YtapbfoooflpejaaCoverSpec
import Derived.Test.YtapbfoooflpejaaCoverCost
import Derived.Test.YtapbfoooflpejaaTilingImpl
import Derived.Test.YtapbfoooflpejaaChooseImpl
import Derived.Test.YtapbfoooflpejaaConcat9
import Derived.Test.YtapbfoooflpejaaInts
import Derived.Test.YtapbfoooflpejaaOwnInts
import Derived.WalkKit
import Derived.WalkSpells
import Derived.Below
import Derived.Handy
import Derived.OwnWalk
import Derived.Maps.AppendAt
import Derived.Laws.EntriesVeiled
import Derived.Deep.RegionHeld3
namespace Go.Proofs.Ytapbfoooflpejaa.walks
open Go.RowKit Go.Proofs.Ytapbfoooflpejaa.math Go.Proofs.Ytapbfoooflpejaa.ints
set_option linter.unusedVariables false
set_option maxRecDepth 100000

def readO (v : Value) (w : World) : List Nat := match v with
  | .slice (some a) m _ => (List.range m).map fun j => match w.cell? (a.add j) with
    | some (.int _ x) => x.toNat
    | _ => 0
  | _ => []
theorem pick_none {t : List Int} {f : Nat → Pv} {n len i a : Nat} {z : List Int} {os : List Nat} (hi : i ≤ len) (h : pickB n len i (z.getD (i * 2) 0) (z.getD (i * 2 + 1) 0) (a : Int) = false) : goC t f n z (len - i) i (a :: os) = none := by
  by_cases e : i = len
  · subst e
    rw [Nat.sub_self]
    rfl
  · rw [show len - i = len - i - 1 + 1 by omega]
    refine goC_none ?_
    unfold pickB at h
    rw [decide_eq_true (show i < len by omega)] at h
    unfold pieceO
    refine if_neg fun q => ?_
    have h2 : inR (z.getD (i * 2 + 1) 0) 0 ((n : Int) - 1) = true := inR_mk q.2.1 (by omega)
    rw [decide_eq_true q.1, h2] at h
    cases h
theorem pick_some {n len i a : Nat} {z : List Int} (h : pickB n len i (z.getD (i * 2) 0) (z.getD (i * 2 + 1) 0) (a : Int) = true) : i < len ∧ z.getD (i * 2) 0 = (a : Int) ∧ ∃ k : Nat, z.getD (i * 2 + 1) 0 = (k : Int) ∧ k < n := by
  unfold pickB at h
  simp only [Bool.and_eq_true, decide_eq_true_eq] at h
  have := inR_out h.2.2
  exact ⟨h.1, h.2.1, (z.getD (i * 2 + 1) 0).toNat, by omega, by omega⟩
theorem go_pick {t : List Int} {f : Nat → Pv} {n len i a k : Nat} {z : List Int} {os : List Nat} (hi : i < len) (hx : z.getD (i * 2) 0 = (a : Int)) (hy : z.getD (i * 2 + 1) 0 = (k : Int)) (hk : k < n) : goC t f n z (len - i) i (a :: os) = match fitL t (f k).zs a with
    | none => none
    | some hs => goC t f n z (len - (i + 1)) (i + 1) (hs ++ os) := by
  have e : pieceO t f n (z.getD (i * 2) 0) (z.getD (i * 2 + 1) 0) a = fitL t (f k).zs a := by rw [hx, hy]; exact piece_yes hk
  rw [show len - i = len - (i + 1) + 1 by omega]
  cases q : fitL t (f k).zs a with
  | none => exact goC_none (by rw [e]; exact q)
  | some hs => exact goC_some (by rw [e]; exact q)
theorem read_own {w : World} {B : Nat} {a : Option Addr} {m c : Nat} {os : List Nat} (h : ints.Own w B (.slice a m c) (asI os)) (hm : os.length = m) : readO (.slice a m c) w = os := by
  obtain ⟨a', c', e, hM⟩ := ints.Own.mine h
  simp only [Value.slice.injEq] at e
  obtain ⟨rfl, e2, rfl⟩ := e
  rcases hM with hM | ⟨b, off, rfl, _, _, hc⟩
  · have : os = [] := by
      have := asI_len os
      rw [hM] at this
      simp at this
      exact List.eq_nil_of_length_eq_zero this.symm
    subst this
    simp at hm
    subst hm
    cases a <;> rfl
  · simp only [readO]
    apply List.ext_getElem
    · simp [hm]
    · intro j h1 h2
      have hj : j < os.length := h2
      have q := (hc j (by rw [asI_len]; exact hj)).1
      have ha : (⟨b, off, none⟩ : Addr).add j = ⟨b, off + j, none⟩ := by
        unfold Addr.add
        split
        · rename_i h; subst h; rfl
        · rfl
      simp only [List.getElem_map, List.getElem_range]
      rw [ha, q]
      have e : (asI os).getD j 0 = (os[j] : Int) := by simp [asI, List.getD, List.getElem?_eq_getElem hj]
      rw [e]
      simp
theorem holes_none {t p : List Int} {at0 : Nat} (hf : fitL t p at0 = none) (tb to tc sb so sc len g : Nat) (c nm : Int) (ca : Option Addr) (pl cc : Nat) (W : World) (h : Hid (TreeIn W t tb to tc sb so sc)) (hz : Hid (t.length = len)) (hat : at0 < len) (hg : g < W.heap.size) (hbox : W.cell? ⟨g, 0, none⟩ = some (.slice ca pl cc)) (hp : Hid (Ints W ca p)) (hzp : Hid (p.length = pl)) (hlp : pl ≤ 10) (hw : Hid (wholeB true p = true)) :
    Calls Try.prog 41 #[.agg #[.func (.func 54) #[] #[.pointer (some ⟨g, 0, none⟩)], .int .i64 c, .int .i64 nm], .agg #[.slice (some ⟨tb, to, none⟩) len tc, .slice (some ⟨sb, so, none⟩) len sc], .int .i64 (at0 : Int)] W fun e W' => e = .returned (.tuple #[.slice none 0 0, .bool false]) ∧ Below W.heap.size W W' :=
  (impl_holes t p tb to tc sb so sc at0 len g c nm ca pl cc W h hz hat hg hbox hp hzp hlp hw).mono fun e W' ⟨hq, hb⟩ => by
    rcases hq with ⟨_, rfl⟩ | ⟨hs, a, cp, h1, _⟩
    · exact ⟨rfl, hb⟩
    · rw [hf] at h1; cases h1
theorem holes_some {t p : List Int} {at0 : Nat} {hs : List Nat} (hf : fitL t p at0 = some hs) (tb to tc sb so sc len g : Nat) (c nm : Int) (ca : Option Addr) (pl cc : Nat) (W : World) (h : Hid (TreeIn W t tb to tc sb so sc)) (hz : Hid (t.length = len)) (hat : at0 < len) (hg : g < W.heap.size) (hbox : W.cell? ⟨g, 0, none⟩ = some (.slice ca pl cc)) (hp : Hid (Ints W ca p)) (hzp : Hid (p.length = pl)) (hlp : pl ≤ 10) (hw : Hid (wholeB true p = true)) :
    Calls Try.prog 41 #[.agg #[.func (.func 54) #[] #[.pointer (some ⟨g, 0, none⟩)], .int .i64 c, .int .i64 nm], .agg #[.slice (some ⟨tb, to, none⟩) len tc, .slice (some ⟨sb, so, none⟩) len sc], .int .i64 (at0 : Int)] W fun e W' => ∃ a cp, e = .returned (.tuple #[.slice a hs.length cp, .bool true]) ∧ Mine W' W.heap.size a (asI hs) ∧ Below W.heap.size W W' :=
  (impl_holes t p tb to tc sb so sc at0 len g c nm ca pl cc W h hz hat hg hbox hp hzp hlp hw).mono fun e W' ⟨hq, hb⟩ => by
    rcases hq with ⟨h1, _⟩ | ⟨hs', a, cp, h1, hl, rfl, hm⟩
    · rw [hf] at h1; cases h1
    · rw [hf] at h1
      cases h1
      exact ⟨a, cp, rfl, hm, hb⟩
/-- The cells of the box that holds the tiling. -/
def Bc (w : World) (b tb to tl tc sb : Nat) (gv : Option Addr) (n gc : Nat) : Prop := b < w.heap.size ∧ w.cell? ⟨b, 0, none⟩ = some (.slice (some ⟨tb, to, none⟩) tl tc) ∧ w.cell? ⟨b, 1, none⟩ = some (.slice (some ⟨sb, 0, none⟩) tl tl) ∧ w.cell? ⟨b, 2, none⟩ = some (.slice gv n gc)
theorem Bc.kept {w w' : World} {b tb to tl tc sb : Nat} {gv : Option Addr} {n gc : Nat} (h : Bc w b tb to tl tc sb gv n gc) (hb : Below w.heap.size w w') : Bc w' b tb to tl tc sb gv n gc :=
  ⟨Nat.lt_of_lt_of_le h.1 hb.size, (hb.cell (p := ⟨b, 0, none⟩) h.1).trans h.2.1, (hb.cell (p := ⟨b, 1, none⟩) h.1).trans h.2.2.1, (hb.cell (p := ⟨b, 2, none⟩) h.1).trans h.2.2.2⟩
theorem Bc.but {w w' : World} {b tb to tl tc sb : Nat} {gv : Option Addr} {n gc : Nat} (h : Bc w b tb to tl tc sb gv n gc) (hs : w.heap.size ≤ w'.heap.size) (hb : w'.heap[b]? = w.heap[b]?) : Bc w' b tb to tl tc sb gv n gc :=
  ⟨Nat.lt_of_lt_of_le h.1 hs, (World.cell?_of_block hb).trans h.2.1, (World.cell?_of_block hb).trans h.2.2.1, (World.cell?_of_block hb).trans h.2.2.2⟩
theorem asI_get (l : List Nat) (j : Nat) (hj : j < l.length) : (asI l).getD j 0 = ((l.getD j 0 : Nat) : Int) := by
  unfold asI
  simp only [List.getD, List.getElem?_map, List.getElem?_eq_getElem hj]
  rfl
theorem own_form9 {w : World} {B : Nat} {v : Value} {zs : List Int} (h : ints.Own w B v zs) : ∃ a c, v = .slice a zs.length c ∧ zs.length ≤ c ∧ c ≤ maxLen := by
  have h0 : World.ownsRow w B 3 1 v zs.length (zs.map (Value.int .i64)) := h
  rcases h0.2 with ⟨rfl, hn⟩ | ⟨g, cap, cur, rfl, _, _, hmc, hcm, _⟩
  · exact ⟨none, 0, by rw [hn], by omega, by unfold maxLen; omega⟩
  · exact ⟨_, cap, rfl, hmc, hcm⟩
/-- What a call of cover answers. -/
def CovAns (t : List Int) (f : Nat → Pv) (n : Nat) (z : List Int) (len tbx : Nat) (W0 : World) (e : Ending) (W' : World) : Prop := ((goC t f n z len 0 [0] = none ∧ e = .returned (.tuple #[.slice none 0 0, .int .i64 0, .bool false])) ∨ ∃ i v, goC t f n z len 0 [0] = some i ∧ e = .returned (.tuple #[v, .int .i64 (costTo f z i), .bool true]) ∧ W'.cell? ⟨tbx, 0, none⟩ = some (.int .i64 (i : Int))) ∧ tbx < W'.heap.size ∧ Below tbx W0 W'
theorem piece_parts : ∃ i, Try.prog.info? 67 = some i ∧ i.zero = some (.agg #[.int .i64 0, .int .i64 0]) ∧ i.size = 2 ∧ i.bytes = 16 := by
  have h : (Try.prog.info? 67).map (fun i => (i.zero, i.size, i.bytes)) = some (some (.agg #[.int .i64 0, .int .i64 0]), 2, 16) := by kernel_rfl
  cases hi : Try.prog.info? 67 with
  | none => rw [hi] at h; cases h
  | some i =>
    rw [hi] at h
    simp at h
    exact ⟨i, rfl, h.1, h.2.1, h.2.2⟩
/-- Pieces that a call has made itself. -/
def OwnP (w : World) (B : Nat) (v : Value) (m : Nat) : Prop := ∃ L, w.ownsRow B 67 2 v m L
theorem OwnP.kept {w w' : World} {B m : Nat} {v : Value} (h : OwnP w B v m) (hb : Below w.heap.size w w') : OwnP w' B v m := by
  obtain ⟨L, h⟩ := h
  exact ⟨L, World.ownsRow.kept h (row := none) ⟨hb.os, hb.tape, hb.output, hb.size, fun i hi _ => hb.block i hi⟩ (by
    cases q : v.ownBlock with
    | none => exact Or.inl rfl
    | some g => exact Or.inr (by simp))⟩
theorem own_set9 {w : World} {B m c i size : Nat} {ty : TypeId} {v u : Value} {L : List Value} (h : w.ownsRow B ty size v m L) (hc : c < B) : (w.setCell ⟨c, i, none⟩ u).ownsRow B ty size v m L :=
  World.ownsRow.kept h (row := some c) ⟨rfl, rfl, rfl, by simp [World.setCell], fun k hk hne => Below.heap_setCell _ _ _ _ (by simpa using hne)⟩ (by
    cases q : v.ownBlock with
    | none => exact Or.inl rfl
    | some g =>
      refine Or.inr fun e => ?_
      have := (World.ownsRow.lt h g q).1
      simp at e
      omega)
theorem own_drewN {w : World} {B m size : Nat} {ty : TypeId} {v : Value} {L : List Value} (h : w.ownsRow B ty size v m L) (q : Nat) : (w.drewN q).ownsRow B ty size v m L := h
theorem new_two9 (w : World) (x y : Value) (t : TypeId) : ∀ (j : Nat) (u : Value), [x, y][j]? = some u → (w.alloc (.cells #[x, y] t)).cell? ((⟨w.heap.size, 0, none⟩ : Addr).add j) = some u := by
  intro j u hj
  match j, hj with
  | 0, hj => simp at hj; subst hj; simp [Addr.add]
  | 1, hj => simp at hj; subst hj; simp [Addr.add]
  | j + 2, hj => simp at hj
/-- Rows of other types lie elsewhere. -/
theorem own_apart {w : World} {B B' m m' size size' : Nat} {ty ty' : TypeId} {v v' : Value} {L L' : List Value} (h : w.ownsRow B ty size v m L) (h' : w.ownsRow B' ty' size' v' m' L') (hne : ty ≠ ty') : v'.ownBlock = none ∨ v'.ownBlock ≠ v.ownBlock := by
  rcases h.2 with ⟨rfl, _⟩ | ⟨g, c, cur, rfl, _, hb, _⟩
  · cases q : v'.ownBlock with
    | none => exact Or.inl rfl
    | some x => exact Or.inr (by simp [Value.ownBlock])
  · rcases h'.2 with ⟨rfl, _⟩ | ⟨g', c', cur', rfl, _, hb', _⟩
    · exact Or.inl rfl
    · refine Or.inr fun e => ?_
      simp [Value.ownBlock] at e
      subst e
      rw [hb] at hb'
      simp at hb'
      exact hne hb'.2
end Go.Proofs.Ytapbfoooflpejaa.walks
