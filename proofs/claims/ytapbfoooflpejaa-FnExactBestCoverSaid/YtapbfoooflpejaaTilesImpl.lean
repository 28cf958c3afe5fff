/-
  What the program's tilesOf and GoodPatterns answer; they make new memory alone.
-/
import Derived.Test.YtapbfoooflpejaaProg
import Derived.Test.YtapbfoooflpejaaMagMath
import Derived.Test.YtapbfoooflpejaaTreeMath
import Derived.Test.YtapbfoooflpejaaPatSpec
import Derived.Test.YtapbfoooflpejaaPatImpl
import Derived.Test.YtapbfoooflpejaaInts
import Derived.Test.YtapbfoooflpejaaPats
import Derived.WalkKit
import Derived.WalkSpells
import Derived.Below
import Derived.Handy
import Derived.OwnWalk
import Derived.Laws.OwnMore
import Derived.Maps.AppendAt
import Derived.Laws.EntriesVeiled
namespace Go.Proofs.Ytapbfoooflpejaa.walks
open Go.RowKit Go.Proofs.Ytapbfoooflpejaa.math Go.Proofs.Ytapbfoooflpejaa.ints
set_option linter.unusedVariables false
set_option maxRecDepth 100000

theorem ints_ab {W : World} {a : Option Addr} {zs : List Int} {len : Nat} (h : Ints W a zs) (hz : zs.length = len) : ∀ b o, a = some ⟨b, o, none⟩ → 0 < len → b < W.heap.size := by
  intro b o e h0
  rcases h with h | ⟨b', o', e', hl, _⟩
  · rw [h] at hz; simp at hz; omega
  · rw [e] at e'
    simp only [Option.some.injEq, Addr.mk.injEq] at e'
    omega
/-- The value of a tile's function. -/
def shapeV (g : Nat) : Value := .func (.func 54) #[] #[.pointer (some ⟨g, 0, none⟩)]
/-- The cells of the first k tiles. -/
def tileL (f : Nat → Pv) (G : Nat → Nat) : Nat → List Value
  | 0 => []
  | k + 1 => tileL f G k ++ [shapeV (G k), .int .i64 (f k).c, .int .i64 (namedTo (f k).zs (f k).zs.length : Int)]
theorem tileL_len (f : Nat → Pv) (G : Nat → Nat) : ∀ k, (tileL f G k).length = k * 3
  | 0 => rfl
  | k + 1 => by simp only [tileL, List.length_append, tileL_len f G k, List.length_cons, List.length_nil]; omega
theorem tileL_congr {f : Nat → Pv} {G G' : Nat → Nat} : ∀ k, (∀ j, j < k → G j = G' j) → tileL f G k = tileL f G' k
  | 0, _ => rfl
  | k + 1, h => by simp only [tileL]; rw [tileL_congr k (fun j hj => h j (by omega)), h k (by omega)]
theorem tileL_at (f : Nat → Pv) (G : Nat → Nat) : ∀ (n i : Nat), i < n → (tileL f G n)[i * 3]? = some (shapeV (G i)) ∧ (tileL f G n)[i * 3 + 1]? = some (.int .i64 (f i).c) ∧ (tileL f G n)[i * 3 + 2]? = some (.int .i64 (namedTo (f i).zs (f i).zs.length : Int))
  | 0, i, h => by omega
  | n + 1, i, h => by
    have hl := tileL_len f G n
    by_cases e : i = n
    · subst e
      simp only [tileL]
      rw [List.getElem?_append_right (by omega), List.getElem?_append_right (by omega), List.getElem?_append_right (by omega), hl]
      simp
    · have ih := tileL_at f G n i (by omega)
      simp only [tileL]
      rw [List.getElem?_append_left (by omega), List.getElem?_append_left (by omega), List.getElem?_append_left (by omega)]
      exact ih
def OwnT (w : World) (B : Nat) (v : Value) (k : Nat) (f : Nat → Pv) (G : Nat → Nat) : Prop := w.ownsRow B 86 3 v k (tileL f G k)
/-- A box of kinds. -/
def BoxK (W w : World) (g : Nat) (p : Pv) : Prop := ∃ a c, w.rowIs g 22 1 (fun _ => .slice a p.zs.length c) ∧ Ints W a p.zs
theorem tile_parts : ∃ i, Try.prog.info? 86 = some i ∧ i.zero = some (.agg #[.nilFunc, .int .i64 0, .int .i64 0]) ∧ i.size = 3 ∧ i.bytes = 24 := by
  have h : (Try.prog.info? 86).map (fun i => (i.zero, i.size, i.bytes)) = some (some (.agg #[.nilFunc, .int .i64 0, .int .i64 0]), 3, 24) := by kernel_rfl
  cases hi : Try.prog.info? 86 with
  | none => rw [hi] at h; cases h
  | some i =>
    rw [hi] at h
    simp at h
    exact ⟨i, rfl, h.1, h.2.1, h.2.2⟩
theorem ownT_ne {w : World} {B m g n : Nat} {v : Value} {ls : List Value} {t : TypeId} {f : Nat → Value} (h : w.ownsRow B 86 3 v m ls) (q : w.rowIs g t n f) (ht : t ≠ 86) : some g ≠ v.ownBlock := by
  intro e
  rcases h.2 with ⟨rfl, _⟩ | ⟨g', c, cur, rfl, _, hb, _⟩
  · cases e
  · simp [Value.ownBlock] at e
    subst e
    obtain ⟨c', e', _⟩ := q
    rw [hb] at e'
    simp at e'
    exact ht e'.2.symm
theorem ownT_kept {w w' : World} {B : Nat} {v : Value} {m : Nat} {ls : List Value} (h : w.ownsRow B 86 3 v m ls) (hb : Below w.heap.size w w') : w'.ownsRow B 86 3 v m ls :=
  World.ownsRow.kept h (row := none) ⟨hb.os, hb.tape, hb.output, hb.size, fun i hi _ => hb.block i hi⟩ (by
    cases q : v.ownBlock with
    | none => exact Or.inl rfl
    | some g => exact Or.inr (by simp))
theorem row_kept {w w' : World} {g n : Nat} {t : TypeId} {f : Nat → Value} (h : w.rowIs g t n f) (hb : Below w.heap.size w w') : w'.rowIs g t n f := h.of_block (hb.block _ h.lt)
/-- What a call of tilesOf answers. -/
def TilesAns (f : Nat → Pv) (n : Nat) (W : World) (e : Ending) (W' : World) : Prop := (patsB f n = false ∧ e = .returned (.tuple #[.slice none 0 0, .bool false]) ∨ patsB f n = true ∧ ∃ v G, e = .returned (.tuple #[v, .bool true]) ∧ OwnT W' W.heap.size v n f G ∧ ∀ j, j < n → BoxK W W' (G j) (f j)) ∧ Below W.heap.size W W'
theorem pats_many {f : Nat → Pv} {n : Nat} (h : 12 < n) : patsB f n = false := decide_eq_false (fun q => by have := q.1; omega)
theorem new_three (w : World) (x y z : Value) (t : TypeId) : ∀ (j : Nat) (u : Value), [x, y, z][j]? = some u → (w.alloc (.cells #[x, y, z] t)).cell? ((⟨w.heap.size, 0, none⟩ : Addr).add j) = some u := by
  intro j u hj
  match j, hj with
  | 0, hj => simp at hj; subst hj; simp [Addr.add]
  | 1, hj => simp at hj; subst hj; simp [Addr.add]
  | 2, hj => simp at hj; subst hj; simp [Addr.add]
  | j + 3, hj => simp at hj
set_option maxHeartbeats 4000000 in
theorem impl_tiles (a : Option Addr) (n cap : Nat) (f : Nat → Pv) (W : World) (hn : n ≤ 1048576) (hlen : Hid (∀ k, k < n → (f k).zs.length ≤ 1048576)) (h : Hid (Pats W a n f)) :
    Calls Try.prog 38 #[.slice a n cap] W fun e W' => TilesAns f n W e W' := by
  obtain ⟨i0, hi, hz0, hz1, hz2⟩ := tile_parts
  by_cases h12 : 12 < n
  · have HE : Hid (patsB f n = false) := pats_many h12
    have hnI : (12 : Int) < (n : Int) := by omega
    go_enter Try.func38, Try.ntmps38
    go_wp2
    go_ret2
    exact ⟨Or.inl ⟨HE.out, rfl⟩, Below.refl _ _⟩
  have hnI : (n : Int) ≤ 12 := by omega
  have hnN : n ≤ 12 := by omega
  clear h12
  go_enter Try.func38, Try.ntmps38
  go_wp2_with fail
  go_loopw [4, 14] (fun vt vi wr => ∃ (k : Nat) (v : Value) (G : Nat → Nat), k ≤ n ∧ vi = .int .i64 (k : Int) ∧ vt = v ∧ Hid (∀ j, j < k → patB (f j).zs (f j).c = true) ∧ Hid (OwnT wr W.heap.size v k f G) ∧ Hid (∀ j, j < k → BoxK W wr (G j) (f j)) ∧ Hid (Below W.heap.size W wr)) (fun _ vi _ => n - (intOf vi).toNat)
  case atStart => exact ⟨0, _, fun _ => 0, Nat.zero_le _, rfl, rfl, fun j hj => by omega, World.ownsRow_nil _ _ _ _, fun j hj => by omega, Below.refl _ _⟩
  case round =>
    obtain ⟨k, v, G, hk, rfl, hvt, HG, HO, HK, HB⟩ := hrel
    have hvt := hvt.symm
    subst hvt
    by_cases hlt : k < n
    · obtain ⟨b, off, ca, cc, ha, hb, c0, c1, hI⟩ := pat_at h.out HB.out hlt
      obtain ⟨b', off', ca', cc', ha', _, c0', _, hI'⟩ := pat_at h.out (Below.refl _ _) hlt
      subst ha
      obtain ⟨rfl, rfl⟩ : b = b' ∧ off = off' := by simpa using ha'
      obtain ⟨rfl, rfl⟩ : ca = ca' ∧ cc = cc' := by
        rw [HB.out.cell (p := ⟨b, off + k * 2, none⟩) hb, c0'] at c0
        simp at c0
        exact ⟨c0.1.symm, c0.2.symm⟩
      have HI : Hid (Ints wr ca (f k).zs) := hI
      have HI0 : Hid (Ints W ca (f k).zs) := hI'
      have HL := hlen.out k hlt
      clear hI hI' c0' ha'
      have hbw : b < wr.heap.size := by have := HB.out.size; omega
      have hltI : (k : Int) < (n : Int) := by omega
      go_wp2_with fail
      obtain ⟨X, hX⟩ : ∃ X, Hid (wr.alloc (.cells #[.slice ca (f k).zs.length cc, .int .i64 (f k).c] 50) = X) := ⟨_, rfl⟩
      have HX : Hid (Below wr.heap.size wr X) := by show Below _ _ _; rw [← hX.out]; repeat (first | exact Below.refl _ _ | refine Below.drew ?_ | refine Below.setCell ?_ (by simp; try omega) _ | refine Below.alloc ?_ (by simp; try omega) _)
      rw [hX.out]
      have HIX : Hid (Ints X ca (f k).zs) := HI.out.kept HX.out
      have hXs : X.heap.size = wr.heap.size + 1 := by rw [← hX.out]; simp
      have hws := HB.out.size
      refine (impl_tile _ _ _ _ (f k).zs _ rfl HL HIX (ints_ab HIX.out rfl)).mono ?_
      rintro e w1 ⟨x, y, z, rfl, hgood, hbad, hB1⟩
      have hs1 := hB1.size
      have HX1 : Hid (Below wr.heap.size wr w1) := HX.out.trans (hB1.mono (by omega))
      have HB1 : Hid (Below W.heap.size W w1) := HB.out.trans (HX1.out.mono (by omega))
      cases hp : patB (f k).zs (f k).c
      · have HE : Hid (patsB f n = false) := pats_bad hlt hp
        obtain ⟨rfl, rfl, rfl⟩ := hbad hp
        clear hB1 hgood hbad
        go_wp2
        go_ret2
        exact ⟨Or.inl ⟨HE.out, rfl⟩, HB1.out.alloc HB1.out.size _⟩
      · obtain ⟨rfl, rfl, g, rfl, hgX, hrow⟩ := hgood hp
        have HG' : Hid (∀ j, j < k + 1 → patB (f j).zs (f j).c = true) := by
          show ∀ j, _ → _
          intro j hj
          by_cases e : j = k
          · rw [e]; exact hp
          · exact HG.out j (by omega)
        have HO1 : Hid (OwnT w1 W.heap.size v k f G) := ownT_kept HO.out HX1.out
        have HK1 : Hid (∀ j, j < k → BoxK W w1 (G j) (f j)) := fun j hj => by
          obtain ⟨a1, c1, r1, i1⟩ := HK.out j hj
          exact ⟨a1, c1, row_kept r1 HX1.out, i1⟩
        have HKN : Hid (BoxK W w1 g (f k)) := ⟨ca, cc, hrow, HI0.out⟩
        obtain ⟨nm, hnm⟩ : ∃ nm : Nat, Hid (namedTo (f k).zs (f k).zs.length = nm) := ⟨_, rfl⟩
        obtain ⟨cst, hcs⟩ : ∃ cst : Int, Hid ((f k).c = cst) := ⟨_, rfl⟩
        have HTL : Hid (tileL f (updPN G k g) (k + 1) = tileL f G k ++ [shapeV g, .int .i64 cst, .int .i64 (nm : Int)]) := by
          show _ = _
          simp only [tileL]
          rw [tileL_congr (G := updPN G k g) (G' := G) k (fun j hj => updPN_other _ _ (by omega)), updPN_same, hcs.out, hnm.out]
        rw [hnm.out, hcs.out]
        have hshape : Hid (Value.func (.func 54) #[] #[.pointer (some ⟨g, 0, none⟩)] = shapeV g) := rfl
        clear hB1 hrow HK HO HI HIX hgood hbad c0 c1 hX
        go_wp2_with (first
          | (at_builtin; refine wpList_append_own_at _ rfl _ _ 54 rfl W.heap.size 86 i0 (.agg #[.nilFunc, .int .i64 0, .int .i64 0]) 3 24 Try.underlying54 hi hz0 hz1 hz2 rfl (by decide) _ k (tileL f G k) rfl (World.ownsRow.alloc (World.ownsRow.alloc HO1.out _) _) ⟨w1.heap.size + 1, 0, none⟩ 1 1 [shapeV g, .int .i64 cst, .int .i64 (nm : Int)] rfl rfl ?a1 ?a2 ?a3 ?a4 ?a5 ?_)
          | fail)
        case a1 =>
          have q := new_three (w1.alloc (.cells #[shapeV g, .int .i64 cst, .int .i64 (nm : Int)] 86)) (shapeV g) (.int .i64 cst) (.int .i64 (nm : Int)) 86
          simp only [World.size_alloc] at q
          exact q
        case a2 =>
          intro u hu
          simp at hu
          rcases hu with rfl | rfl | rfl <;> rfl
        case a3 => unfold maxLen; omega
        case a4 => omega
        case a5 => simp; omega
        intro v2 w2 hown' hgrow _ _
        have hs2 := hgrow.size
        simp only [World.size_alloc] at hs2
        have HB2 : Hid (Below W.heap.size W w2) := ((HB1.out.alloc HB1.out.size _).alloc (by simp; omega) _).grown hgrow (by simp; omega) (fun j hj => (World.ownsRow.lt HO1.out j hj).1)
        have HO2 : Hid (OwnT w2 W.heap.size v2 (k + 1) f (updPN G k g)) := by show World.ownsRow _ _ _ _ _ _ _; rw [HTL.out]; exact hown'
        have hkeep : ∀ g' p, BoxK W w1 g' p → BoxK W w2 g' p := fun g' p ⟨a1, c1, r1, i1⟩ => ⟨a1, c1, ((r1.alloc _).alloc _).of_block (hgrow.block g' (by have := r1.lt; simp; omega) (ownT_ne HO1.out r1 (by decide))), i1⟩
        have HK2 : Hid (∀ j, j < k + 1 → BoxK W w2 (updPN G k g j) (f j)) := by
          show ∀ j, _ → _
          intro j hj
          by_cases e : j = k
          · subst e; rw [updPN_same]; exact hkeep _ _ HKN.out
          · rw [updPN_other _ _ e]; exact hkeep _ _ (HK1.out j (by omega))
        clear hown' hgrow hkeep
        go_wp2
        go_roundw
        case rel => exact ⟨k + 1, v2, updPN G k g, by omega, by go_num, rfl, HG', HO2, HK2, HB2⟩
        case measure => simp [intOf]; omega
    · have hkn : k = n := by omega
      subst hkn
      have HE : Hid (patsB f k = true) := decide_eq_true ⟨hnN, HG.out⟩
      go_wp2
      go_ret2
      exact ⟨Or.inr ⟨HE.out, _, G, rfl, HO.out, HK.out⟩, HB.out⟩
end Go.Proofs.Ytapbfoooflpejaa.walks
