/-
  What slices.Grow of nothing and slices.Concat of two lists answer; they make new memory alone.
-/
import Derived.Test.YtapbfoooflpejaaProg
import Derived.Test.YtapbfoooflpejaaInts
import Derived.Test.YtapbfoooflpejaaOwnInts
import Derived.WalkKit
import Derived.WalkSpells
import Derived.Below
import Derived.Handy
import Derived.OwnWalk
import Derived.Maps.AppendAt
import Derived.Lib.AppendZeros
import Derived.Laws.AppendOwnNone
namespace Go.Proofs.Ytapbfoooflpejaa.walks
open Go.RowKit Go.Proofs.Ytapbfoooflpejaa.ints
set_option linter.unusedVariables false
set_option maxRecDepth 100000

set_option maxHeartbeats 1000000 in
theorem grow_nil (n : Nat) (W : World) (hn : n ≤ 100) :
    Calls Try.prog 50 #[.slice none 0 0, .int .i64 (n : Int)] W fun e W' => ∃ v, e = .returned v ∧ W'.ownsRow W.heap.size 3 1 v 0 [] ∧ Below W.heap.size W W' := by
  obtain ⟨i0, hi, hz0, hz1, hz2⟩ := info_parts row_info
  by_cases h0 : n = 0
  · subst h0
    go_enter Try.func50, Try.ntmps50
    go_wp2
    go_ret
    exact ⟨_, rfl, World.ownsRow_nil _ _ _ _, Below.refl _ _⟩
  have hnI : 0 < (n : Int) := by omega
  have hap : ∀ (w : World) (ty : TypeId), (Builtin.append_ #[22, 3] ty #[.slice none 0 0, .int .i64 (n : Int)]).run Try.prog w = .ok (.slice (some ⟨w.heap.size, 0, none⟩) n (grownCap w n 0 3)) (w.drew.alloc (.cells (Builtin.zeroCells (Value.int .i64 0).cells n ++ Builtin.zeroCells (Value.int .i64 0).cells (grownCap w n 0 3 - n)) 3)) := fun w ty =>
    Go.Lib.run_append_nil_zeros w 22 3 ty 3 i0 (.int .i64 0) .i64 .i64 Try.underlying22 Try.underlying3 hi hz0 n (by omega) (by omega) (by omega) (by rw [hz2]; omega)
  have hge := grownCap_ge W n 0 3
  have hle := grownCap_le_maxLen W n 0 3 (by unfold maxLen; omega)
  obtain ⟨cp, hcp⟩ : ∃ cp, Hid (grownCap W n 0 3 = cp) := ⟨_, rfl⟩
  obtain ⟨cs, hcs⟩ : ∃ cs : Array Value, Hid (Builtin.zeroCells (Value.int .i64 0).cells n ++ Builtin.zeroCells (Value.int .i64 0).cells (cp - n) = cs) := ⟨_, rfl⟩
  have hap2 : ∀ ty : TypeId, (Builtin.append_ #[22, 3] ty #[.slice none 0 0, .int .i64 (n : Int)]).run Try.prog W = .ok (.slice (some ⟨W.heap.size, 0, none⟩) n cp) (W.drew.alloc (.cells cs 3)) := fun ty => by rw [hap W ty, hcp.out, hcs.out]
  rw [hcp.out] at hge hle
  have HSZ : Hid (cs.size = cp) := by
    show _ = _
    rw [← hcs.out]
    have hzc : ∀ k, (Builtin.zeroCells (Value.int .i64 0).cells k).size = k := fun k => by simp [Builtin.zeroCells, Value.cells]
    rw [Array.size_append, hzc, hzc]
    omega
  unfold maxLen at hle
  have hgeI : (n : Int) ≤ (cp : Int) := by omega
  clear hap
  go_enter Try.func50, Try.ntmps50
  go_wp2_with (at_builtin; refine Go.Lib.wpList_append_run _ rfl _ _ _ _ rfl _ _ rfl rfl _ _ (hap2 _) ?_)
  all_goals go_ret
  refine ⟨_, rfl, ⟨rfl, Or.inr ⟨W.heap.size, cp, cs, rfl, Nat.le_refl _, ?_, Nat.zero_le _, by unfold maxLen; omega, by rw [HSZ.out]; omega, by simp⟩⟩, ?_⟩
  · show (W.heap.push _)[W.heap.size]? = _
    exact Array.getElem?_push_size
  · exact (Below.refl _ _).drew.alloc (Nat.le_refl _) _
theorem mine_newsI {w : World} {a : Option Addr} {zs : List Int} (h : Ints w a zs) : ∀ b o, a = some ⟨b, o, none⟩ → ∀ (j : Nat) (u : Value), (zs.map (Value.int .i64))[j]? = some u → w.cell? ((⟨b, o, none⟩ : Addr).add j) = some u := by
  intro b o e j u hj
  have hjl : j < zs.length := by
    by_cases q : j < zs.length
    · exact q
    · rw [List.getElem?_eq_none (by simpa using q)] at hj; cases hj
  rcases h with h | ⟨b', o', e', hl, hc⟩
  · rw [h] at hjl; simp at hjl
  · rw [e] at e'
    simp only [Option.some.injEq, Addr.mk.injEq] at e'
    obtain ⟨rfl, rfl, _⟩ := e'
    have ha : (⟨b, o, none⟩ : Addr).add j = ⟨b, o + j, none⟩ := by
      unfold Addr.add
      split
      · rename_i h; subst h; rfl
      · rfl
    rw [ha, hc j hjl]
    rw [List.getElem?_map, List.getElem?_eq_getElem hjl] at hj
    simp at hj
    subst hj
    simp [List.getD, List.getElem?_eq_getElem hjl]
theorem run_none9 {P : Program} {w : World} (base : Nat) (t ty e : TypeId) (i : TypeInfo) (size c : Nat) (ht : P.underlying t = some (.slice e)) (hi : P.info? e = some i)
    (v : Value) (n : Nat) (xs : List Value) (hown : w.ownsRow base e size v n xs) :
    (Builtin.append_ #[t, t] ty #[v, .slice none 0 c]).run P w = .ok v w := by
  rcases hown.2 with ⟨rfl, rfl⟩ | ⟨g, cap, cur, rfl, _, _, hnc, _⟩
  · simp [Builtin.append_, run_underlying ht, sizeOf, typeInfo, hi, Builtin.lenOf, Builtin.firstCells]
  · simp [Builtin.append_, run_underlying ht, sizeOf, typeInfo, hi, Builtin.lenOf, Builtin.firstCells, hnc, storeCells]
theorem append_none9 {P : Program} {w : World} {ops : Array Oper} {rest : List Oper} {o : Oper} {a : Act} {Q : Exit → Act → World → Prop} (hgd : o.guard = none) (s x : Operand) (t : TypeId)
    (ho : o.op = .call { callee := .builtin .append, args := #[s, x], argTypes := #[t, t] })
    (base : Nat) (e : TypeId) (i : TypeInfo) (size c : Nat) (ht : P.underlying t = some (.slice e)) (hi : P.info? e = some i)
    (v : Value) (n : Nat) (xs : List Value) (hs : a.eval s = v) (hown : w.ownsRow base e size v n xs) (hx : a.eval x = .slice none 0 c)
    (h : wpList P ops Q rest (a.put o.dst v) w) : wpList P ops Q (o :: rest) a w := by
  refine wpList_plain hgd fun K hK => ?_
  have hrun := run_none9 (P := P) (w := w) base t o.type e i size c ht hi v n xs hown
  unfold Oper.wp
  simp [execOp, ho, resolve, invoke, builtin, hs, hx, hrun, Result.andThen]
  exact hK _ _ h
/-- A list put behind one that a call has made itself. -/
theorem append_list {w : World} {ops : Array Oper} {rest : List Oper} {o : Oper} {a : Act} {Q : Exit → Act → World → Prop} (hgd : o.guard = none) (s x : Operand)
    (ho : o.op = .call { callee := .builtin .append, args := #[s, x], argTypes := #[22, 22] }) (B : Nat) (v : Value) (xs : List Int) (hs : a.eval s = v) (hown : ints.Own w B v xs)
    (sa : Option Addr) (m c : Nat) (zs : List Int) (hx : a.eval x = .slice sa m c) (hl : zs.length = m) (hi : Ints w sa zs) (hB : B ≤ w.heap.size) (h1 : xs.length + m ≤ 1000)
    (h : ∀ v' w', ints.Own w' B v' (xs ++ zs) → w.grownBy w' v.ownBlock → wpList Try.prog ops Q rest (a.put o.dst v') w') : wpList Try.prog ops Q (o :: rest) a w := by
  obtain ⟨i0, hi0, hz00, hz01, hz02⟩ := info_parts row_info
  cases sa with
  | none =>
    have hz : zs = [] := by
      rcases hi with h | ⟨b, off, e, _⟩
      · exact h
      · cases e
    subst hz
    simp at hl
    subst hl
    refine append_none9 hgd s x 22 ho B 3 i0 1 c Try.underlying22 hi0 v xs.length (xs.map (Value.int .i64)) hs hown hx ?_
    exact h v w (by rw [List.append_nil]; exact hown) ⟨rfl, rfl, rfl, Nat.le_refl _, fun _ _ _ => rfl⟩
  | some ad =>
    obtain ⟨b, off, spot⟩ := ad
    have hspot : 0 < m → spot = none := fun h0 => by
      rcases hi with h | ⟨b', off', e, _⟩
      · rw [h] at hl; simp at hl; omega
      · simp only [Option.some.injEq, Addr.mk.injEq] at e
        exact e.2.2
    refine wpList_append_own_at w hgd s x 22 ho B 3 i0 (.int .i64 0) 1 8 Try.underlying22 hi0 hz00 hz01 hz02 rfl (by decide) v xs.length (xs.map (Value.int .i64)) hs hown ⟨b, off, spot⟩ m c (zs.map (Value.int .i64)) hx (by simp; omega) ?_ (fun u hu => by simp at hu; obtain ⟨y, _, rfl⟩ := hu; rfl) (by unfold maxLen; omega) (by omega) hB ?_
    · intro j u hj
      have hjl : j < zs.length := by
        by_cases q : j < zs.length
        · exact q
        · rw [List.getElem?_eq_none (by simpa using q)] at hj; cases hj
      obtain rfl := hspot (by omega)
      exact mine_newsI hi b off rfl j u hj
    · intro v' w' ho' hg _ _
      refine h v' w' ?_ hg
      unfold ints.Own
      rw [List.length_append, List.map_append, hl]
      exact ho'
theorem own_belowI {W wr w1 : World} {B : Nat} {u v' : Value} {zs : List Int} (hown : ints.Own wr B u zs) (hB : B ≤ wr.heap.size) (hb : Below B W wr) (hgrow : wr.grownBy w1 u.ownBlock) : Below B W w1 ∧ B ≤ w1.heap.size :=
  ⟨hb.grown hgrow hB (fun j hj => (World.ownsRow.lt hown j hj).1), by have := hgrow.size; omega⟩
set_option maxHeartbeats 2000000 in
theorem impl_concat (sb : Nat) (a1 a2 : Option Addr) (n1 n2 c1 c2 : Nat) (z1 z2 : List Int) (W : World) (hb : sb < W.heap.size) (h0 : W.cell? ⟨sb, 0, none⟩ = some (.slice a1 n1 c1)) (h1 : W.cell? ⟨sb, 1, none⟩ = some (.slice a2 n2 c2)) (hz1 : Hid (z1.length = n1)) (hz2 : Hid (z2.length = n2)) (hn1 : n1 ≤ 40) (hn2 : n2 ≤ 40) (i1 : Hid (Ints W a1 z1)) (i2 : Hid (Ints W a2 z2)) :
    Calls Try.prog 42 #[.slice (some ⟨sb, 0, none⟩) 2 2] W fun e W' => ∃ v, e = .returned v ∧ ints.Own W' W.heap.size v (z1 ++ z2) ∧ Below W.heap.size W W' := by
  obtain ⟨i0, hi, hz00, hz01, hz02⟩ := info_parts row_info
  have H0 : Hid (W.cell? ⟨sb, 0, none⟩ = some (.slice a1 n1 c1)) := h0
  have H1 : Hid (W.cell? ⟨sb, 1, none⟩ = some (.slice a2 n2 c2)) := h1
  go_enter Try.func42, Try.ntmps42
  go_wp2_with fail
  go_loop [3, 11] (fun vs vi => (vi = .int .i64 0 ∧ vs = .int .i64 0) ∨ (vi = .int .i64 1 ∧ vs = .int .i64 (n1 : Int)) ∨ (vi = .int .i64 2 ∧ vs = .int .i64 ((n1 : Int) + (n2 : Int)))) (fun _ vi => 2 - (intOf vi).toNat)
  case atStart => exact Or.inl ⟨rfl, rfl⟩
  case round =>
    rcases hrel with ⟨rfl, rfl⟩ | ⟨rfl, rfl⟩ | ⟨rfl, rfl⟩
    · go_wp2
      go_round
      case rel => exact Or.inr (Or.inl ⟨rfl, by first | rfl | go_num⟩)
      case measure => simp [intOf]
    · go_wp2
      go_round
      case rel => exact Or.inr (Or.inr ⟨rfl, by first | rfl | go_num⟩)
      case measure => simp [intOf]
    · obtain ⟨m, hm⟩ : ∃ m : Nat, Hid ((n1 : Int) + (n2 : Int) = (m : Int) ∧ m ≤ 100) := ⟨n1 + n2, by omega, by omega⟩
      rw [hm.out.1]
      go_wp2_with fail
      refine (grow_nil m _ hm.out.2).mono ?_
      rintro e w1 ⟨v, rfl, hO, hB⟩
      have HO : Hid (ints.Own w1 W.heap.size v []) := hO
      have HB : Hid (Below W.heap.size W w1) := hB
      have h0 := (hB.cell (p := ⟨sb, 0, none⟩) hb).trans h0
      have h1 := (hB.cell (p := ⟨sb, 1, none⟩) hb).trans h1
      have hb1 : sb < w1.heap.size := Nat.lt_of_lt_of_le hb hB.size
      clear hO hB
      go_wp2_with fail
      go_loopw [6, 27] (fun vn vi wr => ∃ u, vn = u ∧ Hid (Below W.heap.size W wr) ∧ ((vi = .int .i64 0 ∧ Hid (ints.Own wr W.heap.size u ([] : List Int))) ∨ (vi = .int .i64 1 ∧ Hid (ints.Own wr W.heap.size u z1)) ∨ (vi = .int .i64 2 ∧ Hid (ints.Own wr W.heap.size u (z1 ++ z2))))) (fun _ vi _ => 2 - (intOf vi).toNat)
      case atStart => exact ⟨_, rfl, HB, Or.inl ⟨rfl, HO⟩⟩
      case round =>
        obtain ⟨u, hu, HBr, hrel⟩ := hrel
        have hu := hu.symm
        subst hu
        have hsb := HBr.out.size
        have h0 : wr.cell? ⟨sb, 0, none⟩ = some (.slice a1 n1 c1) := (HBr.out.cell (p := ⟨sb, 0, none⟩) hb).trans H0.out
        have h1 : wr.cell? ⟨sb, 1, none⟩ = some (.slice a2 n2 c2) := (HBr.out.cell (p := ⟨sb, 1, none⟩) hb).trans H1.out
        have q1 : ([] : List Int).length + n1 ≤ 1000 := by simp; omega
        have q2 : z1.length + n2 ≤ 1000 := by rw [hz1.out]; omega
        rcases hrel with ⟨rfl, HOr⟩ | ⟨rfl, HOr⟩ | ⟨rfl, HOr⟩
        · go_wp2_with (first
            | (at_builtin; refine append_list rfl _ _ rfl W.heap.size _ ([] : List Int) rfl HOr.out a1 n1 c1 z1 rfl hz1.out (i1.out.kept HBr.out) hsb q1 ?_)
            | fail)
          intro v2 w2 ho2 hg2
          have HO2 : Hid (ints.Own w2 W.heap.size v2 z1) := ho2
          have HB2 : Hid (Below W.heap.size W w2) := (own_belowI (v' := v2) HOr.out hsb HBr.out hg2).1
          clear ho2 hg2
          go_wp2
          go_roundw
          case rel => exact ⟨_, rfl, HB2, Or.inr (Or.inl ⟨rfl, HO2⟩)⟩
          case measure => simp [intOf]
        · go_wp2_with (first
            | (at_builtin; refine append_list rfl _ _ rfl W.heap.size _ z1 rfl HOr.out a2 n2 c2 z2 rfl hz2.out (i2.out.kept HBr.out) hsb q2 ?_)
            | fail)
          intro v2 w2 ho2 hg2
          have HO2 : Hid (ints.Own w2 W.heap.size v2 (z1 ++ z2)) := ho2
          have HB2 : Hid (Below W.heap.size W w2) := (own_belowI (v' := v2) HOr.out hsb HBr.out hg2).1
          clear ho2 hg2
          go_wp2
          go_roundw
          case rel => exact ⟨_, rfl, HB2, Or.inr (Or.inr ⟨rfl, HO2⟩)⟩
          case measure => simp [intOf]
        · go_wp2
          go_ret
          exact ⟨_, rfl, HOr.out, HBr.out⟩
end Go.Proofs.Ytapbfoooflpejaa.walks
