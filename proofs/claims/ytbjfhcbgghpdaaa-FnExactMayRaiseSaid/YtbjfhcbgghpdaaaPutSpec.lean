/-
  What the specification's l1Put and l1Has answer, at every short list: a number put into its place, and whether it is there.
-/
import Derived.Test.YtbjfhcbgghpdaaaProg
import Derived.Test.YtbjfhcbgghpdaaaMagMath
import Derived.Test.YtbjfhcbgghpdaaaNamesMath
import Derived.Test.YtbjfhcbgghpdaaaInts
import Derived.Test.YtbjfhcbgghpdaaaOwnInts
import Derived.Laws.AppendOwnNone
import Derived.WalkKit
import Derived.WalkSpells
import Derived.Below
import Derived.Handy
namespace Go.Proofs.Ytbjfhcbgghpdaaa.walks
open Go.RowKit Go.Proofs.Ytbjfhcbgghpdaaa.math Go.Proofs.Ytbjfhcbgghpdaaa.ints
set_option linter.unusedVariables false

/-- The value v is nil and the list is none, or it leads to the list's numbers. -/
def LRow (w : World) (v : Value) (zs : List Int) : Prop :=
  (zs = [] ∧ v = .slice none 0 0) ∨ ∃ b off cap, v = .slice (some ⟨b, off, none⟩) zs.length cap ∧ zs.length ≤ cap ∧ b < w.heap.size ∧ ∀ i, i < zs.length → w.cell? ⟨b, off + i, none⟩ = some (.int .i64 (zs.getD i 0))
theorem LRow.kept {w w' : World} {v : Value} {zs : List Int} (h : LRow w v zs) (hb : Below w.heap.size w w') : LRow w' v zs := by
  rcases h with h | ⟨b, off, cap, e, hc, hl, hx⟩
  · exact Or.inl h
  · exact Or.inr ⟨b, off, cap, e, hc, Nat.lt_of_lt_of_le hl hb.size, fun i hi => (hb.cell (p := ⟨b, off + i, none⟩) hl).trans (hx i hi)⟩
theorem LRow.ints {w : World} {v : Value} {zs : List Int} (h : LRow w v zs) : ∃ a cap, v = .slice a zs.length cap ∧ Ints w a zs := by
  rcases h with ⟨rfl, rfl⟩ | ⟨b, off, cap, e, hc, hl, hx⟩
  · exact ⟨none, 0, rfl, Or.inl rfl⟩
  · exact ⟨_, cap, e, Or.inr ⟨b, off, rfl, hl, hx⟩⟩
theorem LRow.own {w : World} {B : Nat} {v : Value} {zs : List Int} (h : Own w B v zs) (h0 : 0 < zs.length) : LRow w v zs := by
  have hc := h
  rcases h.2 with ⟨_, hn⟩ | ⟨g, cap, cur, rfl, hg, hw, hle, _, _, _⟩
  · omega
  · obtain ⟨a, cap', e, hM⟩ := hc.mine
    simp only [Value.slice.injEq] at e
    obtain ⟨rfl, _, rfl⟩ := e
    rcases hM.ints with e | ⟨b, off, e, hl, hx⟩
    · rw [e] at h0; simp at h0
    · exact Or.inr ⟨b, off, cap, by rw [e], hle, hl, hx⟩
theorem part_news {w : World} {b off : Nat} {zs : List Int} (k m : Nat) (hkm : k + m ≤ zs.length) (hc : ∀ i, i < zs.length → w.cell? ⟨b, off + i, none⟩ = some (.int .i64 (zs.getD i 0))) : ∀ (j : Nat) (u : Value), (((zs.drop k).take m).map (Value.int .i64))[j]? = some u → w.cell? ((⟨b, off + k, none⟩ : Addr).add j) = some u := by
  intro j u hj
  rw [List.getElem?_map] at hj
  have ha : (⟨b, off + k, none⟩ : Addr).add j = ⟨b, off + (k + j), none⟩ := by unfold Addr.add; split <;> simp_all <;> omega
  rw [ha]
  by_cases hjm : j < m
  · rw [List.getElem?_take_of_lt hjm, List.getElem?_drop] at hj
    have hl : k + j < zs.length := by omega
    rw [List.getElem?_eq_getElem hl] at hj
    simp at hj
    rw [hc (k + j) hl, ← hj]
    simp [List.getD, List.getElem?_eq_getElem hl]
  · rw [List.getElem?_eq_none (by simp; omega)] at hj
    simp at hj
theorem map_one (zs : List Int) : ∀ u ∈ zs.map (Value.int .i64), u.oneCell' = true := by
  intro u hu
  obtain ⟨x, _, rfl⟩ := List.mem_map.1 hu
  rfl
/-- What put leaves. -/
def PutAns (W : World) (zs : List Int) (e : Ending) (W' : World) : Prop := ∃ v', e = .returned v' ∧ LRow W' v' zs ∧ Below W.heap.size W W'

set_option maxHeartbeats 2000000 in
theorem put_nil (n : Int) (W : World) : Calls Try.prog 57 #[.slice none 0 0, .int .i64 n] W fun e W' => PutAns W [n] e W' := by
  obtain ⟨i0, hi, hz0, hz1, hz2⟩ := info_parts row_info
  go_enter Try.func57, Try.ntmps57
  go_wp2
  go_loop [5] (fun v => v = .int .i64 0) (fun _ => 1)
  case atStart => rfl
  case round =>
    subst hrel
    go_wp2_with (first
      | (at_builtin; refine wpList_append_own_none rfl _ _ 45 rfl W.heap.size 3 i0 1 Try.underlying45 hi _ 0 [] rfl (World.ownsRow_nil _ _ _ _) rfl ?_)
      | (at_builtin; refine wpList_append_own _ rfl _ _ 45 rfl W.heap.size 3 i0 (.int .i64 0) 1 8 Try.underlying45 hi hz0 hz1 hz2 rfl (by decide) _ 0 [] rfl (World.ownsRow_nil _ _ _ _) ⟨W.heap.size, 0, none⟩ 1 1 [.int .i64 n] rfl rfl (new_one W n _) (one_of n) (by unfold maxLen; omega) (by omega) (by simp) ?_)
      | go_in)
    intro v1 w1 hown hgrow _
    have hO : Own w1 W.heap.size v1 [n] := by unfold Own; simpa using hown
    have hB : Below W.heap.size W w1 := ((Below.refl W.heap.size W).alloc (Nat.le_refl _) _).grown hgrow (by simp) (fun k hk => by simp [Value.ownBlock] at hk)
    obtain ⟨a1, c1, rfl, _⟩ := hO.mine
    have HO : Hid (Own w1 W.heap.size (.slice a1 [n].length c1) [n]) := hO
    have HB : Hid (Below W.heap.size W w1) := hB
    clear hown hgrow hO hB
    simp only [List.length_singleton] at HO ⊢
    go_wp2_with (first
      | (at_builtin; refine wpList_append_own_none rfl _ _ 45 rfl W.heap.size 3 i0 1 Try.underlying45 hi _ 1 [.int .i64 n] rfl HO.out rfl ?_)
      | go_in)
    go_ret
    exact ⟨_, rfl, LRow.own HO.out (by simp), HB.out⟩
theorem putL_len {zs : List Int} {n : Int} (h : putK zs n < zs.length → zs.getD (putK zs n) 0 ≠ n) : putL zs n = ((zs.drop 0).take (putK zs n) ++ [n]) ++ (zs.drop (putK zs n)).take (zs.length - putK zs n) := by
  rw [putL_new h]
  have e : (zs.drop (putK zs n)).take (zs.length - putK zs n) = zs.drop (putK zs n) := by
    rw [List.take_of_length_le]; simp
  rw [e]
  simp
theorem first_part {W w1 : World} {v1 : Value} {zs : List Int} {k len : Nat} (hz : zs.length = len) (hk : k ≤ len) (hown : w1.ownsRow W.heap.size 3 1 v1 k (List.take k (List.map (Value.int .i64) zs))) (hgrow : W.grownBy w1 (Value.slice none 0 0).ownBlock) :
    Hid (w1.ownsRow W.heap.size 3 1 v1 k (List.take k (List.map (Value.int .i64) zs))) ∧ Hid (Below W.heap.size W w1) :=
  ⟨hown, (Below.refl W.heap.size W).grown hgrow (Nat.le_refl _) (fun k hk => by simp [Value.ownBlock] at hk)⟩
theorem second_part {W w1 w2 : World} {v1 v2 : Value} {xs : List Value} {k : Nat} {n : Int} {o : Obj} (HO : Hid (w1.ownsRow W.heap.size 3 1 v1 k xs)) (HB : Hid (Below W.heap.size W w1)) (hown : w2.ownsRow W.heap.size 3 1 v2 (k + 1) (xs ++ [.int .i64 n])) (hgrow : (w1.alloc o).grownBy w2 v1.ownBlock) :
    Hid (w2.ownsRow W.heap.size 3 1 v2 (k + 1) (xs ++ [.int .i64 n])) ∧ Hid (Below W.heap.size W w2) :=
  ⟨hown, (HB.out.alloc HB.out.size o).grown hgrow (by have := HB.out.size; simp; omega) (fun j hj => (World.ownsRow.lt HO.out j hj).1)⟩
theorem third_part {W w2 w3 : World} {v2 v3 : Value} {zs : List Int} {k len : Nat} {n : Int} (hz : zs.length = len) (hk : k ≤ len) (HP : putL zs n = ((zs.drop 0).take k ++ [n]) ++ (zs.drop k).take (zs.length - k)) (HO : Hid (w2.ownsRow W.heap.size 3 1 v2 (k + 1) (List.take k (List.map (Value.int .i64) zs) ++ [.int .i64 n]))) (HB : Hid (Below W.heap.size W w2))
    (hown : w3.ownsRow W.heap.size 3 1 v3 (k + 1 + (len - k)) (List.take k (List.map (Value.int .i64) zs) ++ .int .i64 n :: List.take (len - k) (List.drop k (List.map (Value.int .i64) zs)))) (hgrow : w2.grownBy w3 v2.ownBlock) : PutAns W (putL zs n) (.returned v3) w3 := by
  have hl : (putL zs n).length = k + 1 + (len - k) := by rw [HP]; simp; omega
  have hO : Own w3 W.heap.size v3 (putL zs n) := by
    unfold Own
    rw [hl, HP, hz]
    simpa [List.map_take, List.map_drop] using hown
  exact ⟨v3, rfl, LRow.own hO (by omega), HB.out.grown hgrow HB.out.size (fun j hj => (World.ownsRow.lt HO.out j hj).1)⟩
theorem third_end {W w2 w3 : World} {v2 v3 : Value} {zs : List Int} {k : Nat} {n : Int} (hz : zs.length = k) (HP : putL zs n = ((zs.drop 0).take k ++ [n]) ++ (zs.drop k).take (zs.length - k)) (HO : Hid (w2.ownsRow W.heap.size 3 1 v2 (k + 1) (List.take k (List.map (Value.int .i64) zs) ++ [.int .i64 n]))) (HB : Hid (Below W.heap.size W w2))
    (hown : w3.ownsRow W.heap.size 3 1 v3 (k + 1) (List.take k (List.map (Value.int .i64) zs) ++ [.int .i64 n])) (hgrow : w2.grownBy w3 v2.ownBlock) : PutAns W (putL zs n) (.returned v3) w3 := by
  have hl : (putL zs n).length = k + 1 := by rw [HP]; simp; omega
  have hO : Own w3 W.heap.size v3 (putL zs n) := by
    unfold Own
    rw [hl, HP, hz]
    simpa [List.map_take, List.map_drop] using hown
  exact ⟨v3, rfl, LRow.own hO (by omega), HB.out.grown hgrow HB.out.size (fun j hj => (World.ownsRow.lt HO.out j hj).1)⟩
set_option maxRecDepth 100000 in
set_option maxHeartbeats 4000000 in
theorem put_some (b off cap len K : Nat) (zs : List Int) (n : Int) (W : World) (hz : Hid (zs.length = len)) (hcap : len ≤ cap) (hlen : len ≤ 1000) (hb : b < W.heap.size) (hK : Hid (putK zs n = K)) (hc : Hid (∀ i, i < zs.length → W.cell? ⟨b, off + i, none⟩ = some (.int .i64 (zs.getD i 0)))) :
    Calls Try.prog 57 #[.slice (some ⟨b, off, none⟩) len cap, .int .i64 n] W fun e W' => PutAns W (putL zs n) e W' := by
  obtain ⟨i0, hi, hz0, hz1, hz2⟩ := info_parts row_info
  have hKl : K ≤ len := by rw [← hK.out, ← hz.out]; exact putK_le _ _
  have hKi : (K : Int) ≤ (len : Int) := by omega
  have hKc : (K : Int) ≤ (cap : Int) := by omega
  have hK0 : (0 : Int) ≤ (K : Int) := Int.natCast_nonneg _
  go_enter Try.func57, Try.ntmps57
  go_wp2
  go_loop [5] (fun v => ∃ k : Nat, k ≤ K ∧ v = .int .i64 k) (fun v => K - (intOf v).toNat)
  case atStart => exact ⟨0, Nat.zero_le _, rfl⟩
  case round =>
    obtain ⟨k, hk, rfl⟩ := hrel
    by_cases hlt : k < K
    · have h0 : 0 < len := by omega
      have hcell := hc.out k (by have := hz.out; omega)
      have hlo : zs.getD k 0 < n := putK_lt zs n k (by rw [hK.out]; exact hlt)
      generalize zs.getD k 0 = x at hcell hlo
      have hx : decide (x < n) = true := decide_eq_true hlo
      go_wp2
      go_round
      case rel => exact ⟨k + 1, by omega, by go_num⟩
      case measure => simp [intOf]; omega
    have hkK : k = K := by omega
    subst hkK
    clear hlt hk
    by_cases hend : k < len
    · have h0 : 0 < len := by omega
      have hcell := hc.out k (by have := hz.out; omega)
      have hge : n ≤ zs.getD k 0 := by
        have := putK_ge zs n (by rw [hK.out, hz.out]; exact hend)
        rw [hK.out] at this; exact this
      by_cases heq : zs.getD k 0 = n
      · have HP : Hid (putL zs n = zs) := putL_same (by rw [hK.out, hz.out]; exact hend) (by rw [hK.out]; exact heq)
        rw [heq] at hcell
        have d1 : decide (n < n) = false := decide_eq_false (by omega)
        clear hge heq
        go_wp2
        go_ret
        rw [HP.out]
        exact ⟨_, rfl, Or.inr ⟨b, off, cap, by rw [hz.out]; rfl, by rw [hz.out]; exact hcap, hb, hc.out⟩, Below.refl _ _⟩
      · have HP : Hid (putL zs n = ((zs.drop 0).take k ++ [n]) ++ (zs.drop k).take (zs.length - k)) := by
          have := putL_len (zs := zs) (n := n) (fun _ => by rw [hK.out]; exact heq)
          rw [hK.out] at this
          exact this
        generalize zs.getD k 0 = x at hcell hge heq
        have d1 : decide (x < n) = false := decide_eq_false (by omega)
        have d2 : (x == n) = false := by simpa using heq
        have d3 : decide (x = n) = false := decide_eq_false heq
        clear heq
        go_wp2_with (first
          | (at_builtin; refine wpList_append_own _ rfl _ _ 45 rfl W.heap.size 3 i0 (.int .i64 0) 1 8 Try.underlying45 hi hz0 hz1 hz2 rfl (by decide) _ 0 [] rfl (World.ownsRow_nil _ _ _ _) ⟨b, off, none⟩ k cap (((zs.drop 0).take k).map (Value.int .i64)) rfl ?c1 (part_news 0 k (by have := hz.out; omega) hc.out) (map_one _) (by unfold maxLen; omega) (by omega) (Nat.le_refl _) ?_)
          | go_in)
        case c1 => have := hz.out; first | omega | (simp; omega)
        intro v1 w1 hown hgrow _
        obtain ⟨HO, HB⟩ := first_part (hz := hz.out) (hk := hKl) hown hgrow
        clear hown hgrow
        go_wp2_with (first
          | (at_builtin; refine wpList_append_own _ rfl _ _ 45 rfl W.heap.size 3 i0 (.int .i64 0) 1 8 Try.underlying45 hi hz0 hz1 hz2 rfl (by decide) _ k (List.take k (List.map (Value.int .i64) zs)) rfl (World.ownsRow.alloc HO.out _) ⟨w1.heap.size, 0, none⟩ 1 1 [.int .i64 n] rfl rfl (new_one w1 n _) (one_of n) (by unfold maxLen; omega) (by omega) (by have := HB.out.size; simp; omega) ?_)
          | go_in)
        intro v2 w2 hown hgrow _
        obtain ⟨HO2, HB2⟩ := second_part HO HB hown hgrow
        have HC2 : Hid (∀ i, i < zs.length → w2.cell? ⟨b, off + i, none⟩ = some (.int .i64 (zs.getD i 0))) := fun i hi => (HB2.out.cell (p := ⟨b, off + i, none⟩) hb).trans (hc.out i hi)
        clear hown hgrow
        go_wp2_with (first
          | (at_builtin; refine wpList_append_own _ rfl _ _ 45 rfl W.heap.size 3 i0 (.int .i64 0) 1 8 Try.underlying45 hi hz0 hz1 hz2 rfl (by decide) v2 (k + 1) (List.take k (List.map (Value.int .i64) zs) ++ [.int .i64 n]) rfl HO2.out ⟨b, off + k, none⟩ (len - k) (cap - k) (((zs.drop k).take (len - k)).map (Value.int .i64)) rfl ?c2 (part_news k (len - k) (by have := hz.out; omega) HC2.out) (map_one _) (by unfold maxLen; omega) (by omega) HB2.out.size ?_)
          | go_in)
        case c2 => have := hz.out; first | omega | (simp; omega)
        intro v3 w3 hown hgrow _
        have HA : Hid (PutAns W (putL zs n) (.returned v3) w3) := third_part hz.out hKl HP.out HO2 HB2 hown hgrow
        clear hown hgrow
        go_wp2
        go_ret
        exact HA.out
    · have hkl : k = len := by omega
      have HP : Hid (putL zs n = ((zs.drop 0).take k ++ [n]) ++ (zs.drop k).take (zs.length - k)) := by
        have := putL_len (zs := zs) (n := n) (fun h => absurd h (by rw [hK.out, hz.out]; omega))
        rw [hK.out] at this
        exact this
      clear hend
      subst hkl
      rcases Nat.lt_or_ge k cap with hck | hck
      · have hck1 : ¬ cap = k := by omega
        go_wp2_with (first
          | (at_builtin; refine wpList_append_own _ rfl _ _ 45 rfl W.heap.size 3 i0 (.int .i64 0) 1 8 Try.underlying45 hi hz0 hz1 hz2 rfl (by decide) _ 0 [] rfl (World.ownsRow_nil _ _ _ _) ⟨b, off, none⟩ k cap (((zs.drop 0).take k).map (Value.int .i64)) rfl ?c5 (part_news 0 k (by have := hz.out; omega) hc.out) (map_one _) (by unfold maxLen; omega) (by omega) (Nat.le_refl _) ?_)
          | go_in)
        case c5 => have := hz.out; first | omega | (simp; omega)
        intro v1 w1 hown hgrow _
        obtain ⟨HO, HB⟩ := first_part (hz := hz.out) (hk := hKl) hown hgrow
        clear hown hgrow
        go_wp2_with (first
          | (at_builtin; refine wpList_append_own _ rfl _ _ 45 rfl W.heap.size 3 i0 (.int .i64 0) 1 8 Try.underlying45 hi hz0 hz1 hz2 rfl (by decide) _ k (List.take k (List.map (Value.int .i64) zs)) rfl (World.ownsRow.alloc HO.out _) ⟨w1.heap.size, 0, none⟩ 1 1 [.int .i64 n] rfl rfl (new_one w1 n _) (one_of n) (by unfold maxLen; omega) (by omega) (by have := HB.out.size; simp; omega) ?_)
          | go_in)
        intro v2 w2 hown hgrow _
        obtain ⟨HO2, HB2⟩ := second_part HO HB hown hgrow
        have HC2 : Hid (∀ i, i < zs.length → w2.cell? ⟨b, off + i, none⟩ = some (.int .i64 (zs.getD i 0))) := fun i hi => (HB2.out.cell (p := ⟨b, off + i, none⟩) hb).trans (hc.out i hi)
        clear hown hgrow
        go_wp2_with (first
          | (at_builtin; refine wpList_append_own _ rfl _ _ 45 rfl W.heap.size 3 i0 (.int .i64 0) 1 8 Try.underlying45 hi hz0 hz1 hz2 rfl (by decide) v2 (k + 1) (List.take k (List.map (Value.int .i64) zs) ++ [.int .i64 n]) rfl HO2.out ⟨b, off + k, none⟩ 0 _ [] rfl rfl (fun j u h => by simp at h) (fun u h => by simp at h) (by unfold maxLen; omega) (by omega) HB2.out.size ?_)
          | go_in)
        intro v3 w3 hown hgrow _
        have HA : Hid (PutAns W (putL zs n) (.returned v3) w3) := third_end hz.out HP.out HO2 HB2 hown hgrow
        clear hown hgrow
        go_wp2
        go_ret
        exact HA.out
      · have hck2 : k = cap := by omega
        subst hck2
        clear hck
        go_wp2_with (first
          | (at_builtin; refine wpList_append_own _ rfl _ _ 45 rfl W.heap.size 3 i0 (.int .i64 0) 1 8 Try.underlying45 hi hz0 hz1 hz2 rfl (by decide) _ 0 [] rfl (World.ownsRow_nil _ _ _ _) ⟨b, off, none⟩ k k (((zs.drop 0).take k).map (Value.int .i64)) rfl ?c6 (part_news 0 k (by have := hz.out; omega) hc.out) (map_one _) (by unfold maxLen; omega) (by omega) (Nat.le_refl _) ?_)
          | go_in)
        case c6 => have := hz.out; first | omega | (simp; omega)
        intro v1 w1 hown hgrow _
        obtain ⟨HO, HB⟩ := first_part (hz := hz.out) (hk := hKl) hown hgrow
        clear hown hgrow
        go_wp2_with (first
          | (at_builtin; refine wpList_append_own _ rfl _ _ 45 rfl W.heap.size 3 i0 (.int .i64 0) 1 8 Try.underlying45 hi hz0 hz1 hz2 rfl (by decide) _ k (List.take k (List.map (Value.int .i64) zs)) rfl (World.ownsRow.alloc HO.out _) ⟨w1.heap.size, 0, none⟩ 1 1 [.int .i64 n] rfl rfl (new_one w1 n _) (one_of n) (by unfold maxLen; omega) (by omega) (by have := HB.out.size; simp; omega) ?_)
          | go_in)
        intro v2 w2 hown hgrow _
        obtain ⟨HO2, HB2⟩ := second_part HO HB hown hgrow
        have HC2 : Hid (∀ i, i < zs.length → w2.cell? ⟨b, off + i, none⟩ = some (.int .i64 (zs.getD i 0))) := fun i hi => (HB2.out.cell (p := ⟨b, off + i, none⟩) hb).trans (hc.out i hi)
        clear hown hgrow
        go_wp2_with (first
          | (at_builtin; refine wpList_append_own _ rfl _ _ 45 rfl W.heap.size 3 i0 (.int .i64 0) 1 8 Try.underlying45 hi hz0 hz1 hz2 rfl (by decide) v2 (k + 1) (List.take k (List.map (Value.int .i64) zs) ++ [.int .i64 n]) rfl HO2.out ⟨b, off, none⟩ 0 _ [] rfl rfl (fun j u h => by simp at h) (fun u h => by simp at h) (by unfold maxLen; omega) (by omega) HB2.out.size ?_)
          | go_in)
        intro v3 w3 hown hgrow _
        have HA : Hid (PutAns W (putL zs n) (.returned v3) w3) := third_end hz.out HP.out HO2 HB2 hown hgrow
        clear hown hgrow
        go_wp2
        go_ret
        exact HA.out
end Go.Proofs.Ytbjfhcbgghpdaaa.walks
