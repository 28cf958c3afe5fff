/-
  l1Put of a number that is not there: the list that it makes is new.
-/
import Derived.Test.YtokaibpkajloeaaProg
import Derived.Test.YtokaibpkajloeaaMagMath
import Derived.Test.YtokaibpkajloeaaNamesMath
import Derived.Test.YtokaibpkajloeaaInts
import Derived.Test.YtokaibpkajloeaaOwnInts
import Derived.Laws.AppendOwnNone
import Derived.WalkKit
import Derived.WalkSpells
import Derived.Below
import Derived.Handy
import Derived.Test.YtokaibpkajloeaaPutSpec
namespace Go.Proofs.Ytokaibpkajloeaa.walks
open Go.RowKit Go.Proofs.Ytokaibpkajloeaa.math Go.Proofs.Ytokaibpkajloeaa.ints
set_option linter.unusedVariables false

/-- What put leaves. -/
def PutOwn (W : World) (zs : List Int) (e : Ending) (W' : World) : Prop := ∃ v', e = .returned v' ∧ ints.Own W' W.heap.size v' zs ∧ Below W.heap.size W W'
set_option maxHeartbeats 2000000 in
theorem put_nilO (n : Int) (W : World) : Calls Try.prog 87 #[.slice none 0 0, .int .i64 n] W fun e W' => PutOwn W [n] e W' := by
  obtain ⟨i0, hi, hz0, hz1, hz2⟩ := info_parts row_info
  go_enter Try.func87, Try.ntmps87
  go_wp2
  go_loop [5] (fun v => v = .int .i64 0) (fun _ => 1)
  case atStart => rfl
  case round =>
    subst hrel
    go_wp2_with (first
      | (at_builtin; refine wpList_append_own_none rfl _ _ 23 rfl W.heap.size 3 i0 1 Try.underlying23 hi _ 0 [] rfl (World.ownsRow_nil _ _ _ _) rfl ?_)
      | (at_builtin; refine wpList_append_own _ rfl _ _ 23 rfl W.heap.size 3 i0 (.int .i64 0) 1 8 Try.underlying23 hi hz0 hz1 hz2 rfl (by decide) _ 0 [] rfl (World.ownsRow_nil _ _ _ _) ⟨W.heap.size, 0, none⟩ 1 1 [.int .i64 n] rfl rfl (new_one W n _) (one_of n) (by unfold maxLen; omega) (by omega) (by simp) ?_)
      | go_in)
    intro v1 w1 hown hgrow _
    have hO : ints.Own w1 W.heap.size v1 [n] := by unfold ints.Own; simpa using hown
    have hB : Below W.heap.size W w1 := ((Below.refl W.heap.size W).alloc (Nat.le_refl _) _).grown hgrow (by simp) (fun k hk => by simp [Value.ownBlock] at hk)
    obtain ⟨a1, c1, rfl, _⟩ := hO.mine
    have HO : Hid (ints.Own w1 W.heap.size (.slice a1 [n].length c1) [n]) := hO
    have HB : Hid (Below W.heap.size W w1) := hB
    clear hown hgrow hO hB
    simp only [List.length_singleton] at HO ⊢
    go_wp2_with (first
      | (at_builtin; refine wpList_append_own_none rfl _ _ 23 rfl W.heap.size 3 i0 1 Try.underlying23 hi _ 1 [.int .i64 n] rfl HO.out rfl ?_)
      | go_in)
    go_ret
    exact ⟨_, rfl, HO.out, HB.out⟩
theorem third_partO {W w2 w3 : World} {v2 v3 : Value} {zs : List Int} {k len : Nat} {n : Int} (hz : zs.length = len) (hk : k ≤ len) (HP : putL zs n = ((zs.drop 0).take k ++ [n]) ++ (zs.drop k).take (zs.length - k)) (HO : Hid (w2.ownsRow W.heap.size 3 1 v2 (k + 1) (List.take k (List.map (Value.int .i64) zs) ++ [.int .i64 n]))) (HB : Hid (Below W.heap.size W w2))
    (hown : w3.ownsRow W.heap.size 3 1 v3 (k + 1 + (len - k)) (List.take k (List.map (Value.int .i64) zs) ++ .int .i64 n :: List.take (len - k) (List.drop k (List.map (Value.int .i64) zs)))) (hgrow : w2.grownBy w3 v2.ownBlock) : PutOwn W (putL zs n) (.returned v3) w3 := by
  have hl : (putL zs n).length = k + 1 + (len - k) := by rw [HP]; simp; omega
  have hO : ints.Own w3 W.heap.size v3 (putL zs n) := by
    unfold ints.Own
    rw [hl, HP, hz]
    simpa [List.map_take, List.map_drop] using hown
  exact ⟨v3, rfl, hO, HB.out.grown hgrow HB.out.size (fun j hj => (World.ownsRow.lt HO.out j hj).1)⟩
theorem third_endO {W w2 w3 : World} {v2 v3 : Value} {zs : List Int} {k : Nat} {n : Int} (hz : zs.length = k) (HP : putL zs n = ((zs.drop 0).take k ++ [n]) ++ (zs.drop k).take (zs.length - k)) (HO : Hid (w2.ownsRow W.heap.size 3 1 v2 (k + 1) (List.take k (List.map (Value.int .i64) zs) ++ [.int .i64 n]))) (HB : Hid (Below W.heap.size W w2))
    (hown : w3.ownsRow W.heap.size 3 1 v3 (k + 1) (List.take k (List.map (Value.int .i64) zs) ++ [.int .i64 n])) (hgrow : w2.grownBy w3 v2.ownBlock) : PutOwn W (putL zs n) (.returned v3) w3 := by
  have hl : (putL zs n).length = k + 1 := by rw [HP]; simp; omega
  have hO : ints.Own w3 W.heap.size v3 (putL zs n) := by
    unfold ints.Own
    rw [hl, HP, hz]
    simpa [List.map_take, List.map_drop] using hown
  exact ⟨v3, rfl, hO, HB.out.grown hgrow HB.out.size (fun j hj => (World.ownsRow.lt HO.out j hj).1)⟩
set_option maxRecDepth 100000 in
set_option maxHeartbeats 4000000 in
theorem put_someO (b off cap len K : Nat) (zs : List Int) (n : Int) (W : World) (hz : Hid (zs.length = len)) (hcap : len ≤ cap) (hlen : len ≤ 1000) (hb : b < W.heap.size) (hK : Hid (putK zs n = K)) (hno : Hid (∀ k, k < zs.length → zs.getD k 0 ≠ n)) (hc : Hid (∀ i, i < zs.length → W.cell? ⟨b, off + i, none⟩ = some (.int .i64 (zs.getD i 0)))) :
    Calls Try.prog 87 #[.slice (some ⟨b, off, none⟩) len cap, .int .i64 n] W fun e W' => PutOwn W (putL zs n) e W' := by
  obtain ⟨i0, hi, hz0, hz1, hz2⟩ := info_parts row_info
  have hKl : K ≤ len := by rw [← hK.out, ← hz.out]; exact putK_le _ _
  have hKi : (K : Int) ≤ (len : Int) := by omega
  have hKc : (K : Int) ≤ (cap : Int) := by omega
  have hK0 : (0 : Int) ≤ (K : Int) := Int.natCast_nonneg _
  go_enter Try.func87, Try.ntmps87
  go_wp2
  go_loop [5] (fun v => ∃ k : Nat, k ≤ K ∧ v = .int .i64 k) (fun v => K - (intOf v).toNat)
  case atStart => exact ⟨0, Nat.zero_le _, rfl⟩
  case round =>
    obtain ⟨k, hk, rfl⟩ := hrel
    by_cases hlt : k < K
    · have h0 : 0 < len := by omega
      have hcell := hc.out k (by have := hz.out; omega)
      have hlo : zs.getD k 0 < n := putK_lt zs n k (by rw [hK.out]; exact hlt)
      generalize zs.getD k 0 = x at hcell hlo
      have hx : decide (x < n) = true := decide_eq_true hlo
      go_wp2
      go_round
      case rel => exact ⟨k + 1, by omega, by go_num⟩
      case measure => simp [intOf]; omega
    have hkK : k = K := by omega
    subst hkK
    clear hlt hk
    by_cases hend : k < len
    · have h0 : 0 < len := by omega
      have hcell := hc.out k (by have := hz.out; omega)
      have hge : n ≤ zs.getD k 0 := by
        have := putK_ge zs n (by rw [hK.out, hz.out]; exact hend)
        rw [hK.out] at this; exact this
      by_cases heq : zs.getD k 0 = n
      · exact absurd heq (hno.out k (by have := hz.out; omega))
      · have HP : Hid (putL zs n = ((zs.drop 0).take k ++ [n]) ++ (zs.drop k).take (zs.length - k)) := by
          have := putL_len (zs := zs) (n := n) (fun _ => by rw [hK.out]; exact heq)
          rw [hK.out] at this
          exact this
        generalize zs.getD k 0 = x at hcell hge heq
        have d1 : decide (x < n) = false := decide_eq_false (by omega)
        have d2 : (x == n) = false := by simpa using heq
        have d3 : decide (x = n) = false := decide_eq_false heq
        clear heq
        go_wp2_with (first
          | (at_builtin; refine wpList_append_own _ rfl _ _ 23 rfl W.heap.size 3 i0 (.int .i64 0) 1 8 Try.underlying23 hi hz0 hz1 hz2 rfl (by decide) _ 0 [] rfl (World.ownsRow_nil _ _ _ _) ⟨b, off, none⟩ k cap (((zs.drop 0).take k).map (Value.int .i64)) rfl ?c1 (part_news 0 k (by have := hz.out; omega) hc.out) (map_one _) (by unfold maxLen; omega) (by omega) (Nat.le_refl _) ?_)
          | go_in)
        case c1 => have := hz.out; first | omega | (simp; omega)
        intro v1 w1 hown hgrow _
        obtain ⟨HO, HB⟩ := first_part (hz := hz.out) (hk := hKl) hown hgrow
        clear hown hgrow
        go_wp2_with (first
          | (at_builtin; refine wpList_append_own _ rfl _ _ 23 rfl W.heap.size 3 i0 (.int .i64 0) 1 8 Try.underlying23 hi hz0 hz1 hz2 rfl (by decide) _ k (List.take k (List.map (Value.int .i64) zs)) rfl (World.ownsRow.alloc HO.out _) ⟨w1.heap.size, 0, none⟩ 1 1 [.int .i64 n] rfl rfl (new_one w1 n _) (one_of n) (by unfold maxLen; omega) (by omega) (by have := HB.out.size; simp; omega) ?_)
          | go_in)
        intro v2 w2 hown hgrow _
        obtain ⟨HO2, HB2⟩ := second_part HO HB hown hgrow
        have HC2 : Hid (∀ i, i < zs.length → w2.cell? ⟨b, off + i, none⟩ = some (.int .i64 (zs.getD i 0))) := fun i hi => (HB2.out.cell (p := ⟨b, off + i, none⟩) hb).trans (hc.out i hi)
        clear hown hgrow
        go_wp2_with (first
          | (at_builtin; refine wpList_append_own _ rfl _ _ 23 rfl W.heap.size 3 i0 (.int .i64 0) 1 8 Try.underlying23 hi hz0 hz1 hz2 rfl (by decide) v2 (k + 1) (List.take k (List.map (Value.int .i64) zs) ++ [.int .i64 n]) rfl HO2.out ⟨b, off + k, none⟩ (len - k) (cap - k) (((zs.drop k).take (len - k)).map (Value.int .i64)) rfl ?c2 (part_news k (len - k) (by have := hz.out; omega) HC2.out) (map_one _) (by unfold maxLen; omega) (by omega) HB2.out.size ?_)
          | go_in)
        case c2 => have := hz.out; first | omega | (simp; omega)
        intro v3 w3 hown hgrow _
        have HA : Hid (PutOwn W (putL zs n) (.returned v3) w3) := third_partO hz.out hKl HP.out HO2 HB2 hown hgrow
        clear hown hgrow
        go_wp2
        go_ret
        exact HA.out
    · have hkl : k = len := by omega
      have HP : Hid (putL zs n = ((zs.drop 0).take k ++ [n]) ++ (zs.drop k).take (zs.length - k)) := by
        have := putL_len (zs := zs) (n := n) (fun h => absurd h (by rw [hK.out, hz.out]; omega))
        rw [hK.out] at this
        exact this
      clear hend
      subst hkl
      rcases Nat.lt_or_ge k cap with hck | hck
      · have hck1 : ¬ cap = k := by omega
        go_wp2_with (first
          | (at_builtin; refine wpList_append_own _ rfl _ _ 23 rfl W.heap.size 3 i0 (.int .i64 0) 1 8 Try.underlying23 hi hz0 hz1 hz2 rfl (by decide) _ 0 [] rfl (World.ownsRow_nil _ _ _ _) ⟨b, off, none⟩ k cap (((zs.drop 0).take k).map (Value.int .i64)) rfl ?c5 (part_news 0 k (by have := hz.out; omega) hc.out) (map_one _) (by unfold maxLen; omega) (by omega) (Nat.le_refl _) ?_)
          | go_in)
        case c5 => have := hz.out; first | omega | (simp; omega)
        intro v1 w1 hown hgrow _
        obtain ⟨HO, HB⟩ := first_part (hz := hz.out) (hk := hKl) hown hgrow
        clear hown hgrow
        go_wp2_with (first
          | (at_builtin; refine wpList_append_own _ rfl _ _ 23 rfl W.heap.size 3 i0 (.int .i64 0) 1 8 Try.underlying23 hi hz0 hz1 hz2 rfl (by decide) _ k (List.take k (List.map (Value.int .i64) zs)) rfl (World.ownsRow.alloc HO.out _) ⟨w1.heap.size, 0, none⟩ 1 1 [.int .i64 n] rfl rfl (new_one w1 n _) (one_of n) (by unfold maxLen; omega) (by omega) (by have := HB.out.size; simp; omega) ?_)
          | go_in)
        intro v2 w2 hown hgrow _
        obtain ⟨HO2, HB2⟩ := second_part HO HB hown hgrow
        have HC2 : Hid (∀ i, i < zs.length → w2.cell? ⟨b, off + i, none⟩ = some (.int .i64 (zs.getD i 0))) := fun i hi => (HB2.out.cell (p := ⟨b, off + i, none⟩) hb).trans (hc.out i hi)
        clear hown hgrow
        go_wp2_with (first
          | (at_builtin; refine wpList_append_own _ rfl _ _ 23 rfl W.heap.size 3 i0 (.int .i64 0) 1 8 Try.underlying23 hi hz0 hz1 hz2 rfl (by decide) v2 (k + 1) (List.take k (List.map (Value.int .i64) zs) ++ [.int .i64 n]) rfl HO2.out ⟨b, off + k, none⟩ 0 _ [] rfl rfl (fun j u h => by simp at h) (fun u h => by simp at h) (by unfold maxLen; omega) (by omega) HB2.out.size ?_)
          | go_in)
        intro v3 w3 hown hgrow _
        have HA : Hid (PutOwn W (putL zs n) (.returned v3) w3) := third_endO hz.out HP.out HO2 HB2 hown hgrow
        clear hown hgrow
        go_wp2
        go_ret
        exact HA.out
      · have hck2 : k = cap := by omega
        subst hck2
        clear hck
        go_wp2_with (first
          | (at_builtin; refine wpList_append_own _ rfl _ _ 23 rfl W.heap.size 3 i0 (.int .i64 0) 1 8 Try.underlying23 hi hz0 hz1 hz2 rfl (by decide) _ 0 [] rfl (World.ownsRow_nil _ _ _ _) ⟨b, off, none⟩ k k (((zs.drop 0).take k).map (Value.int .i64)) rfl ?c6 (part_news 0 k (by have := hz.out; omega) hc.out) (map_one _) (by unfold maxLen; omega) (by omega) (Nat.le_refl _) ?_)
          | go_in)
        case c6 => have := hz.out; first | omega | (simp; omega)
        intro v1 w1 hown hgrow _
        obtain ⟨HO, HB⟩ := first_part (hz := hz.out) (hk := hKl) hown hgrow
        clear hown hgrow
        go_wp2_with (first
          | (at_builtin; refine wpList_append_own _ rfl _ _ 23 rfl W.heap.size 3 i0 (.int .i64 0) 1 8 Try.underlying23 hi hz0 hz1 hz2 rfl (by decide) _ k (List.take k (List.map (Value.int .i64) zs)) rfl (World.ownsRow.alloc HO.out _) ⟨w1.heap.size, 0, none⟩ 1 1 [.int .i64 n] rfl rfl (new_one w1 n _) (one_of n) (by unfold maxLen; omega) (by omega) (by have := HB.out.size; simp; omega) ?_)
          | go_in)
        intro v2 w2 hown hgrow _
        obtain ⟨HO2, HB2⟩ := second_part HO HB hown hgrow
        have HC2 : Hid (∀ i, i < zs.length → w2.cell? ⟨b, off + i, none⟩ = some (.int .i64 (zs.getD i 0))) := fun i hi => (HB2.out.cell (p := ⟨b, off + i, none⟩) hb).trans (hc.out i hi)
        clear hown hgrow
        go_wp2_with (first
          | (at_builtin; refine wpList_append_own _ rfl _ _ 23 rfl W.heap.size 3 i0 (.int .i64 0) 1 8 Try.underlying23 hi hz0 hz1 hz2 rfl (by decide) v2 (k + 1) (List.take k (List.map (Value.int .i64) zs) ++ [.int .i64 n]) rfl HO2.out ⟨b, off, none⟩ 0 _ [] rfl rfl (fun j u h => by simp at h) (fun u h => by simp at h) (by unfold maxLen; omega) (by omega) HB2.out.size ?_)
          | go_in)
        intro v3 w3 hown hgrow _
        have HA : Hid (PutOwn W (putL zs n) (.returned v3) w3) := third_endO hz.out HP.out HO2 HB2 hown hgrow
        clear hown hgrow
        go_wp2
        go_ret
        exact HA.out
theorem spec_put_own (v : Value) (zs : List Int) (n : Int) (W : World) (h : LRow W v zs) (hl : zs.length ≤ 1000) (hno : ∀ k, k < zs.length → zs.getD k 0 ≠ n) : Calls Try.prog 87 #[v, .int .i64 n] W fun e W' => PutOwn W (putL zs n) e W' := by
  rcases h with ⟨rfl, rfl⟩ | ⟨b, off, cap, rfl, hc, hb, hx⟩
  · exact put_nilO n W
  · exact put_someO b off cap zs.length (putK zs n) zs n W rfl hc hl hb rfl hno hx
end Go.Proofs.Ytokaibpkajloeaa.walks
