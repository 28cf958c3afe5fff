/-
  What the specification's RankOrder answers.
-/
import Derived.Test.YtfgfhmfdkglhoaaProg
import Derived.Test.YtfgfhmfdkglhoaaMagMath
import Derived.Test.YtfgfhmfdkglhoaaTaskMath
import Derived.Test.YtfgfhmfdkglhoaaRankMath
import Derived.Test.YtfgfhmfdkglhoaaOrderMath
import Derived.Test.YtfgfhmfdkglhoaaTaskSpec
import Derived.Test.YtfgfhmfdkglhoaaRankSpec
import Derived.Test.YtfgfhmfdkglhoaaInts
import Derived.Test.YtfgfhmfdkglhoaaOwnInts
import Derived.Test.YtfgfhmfdkglhoaaPats
import Derived.Laws.AppendOwnNone
import Derived.WalkKit
import Derived.WalkSpells
import Derived.Below
import Derived.Handy
import Derived.Deep.QuietTactic
import Derived.BigQuiet
namespace Go.Proofs.Ytfgfhmfdkglhoaa.walks
open Go.RowKit Go.Proofs.Ytfgfhmfdkglhoaa.math Go.Proofs.Ytfgfhmfdkglhoaa.ints
set_option linter.unusedVariables false
set_option maxRecDepth 100000

theorem part_news {w : World} {b off : Nat} {zs : List Int} (k m : Nat) (hkm : k + m ≤ zs.length) (hc : ∀ i, i < zs.length → w.cell? ⟨b, off + i, none⟩ = some (.int .i64 (zs.getD i 0))) : ∀ (j : Nat) (u : Value), (((zs.drop k).take m).map (Value.int .i64))[j]? = some u → w.cell? ((⟨b, off + k, none⟩ : Addr).add j) = some u := by
  intro j u hj
  rw [List.getElem?_map] at hj
  have ha : (⟨b, off + k, none⟩ : Addr).add j = ⟨b, off + (k + j), none⟩ := by unfold Addr.add; split <;> simp_all <;> omega
  rw [ha]
  by_cases hjm : j < m
  · rw [List.getElem?_take_of_lt hjm, List.getElem?_drop] at hj
    have hl : k + j < zs.length := by omega
    rw [List.getElem?_eq_getElem hl] at hj
    simp at hj
    rw [hc (k + j) hl, ← hj]
    simp [List.getD, List.getElem?_eq_getElem hl]
  · rw [List.getElem?_eq_none (by simp; omega)] at hj
    simp at hj
theorem part_news0 {w : World} {b : Nat} {zs : List Int} (k m : Nat) (hkm : k + m ≤ zs.length) (hc : ∀ i, i < zs.length → w.cell? ⟨b, 0 + i, none⟩ = some (.int .i64 (zs.getD i 0))) : ∀ (j : Nat) (u : Value), (((zs.drop k).take m).map (Value.int .i64))[j]? = some u → w.cell? ((⟨b, k, none⟩ : Addr).add j) = some u := by
  have := part_news (off := 0) k m hkm hc
  rw [Nat.zero_add] at this
  exact this
theorem map_one (zs : List Int) : ∀ u ∈ zs.map (Value.int .i64), u.oneCell' = true := by
  intro u hu
  obtain ⟨x, _, rfl⟩ := List.mem_map.1 hu
  rfl
theorem first_part {W w1 : World} {v1 : Value} {zs : List Int} {k len : Nat} (hz : zs.length = len) (hk : k ≤ len) (hown : w1.ownsRow W.heap.size 3 1 v1 k (List.take k (List.map (Value.int .i64) zs))) (hgrow : W.grownBy w1 (Value.slice none 0 0).ownBlock) :
    Hid (w1.ownsRow W.heap.size 3 1 v1 k (List.take k (List.map (Value.int .i64) zs))) ∧ Hid (Below W.heap.size W w1) :=
  ⟨hown, (Below.refl W.heap.size W).grown hgrow (Nat.le_refl _) (fun k hk => by simp [Value.ownBlock] at hk)⟩
theorem second_part {W w1 w2 : World} {v1 v2 : Value} {xs : List Value} {k : Nat} {n : Int} {o : Obj} (HO : Hid (w1.ownsRow W.heap.size 3 1 v1 k xs)) (HB : Hid (Below W.heap.size W w1)) (hown : w2.ownsRow W.heap.size 3 1 v2 (k + 1) (xs ++ [.int .i64 n])) (hgrow : (w1.alloc o).grownBy w2 v1.ownBlock) :
    Hid (w2.ownsRow W.heap.size 3 1 v2 (k + 1) (xs ++ [.int .i64 n])) ∧ Hid (Below W.heap.size W w2) :=
  ⟨hown, (HB.out.alloc HB.out.size o).grown hgrow (by have := HB.out.size; simp; omega) (fun j hj => (World.ownsRow.lt HO.out j hj).1)⟩
/-- A list with one number put in. -/
def putZ (zs : List Int) (p : Nat) (n : Int) : List Int := zs.take p ++ n :: zs.drop p
theorem putZ_ord (R : Nat → Int) (k : Nat) : putZ (ordZ R k) (insP R (ordTo R k) k) (k : Int) = ordZ R (k + 1) := by
  unfold putZ ordZ
  simp only [ordTo, insL, List.map_append, List.map_cons, List.map_take, List.map_drop]
theorem third_partO {W w2 w3 : World} {v2 v3 : Value} {zs : List Int} {k len : Nat} {n : Int} (hz : zs.length = len) (hk : k ≤ len) (HO : Hid (w2.ownsRow W.heap.size 3 1 v2 (k + 1) (List.take k (List.map (Value.int .i64) zs) ++ [.int .i64 n]))) (HB : Hid (Below W.heap.size W w2))
    (hown : w3.ownsRow W.heap.size 3 1 v3 (k + 1 + (len - k)) (List.take k (List.map (Value.int .i64) zs) ++ .int .i64 n :: List.take (len - k) (List.drop k (List.map (Value.int .i64) zs)))) (hgrow : w2.grownBy w3 v2.ownBlock) : Own w3 W.heap.size v3 (putZ zs k n) ∧ Below W.heap.size W w3 := by
  have hl : (putZ zs k n).length = k + 1 + (len - k) := by unfold putZ; simp; omega
  have hO : Own w3 W.heap.size v3 (putZ zs k n) := by
    unfold Own
    rw [hl]
    unfold putZ
    have e : List.take (len - k) (List.drop k (List.map (Value.int .i64) zs)) = List.drop k (List.map (Value.int .i64) zs) := List.take_of_length_le (by simp; omega)
    rw [e] at hown
    simpa [List.map_take, List.map_drop] using hown
  exact ⟨hO, HB.out.grown hgrow HB.out.size (fun j hj => (World.ownsRow.lt HO.out j hj).1)⟩
theorem third_endO {W w2 w3 : World} {v2 v3 : Value} {zs : List Int} {k : Nat} {n : Int} (hz : zs.length = k) (HO : Hid (w2.ownsRow W.heap.size 3 1 v2 (k + 1) (List.take k (List.map (Value.int .i64) zs) ++ [.int .i64 n]))) (HB : Hid (Below W.heap.size W w2))
    (hown : w3.ownsRow W.heap.size 3 1 v3 (k + 1) (List.take k (List.map (Value.int .i64) zs) ++ [.int .i64 n])) (hgrow : w2.grownBy w3 v2.ownBlock) : Own w3 W.heap.size v3 (putZ zs k n) ∧ Below W.heap.size W w3 := by
  have hl : (putZ zs k n).length = k + 1 := by unfold putZ; simp; omega
  have hO : Own w3 W.heap.size v3 (putZ zs k n) := by
    unfold Own
    rw [hl]
    unfold putZ
    have e : List.drop k zs = [] := List.drop_of_length_le (by omega)
    rw [e]
    simpa [List.map_take, List.map_drop] using hown
  exact ⟨hO, HB.out.grown hgrow HB.out.size (fun j hj => (World.ownsRow.lt HO.out j hj).1)⟩
theorem own_low {w : World} {B B' : Nat} {v : Value} {zs : List Int} (h : Own w B v zs) (hB : B' ≤ B) : Own w B' v zs := by
  refine ⟨h.1, ?_⟩
  rcases h.2 with q | ⟨g, cap, cur, e, hg, r⟩
  · exact Or.inl q
  · exact Or.inr ⟨g, cap, cur, e, Nat.le_trans hB hg, r⟩
theorem own_drewN {w : World} {B : Nat} {v : Value} {zs : List Int} (h : Own w B v zs) : ∀ q, Own (w.drewN q) B v zs
  | 0 => h
  | q + 1 => own_drewN (w := w) h q
theorem size_drewN (w : World) : ∀ q, (w.drewN q).heap.size = w.heap.size
  | 0 => rfl
  | q + 1 => size_drewN w q
/-- Where an own list of some numbers lies. -/
theorem own_open {w : World} {B : Nat} {v : Value} {zs : List Int} (h : Own w B v zs) (h0 : 0 < zs.length) : ∃ g cap, v = .slice (some ⟨g, 0, none⟩) zs.length cap ∧ zs.length ≤ cap ∧ B ≤ g ∧ g < w.heap.size ∧ ∀ i, i < zs.length → w.cell? ⟨g, 0 + i, none⟩ = some (.int .i64 (zs.getD i 0)) := by
  obtain ⟨a, cap, e, hm⟩ := h.mine
  have h1 := h
  rcases h1.2 with ⟨rfl, hn⟩ | ⟨g, c, cur, rfl, hg, hw, hle, _⟩
  · omega
  · simp only [Value.slice.injEq] at e
    obtain ⟨rfl, _, rfl⟩ := e
    rcases hm with q | ⟨b, off, e, _, hl, hc⟩
    · rw [q] at h0; simp at h0
    · simp only [Option.some.injEq, Addr.mk.injEq] at e
      obtain ⟨rfl, rfl, _⟩ := e
      exact ⟨g, c, rfl, by first | exact hle | omega, hg, hl, fun i hi => (hc i hi).1⟩
/-- What RankOrder answers. -/
def orZ (f : Nat → Pv) (n : Nat) : List Int := if tasksB f n then ordZ (rankV f n) n else []
theorem orZ_len (f : Nat → Pv) (n : Nat) : (orZ f n).length ≤ 1048576 := by
  unfold orZ
  cases q : tasksB f n with
  | false => simp
  | true => have := (tasks_out q).1; simp [ordZ_len]; omega
def OrdAns (f : Nat → Pv) (n : Nat) (W : World) (e : Ending) (W' : World) : Prop := ∃ a c, e = .returned (.tuple #[.slice a (orZ f n).length c, .bool (tasksB f n)]) ∧ Mine W' W.heap.size a (orZ f n) ∧ Below W.heap.size W W'
theorem ord_told {f : Nat → Pv} {n : Nat} {W W' : World} {e : Ending} (h : OrdAns f n W e W') : ∃ a c, e = .returned (.tuple #[.slice a (orZ f n).length c, .bool (tasksB f n)]) ∧ Mine W' W.heap.size a (orZ f n) ∧ Below W.heap.size W W' := h
set_option maxHeartbeats 8000000 in
theorem spec_order (a : Option Addr) (n cap : Nat) (f : Nat → Pv) (W : World) (hn : n ≤ 1048576) (hlen : Hid (∀ k, k < n → (f k).zs.length ≤ 1048576)) (h : Hid (Pats W a n f)) :
    Calls Try.prog 15 #[.slice a n cap] W fun e W' => OrdAns f n W e W' := by
  obtain ⟨i0, hi, hz0, hz1, hz2⟩ := info_parts row_info
  cases hg : tasksB f n
  · have HV : Hid (orZ f n = []) := by show _ = _; unfold orZ; rw [hg]; rfl
    go_enter Try.func15, Try.ntmps15
    go_wp2_with fail
    refine (spec_tasks _ _ _ f _ hn hlen h).mono ?_
    rw [hg]
    rintro e w1 ⟨rfl, hB⟩
    have HB : Hid (Below W.heap.size W w1) := hB
    clear hB
    go_wp2
    go_ret2
    exact ⟨none, 0, by rw [HV.out, hg]; rfl, by rw [HV.out]; exact Or.inl rfl, HB.out⟩
  have HV : Hid (orZ f n = ordZ (rankV f n) n) := by show _ = _; unfold orZ; rw [hg]; rfl
  obtain ⟨hn12, hgd⟩ := tasks_out hg
  have HG : Hid (∀ k, k < n → taskB (f k) k = true) := hgd
  clear hgd
  have hnI : (n : Int) ≤ 12 := by omega
  go_enter Try.func15, Try.ntmps15
  go_wp2_with fail
  refine (spec_tasks _ _ _ f _ hn hlen h).mono ?_
  rw [hg]
  rintro e w1 ⟨rfl, hB⟩
  have HB1 : Hid (Below W.heap.size W w1) := hB
  clear hB
  go_wp2_with fail
  refine (spec_ranks _ _ _ f _ hn12 HG hlen (h.out.kept HB1.out)).mono ?_
  rintro e w2 ⟨rfl, hR, hB⟩
  have HB2 : Hid (Below W.heap.size W w2) := HB1.out.trans (hB.mono HB1.out.size)
  have HR : Hid (w2.rowIs w1.heap.size 3 n (fun i => .int .i64 (rankV f n i))) := hR
  have hrl : w1.heap.size < w2.heap.size := hR.lt
  clear hB hR
  obtain ⟨R, hRE⟩ : ∃ R, Hid (rankV f n = R) := ⟨_, rfl⟩
  rw [hRE.out] at HR HV
  obtain ⟨rg, hrg⟩ : ∃ rg, Hid (w1.heap.size = rg) := ⟨_, rfl⟩
  rw [hrg.out] at HR hrl ⊢
  go_wp2
  go_loopw [5, 16] (fun vo vi wr => ∃ (k : Nat) (u : Value), k ≤ n ∧ vi = .int .i64 (k : Int) ∧ vo = u ∧ Hid (k = 0 → u = .slice none 0 0) ∧ Hid (Own wr w2.heap.size u (ordZ R k)) ∧ Hid (Below w2.heap.size w2 wr)) (fun _ vi _ => n - (intOf vi).toNat)
  case atStart => exact ⟨0, _, Nat.zero_le _, rfl, rfl, fun _ => rfl, own_nil _ _, Below.refl _ _⟩
  case round =>
    obtain ⟨k, u, hk, rfl, rfl, HU, HO, HB⟩ := hrel
    have HBW : Hid (Below W.heap.size W wr) := HB2.out.trans (HB.out.mono HB2.out.size)
    by_cases hlt : k < n
    rotate_left
    · obtain rfl : k = n := by omega
      obtain ⟨oa, oc, hv, hm⟩ := HO.out.mine
      have HM : Hid (Mine wr w2.heap.size oa (ordZ R k)) := hm
      rw [ordZ_len] at hv
      subst hv
      clear hm HO
      go_wp2
      go_ret2
      refine ⟨oa, oc, by rw [HV.out, ordZ_len, hg]; rfl, ?_, HBW.out⟩
      rw [HV.out]
      exact mine_down HM.out HB2.out.size
    have hltI : (k : Int) < (n : Int) := by omega
    have HRr : Hid (wr.rowIs rg 3 n (fun i => .int .i64 (R i))) := HR.out.of_block (HB.out.block _ (by omega))
    have cK := HRr.out.cell hlt
    have HLT : Hid (∀ i, i < k → (ordTo R k).getD i 0 < k) := ord_lt R k
    have HPZ : Hid (putZ (ordZ R k) (insP R (ordTo R k) k) (k : Int) = ordZ R (k + 1)) := putZ_ord R k
    have HPL : Hid (∀ p, p ≤ k → (∀ i, i < p → R k ≤ R ((ordTo R k).getD i 0)) → (p = k ∨ R ((ordTo R k).getD p 0) < R k) → p = insP R (ordTo R k) k) := fun p h1 h2 h3 => insP_left (by rw [ord_len]; exact h1) h2 (by rw [ord_len]; exact h3)
    by_cases hk0 : k = 0
    · obtain rfl := HU.out hk0
      subst hk0
      have hz0c : ((0 : Nat) : Int) = 0 := rfl
      rw [hz0c] at *
      have HE1 : Hid (ordZ R 1 = [0]) := rfl
      go_wp2
      go_loopw [7] (fun vp wi => vp = .int .i64 0 ∧ Hid (Below w2.heap.size w2 wi)) (fun _ _ => 1)
      case atStart => exact ⟨rfl, HB⟩
      case round =>
        obtain ⟨rfl, HBi⟩ := hrel
        go_wp2_with fail
        go_quiet (fail)
        have HBV : Hid (Below w2.heap.size w2 (wr.drewN nq)) := belowN HBi.out _
        generalize wr.drewN nq = V at HBV ⊢
        go_wp2_with (first
          | (at_builtin; refine wpList_append_own_none rfl _ _ 23 rfl V.heap.size 3 i0 1 Try.underlying23 hi _ 0 [] rfl (World.ownsRow_nil _ _ _ _) rfl ?_)
          | (at_builtin; refine wpList_append_own _ rfl _ _ 23 rfl V.heap.size 3 i0 (.int .i64 0) 1 8 Try.underlying23 hi hz0 hz1 hz2 rfl (by decide) _ 0 [] rfl (World.ownsRow_nil _ _ _ _) ⟨V.heap.size, 0, none⟩ 1 1 [.int .i64 0] rfl rfl (new_one V 0 _) (one_of 0) (by unfold maxLen; omega) (by omega) (by simp) ?_)
          | fail)
        intro v1 w3 hown hgrow _
        have hO : Own w3 V.heap.size v1 [0] := by unfold Own; simpa using hown
        have hB : Below V.heap.size V w3 := ((Below.refl V.heap.size V).alloc (Nat.le_refl _) _).grown hgrow (by simp) (fun k hk => by simp [Value.ownBlock] at hk)
        obtain ⟨a1, c1, rfl, _⟩ := hO.mine
        have HO1 : Hid (Own w3 V.heap.size (.slice a1 [(0 : Int)].length c1) [0]) := hO
        have HB1' : Hid (Below w2.heap.size w2 w3) := HBV.out.trans (hB.mono HBV.out.size)
        clear hown hgrow hO hB
        simp only [List.length_singleton] at HO1 ⊢
        go_wp2_with (first
          | (at_builtin; refine wpList_append_own_none rfl _ _ 23 rfl V.heap.size 3 i0 1 Try.underlying23 hi _ 1 [.int .i64 0] rfl HO1.out rfl ?_)
          | fail)
        go_roundw
        case rel => exact ⟨1, _, by omega, by go_num, rfl, fun q => by omega, by show Own _ _ _ _; rw [HE1.out]; exact own_low HO1.out HBV.out.size, HB1'⟩
        case measure => simp [intOf]; omega
    have hk0' : 0 < k := by omega
    have hk0I : (0 : Int) < (k : Int) := by omega
    obtain ⟨l, hlE⟩ : ∃ l, Hid (ordTo R k = l) := ⟨_, rfl⟩
    obtain ⟨zs, hzE⟩ : ∃ zs, Hid (ordZ R k = zs) := ⟨_, rfl⟩
    have HZL : Hid (zs.length = k) := by show _ = _; rw [← hzE.out, ordZ_len]
    have HZA : Hid (∀ i, i < k → zs.getD i 0 = ((l.getD i 0 : Nat) : Int)) := fun i hi => by rw [← hzE.out, ordZ_at hi, hlE.out]
    rw [hlE.out] at HLT HPZ HPL
    rw [hzE.out] at HPZ HO
    obtain ⟨g, oc, hu, hkc, hgB, hgl, hcl⟩ := own_open HO.out (by rw [HZL.out]; exact hk0')
    rw [HZL.out] at hu hkc
    subst hu
    have HC : Hid (∀ i, i < zs.length → wr.cell? ⟨g, 0 + i, none⟩ = some (.int .i64 (zs.getD i 0))) := hcl
    have HOC : Hid (oc ≤ maxLen) := by
      rcases HO.out.2 with ⟨q, _⟩ | ⟨g', c', cur, q, hq⟩
      · cases q
      · simp only [Value.slice.injEq] at q
        obtain ⟨_, _, rfl⟩ := q
        first | exact hq.2.2.2.1 | exact hq.2.2.1 | exact hq.2.2.2.2.1 | omega
    clear hcl hk0
    obtain ⟨wo, hwo⟩ : ∃ wo, wo = wr := ⟨_, rfl⟩
    subst hwo
    have hcc := HOC.out
    unfold maxLen at hcc
    have hkcI : (k : Int) ≤ (oc : Int) := by omega
    go_wp2
    go_loopw [7] (fun vp wi => ∃ p : Nat, p ≤ k ∧ vp = .int .i64 (p : Int) ∧ Hid (∀ i, i < p → R k ≤ R (l.getD i 0)) ∧ Hid (Below wo.heap.size wo wi)) (fun vp _ => k - (intOf vp).toNat)
    case atStart => exact ⟨0, Nat.zero_le _, rfl, fun i hi => by omega, Below.refl _ _⟩
    case round =>
      obtain ⟨p, hp, rfl, HGE, HBi⟩ := hrel
      have cKi : wr.cell? ⟨rg, k, none⟩ = some (.int .i64 (R k)) := (HBi.out.cell (p := ⟨rg, k, none⟩) (by have := HB.out.size; show rg < _; omega)).trans cK
      have HRi : Hid (wr.rowIs rg 3 n (fun i => .int .i64 (R i))) := HRr.out.of_block (HBi.out.block _ (by have := HB.out.size; omega))
      have HCi : Hid (∀ i, i < zs.length → wr.cell? ⟨g, 0 + i, none⟩ = some (.int .i64 (zs.getD i 0))) := fun i hi => (HBi.out.cell (p := ⟨g, 0 + i, none⟩) hgl).trans (HC.out i hi)
      by_cases hpk : p < k
      · have hpkI : (p : Int) < (k : Int) := by omega
        have cP := HCi.out p (by rw [HZL.out]; exact hpk)
        rw [Nat.zero_add, HZA.out p hpk] at cP
        have hxk := HLT.out p hpk
        have HNX : Hid (R k ≤ R (l.getD p 0) → ∀ i, i < p + 1 → R k ≤ R (l.getD i 0)) := fun q i hi => by
          by_cases e : i = p
          · rw [e]; exact q
          · exact HGE.out i (by omega)
        have HEX : Hid (R (l.getD p 0) < R k → p = insP R l k) := fun q => HPL.out p hp HGE.out (Or.inr q)
        obtain ⟨x, hx⟩ : ∃ x, Hid (l.getD p 0 = x) := ⟨_, rfl⟩
        rw [hx.out] at cP hxk HNX HEX
        have hxn : x < n := by omega
        have hxnI : (x : Int) < (n : Int) := by omega
        have cX := HRi.out.cell hxn
        obtain ⟨rk, hrk⟩ : ∃ rk, Hid (R k = rk) := ⟨_, rfl⟩
        obtain ⟨rx, hrx⟩ : ∃ rx, Hid (R x = rx) := ⟨_, rfl⟩
        rw [hrk.out] at cKi HNX HEX
        rw [hrx.out] at cX HNX HEX
        by_cases q : rk ≤ rx
        · have HN := HNX.out q
          have HN2 : Hid (∀ i, i < p + 1 → R k ≤ R (l.getD i 0)) := by rw [hrk.out]; exact HN
          have dq : decide (rx ≥ rk) = true := decide_eq_true q
          clear HN
          go_wp2_with fail
          go_quiet (fail)
          go_wp2
          go_roundw
          case rel => exact ⟨p + 1, by omega, by go_num, HN2, belowN HBi.out _⟩
          case measure => simp [intOf]; omega
        have q' : rx < rk := by omega
        have dq : decide (rx ≥ rk) = false := decide_eq_false q
        have HPE : Hid (p = insP R l k) := HEX.out q'
        rw [← HPE.out] at HPZ
        clear q
        go_wp2_with fail
        go_quiet (fail)
        have HBV : Hid (Below wo.heap.size wo (wr.drewN nq)) := belowN HBi.out _
        have HCV : Hid (∀ i, i < zs.length → (wr.drewN nq).cell? ⟨g, 0 + i, none⟩ = some (.int .i64 (zs.getD i 0))) := fun i hi => (HBV.out.cell (p := ⟨g, 0 + i, none⟩) hgl).trans (HC.out i hi)
        have hgV : g < (wr.drewN nq).heap.size := Nat.lt_of_lt_of_le hgl HBV.out.size
        generalize wr.drewN nq = V at HBV HCV hgV ⊢
        clear cKi cP cX HRi HCi dq
        go_wp2_with (first
          | (at_builtin; refine wpList_append_own _ rfl _ _ 23 rfl V.heap.size 3 i0 (.int .i64 0) 1 8 Try.underlying23 hi hz0 hz1 hz2 rfl (by decide) _ 0 [] rfl (World.ownsRow_nil _ _ _ _) ⟨g, 0, none⟩ p oc (((zs.drop 0).take p).map (Value.int .i64)) rfl ?c11 (part_news 0 p (by have := HZL.out; omega) HCV.out) (map_one _) (by unfold maxLen; omega) (by omega) (Nat.le_refl _) ?_)
          | fail)
        case c11 => have := HZL.out; first | omega | (simp; omega)
        intro v1 w3 hown hgrow _
        obtain ⟨HO3, HB3⟩ := first_part (hz := HZL.out) (hk := by omega) hown hgrow
        clear hown hgrow
        go_wp2_with (first
          | (at_builtin; refine wpList_append_own _ rfl _ _ 23 rfl V.heap.size 3 i0 (.int .i64 0) 1 8 Try.underlying23 hi hz0 hz1 hz2 rfl (by decide) _ p (List.take p (List.map (Value.int .i64) zs)) rfl (World.ownsRow.alloc HO3.out _) ⟨w3.heap.size, 0, none⟩ 1 1 [.int .i64 (k : Int)] rfl rfl (new_one w3 (k : Int) _) (one_of (k : Int)) (by unfold maxLen; omega) (by omega) (by have := HB3.out.size; simp; omega) ?_)
          | fail)
        intro v2 w4 hown hgrow _
        obtain ⟨HO4, HB4⟩ := second_part HO3 HB3 hown hgrow
        have HC4 : Hid (∀ i, i < zs.length → w4.cell? ⟨g, 0 + i, none⟩ = some (.int .i64 (zs.getD i 0))) := fun i hi => (HB4.out.cell (p := ⟨g, 0 + i, none⟩) hgV).trans (HCV.out i hi)
        clear hown hgrow
        go_wp2_with (first
          | (at_builtin; refine wpList_append_own _ rfl _ _ 23 rfl V.heap.size 3 i0 (.int .i64 0) 1 8 Try.underlying23 hi hz0 hz1 hz2 rfl (by decide) v2 (p + 1) (List.take p (List.map (Value.int .i64) zs) ++ [.int .i64 (k : Int)]) rfl HO4.out ⟨g, p, none⟩ (k - p) (oc - p) (((zs.drop p).take (k - p)).map (Value.int .i64)) rfl ?c12 (part_news0 p (k - p) (by have := HZL.out; omega) HC4.out) (map_one _) (by unfold maxLen; omega) (by omega) HB4.out.size ?_)
          | fail)
        case c12 => have := HZL.out; first | omega | (simp; omega)
        intro v3 w5 hown hgrow _
        obtain ⟨hO5, hB5⟩ := third_partO HZL.out hp HO4 HB4 hown hgrow
        rw [HPZ.out] at hO5
        have HO5 : Hid (Own w5 w2.heap.size v3 (ordZ R (k + 1))) := own_low hO5 (by have := HBV.out.size; have := HB.out.size; omega)
        have HB5 : Hid (Below w2.heap.size w2 w5) := HB.out.trans ((HBV.out.trans (hB5.mono HBV.out.size)).mono HB.out.size)
        clear hown hgrow hO5 hB5
        go_wp2
        go_roundw
        case rel => exact ⟨k + 1, v3, by omega, by go_num, rfl, fun q => by omega, HO5, HB5⟩
        case measure => simp [intOf]; omega
      · have hpk' : p = k := by omega
        have HPE : Hid (p = insP R l k) := HPL.out p hp HGE.out (Or.inl hpk')
        rw [← HPE.out] at HPZ
        subst hpk'
        clear hpk hp
        go_wp2_with fail
        go_quiet (fail)
        have HBV : Hid (Below wo.heap.size wo (wr.drewN nq)) := belowN HBi.out _
        have HCV : Hid (∀ i, i < zs.length → (wr.drewN nq).cell? ⟨g, 0 + i, none⟩ = some (.int .i64 (zs.getD i 0))) := fun i hi => (HBV.out.cell (p := ⟨g, 0 + i, none⟩) hgl).trans (HC.out i hi)
        have hgV : g < (wr.drewN nq).heap.size := Nat.lt_of_lt_of_le hgl HBV.out.size
        generalize wr.drewN nq = V at HBV HCV hgV ⊢
        clear cKi HRi HCi
        rcases Nat.lt_or_ge p oc with hck | hck
        · have hck1 : ¬ oc = p := by omega
          go_wp2_with (first
            | (at_builtin; refine wpList_append_own _ rfl _ _ 23 rfl V.heap.size 3 i0 (.int .i64 0) 1 8 Try.underlying23 hi hz0 hz1 hz2 rfl (by decide) _ 0 [] rfl (World.ownsRow_nil _ _ _ _) ⟨g, 0, none⟩ p oc (((zs.drop 0).take p).map (Value.int .i64)) rfl ?c21 (part_news 0 p (by have := HZL.out; omega) HCV.out) (map_one _) (by unfold maxLen; omega) (by omega) (Nat.le_refl _) ?_)
            | fail)
          case c21 => have := HZL.out; first | omega | (simp; omega)
          intro v1 w3 hown hgrow _
          obtain ⟨HO3, HB3⟩ := first_part (hz := HZL.out) (hk := by omega) hown hgrow
          clear hown hgrow
          go_wp2_with (first
            | (at_builtin; refine wpList_append_own _ rfl _ _ 23 rfl V.heap.size 3 i0 (.int .i64 0) 1 8 Try.underlying23 hi hz0 hz1 hz2 rfl (by decide) _ p (List.take p (List.map (Value.int .i64) zs)) rfl (World.ownsRow.alloc HO3.out _) ⟨w3.heap.size, 0, none⟩ 1 1 [.int .i64 (p : Int)] rfl rfl (new_one w3 (p : Int) _) (one_of (p : Int)) (by unfold maxLen; omega) (by omega) (by have := HB3.out.size; simp; omega) ?_)
            | fail)
          intro v2 w4 hown hgrow _
          obtain ⟨HO4, HB4⟩ := second_part HO3 HB3 hown hgrow
          have HC4 : Hid (∀ i, i < zs.length → w4.cell? ⟨g, 0 + i, none⟩ = some (.int .i64 (zs.getD i 0))) := fun i hi => (HB4.out.cell (p := ⟨g, 0 + i, none⟩) hgV).trans (HCV.out i hi)
          clear hown hgrow
          go_wp2_with (first
            | (at_builtin; refine wpList_append_own _ rfl _ _ 23 rfl V.heap.size 3 i0 (.int .i64 0) 1 8 Try.underlying23 hi hz0 hz1 hz2 rfl (by decide) v2 (p + 1) (List.take p (List.map (Value.int .i64) zs) ++ [.int .i64 (p : Int)]) rfl HO4.out ⟨g, p, none⟩ 0 _ [] rfl rfl (fun j u h => by simp at h) (fun u h => by simp at h) (by unfold maxLen; omega) (by omega) HB4.out.size ?_)
            | fail)
          intro v3 w5 hown hgrow _
          obtain ⟨hO5, hB5⟩ := third_endO HZL.out HO4 HB4 hown hgrow
          rw [HPZ.out] at hO5
          have HO5 : Hid (Own w5 w2.heap.size v3 (ordZ R (p + 1))) := own_low hO5 (by have := HBV.out.size; have := HB.out.size; omega)
          have HB5 : Hid (Below w2.heap.size w2 w5) := HB.out.trans ((HBV.out.trans (hB5.mono HBV.out.size)).mono HB.out.size)
          clear hown hgrow hO5 hB5
          go_wp2
          go_roundw
          case rel => exact ⟨p + 1, v3, by omega, by go_num, rfl, fun q => by omega, HO5, HB5⟩
          case measure => simp [intOf]; omega
        · have hck2 : p = oc := by omega
          subst hck2
          clear hck
          go_wp2_with (first
            | (at_builtin; refine wpList_append_own _ rfl _ _ 23 rfl V.heap.size 3 i0 (.int .i64 0) 1 8 Try.underlying23 hi hz0 hz1 hz2 rfl (by decide) _ 0 [] rfl (World.ownsRow_nil _ _ _ _) ⟨g, 0, none⟩ p p (((zs.drop 0).take p).map (Value.int .i64)) rfl ?c31 (part_news 0 p (by have := HZL.out; omega) HCV.out) (map_one _) (by unfold maxLen; omega) (by omega) (Nat.le_refl _) ?_)
            | fail)
          case c31 => have := HZL.out; first | omega | (simp; omega)
          intro v1 w3 hown hgrow _
          obtain ⟨HO3, HB3⟩ := first_part (hz := HZL.out) (hk := by omega) hown hgrow
          clear hown hgrow
          go_wp2_with (first
            | (at_builtin; refine wpList_append_own _ rfl _ _ 23 rfl V.heap.size 3 i0 (.int .i64 0) 1 8 Try.underlying23 hi hz0 hz1 hz2 rfl (by decide) _ p (List.take p (List.map (Value.int .i64) zs)) rfl (World.ownsRow.alloc HO3.out _) ⟨w3.heap.size, 0, none⟩ 1 1 [.int .i64 (p : Int)] rfl rfl (new_one w3 (p : Int) _) (one_of (p : Int)) (by unfold maxLen; omega) (by omega) (by have := HB3.out.size; simp; omega) ?_)
            | fail)
          intro v2 w4 hown hgrow _
          obtain ⟨HO4, HB4⟩ := second_part HO3 HB3 hown hgrow
          have HC4 : Hid (∀ i, i < zs.length → w4.cell? ⟨g, 0 + i, none⟩ = some (.int .i64 (zs.getD i 0))) := fun i hi => (HB4.out.cell (p := ⟨g, 0 + i, none⟩) hgV).trans (HCV.out i hi)
          clear hown hgrow
          go_wp2_with (first
            | (at_builtin; refine wpList_append_own _ rfl _ _ 23 rfl V.heap.size 3 i0 (.int .i64 0) 1 8 Try.underlying23 hi hz0 hz1 hz2 rfl (by decide) v2 (p + 1) (List.take p (List.map (Value.int .i64) zs) ++ [.int .i64 (p : Int)]) rfl HO4.out ⟨g, 0, none⟩ 0 _ [] rfl rfl (fun j u h => by simp at h) (fun u h => by simp at h) (by unfold maxLen; omega) (by omega) HB4.out.size ?_)
            | fail)
          intro v3 w5 hown hgrow _
          obtain ⟨hO5, hB5⟩ := third_endO HZL.out HO4 HB4 hown hgrow
          rw [HPZ.out] at hO5
          have HO5 : Hid (Own w5 w2.heap.size v3 (ordZ R (p + 1))) := own_low hO5 (by have := HBV.out.size; have := HB.out.size; omega)
          have HB5 : Hid (Below w2.heap.size w2 w5) := HB.out.trans ((HBV.out.trans (hB5.mono HBV.out.size)).mono HB.out.size)
          clear hown hgrow hO5 hB5
          go_wp2
          go_roundw
          case rel => exact ⟨p + 1, v3, by omega, by go_num, rfl, fun q => by omega, HO5, HB5⟩
          case measure => simp [intOf]; omega
end Go.Proofs.Ytfgfhmfdkglhoaa.walks
