/-
  What the program's LayMoves answers, at all moves; it makes new memory alone.
-/
import Derived.Test.YthjcgnldlhjjmabProg
import Derived.Test.YthjcgnldlhjjmabRingTwo
import Derived.Test.YthjcgnldlhjjmabInts
import Derived.Test.YthjcgnldlhjjmabOwnInts
import Derived.Test.YthjcgnldlhjjmabOwnLists
import Derived.Test.YthjcgnldlhjjmabOwnMoves
import Derived.Test.YthjcgnldlhjjmabArrs
import Derived.Test.YthjcgnldlhjjmabSources
import Derived.Test.YthjcgnldlhjjmabRowsImpl
import Derived.Test.YthjcgnldlhjjmabRingsSpec
import Derived.Test.YthjcgnldlhjjmabRingsImpl
import Derived.Test.YthjcgnldlhjjmabLayRing
import Derived.Test.YthjcgnldlhjjmabLaySpec
import Derived.Test.YthjcgnldlhjjmabLayMovesS
import Derived.WalkKit
import Derived.WalkSpells
import Derived.Below
import Derived.Handy
import Derived.Maps.AppendAt
namespace Go.Proofs.Ythjcgnldlhjjmab.walks
open Go.RowKit Go.Proofs.Ythjcgnldlhjjmab.math Go.Proofs.Ythjcgnldlhjjmab.ints Go.Proofs.Ythjcgnldlhjjmab.lists
set_option linter.unusedVariables false
set_option maxRecDepth 100000

theorem ownL_keepM2 {w w' : World} {B B' k m : Nat} {v u : Value} {Z : Nat → List Int} {X : Nat → Value} {zs : List Int} (h : OwnL w B v k Z X) (g : OwnM w B' u m zs) (hg : w.grownBy w' u.ownBlock) : OwnL w' B v k Z X :=
  ⟨World.ownsRow.kept h.row hg (types_apart h.row g (by decide)), fun j hj => World.ownsRow.kept (h.own j hj) hg (types_apart (h.own j hj) g (by decide)), h.ap⟩
theorem mine_news {w : World} {B g : Nat} {zs : List Int} {m c : Nat} (h : OwnM w B (.slice (some ⟨g, 0, none⟩) m c) m zs) : ∀ (j : Nat) (u : Value), (zs.map (Value.int .i64))[j]? = some u → w.cell? ((⟨g, 0, none⟩ : Addr).add j) = some u := by
  intro j u hj
  have := World.ownsRow.cells h (g := g) rfl j u hj
  exact this
set_option maxHeartbeats 4000000 in
theorem impl_laymoves (a : Option Addr) (len cap : Nat) (zs : List Int) (W : World) (hz : Hid (zs.length = len * 2)) (hlen : len ≤ 1048576) (h : Hid (Ints W a zs)) :
    Calls Try.prog 12 #[.slice a len cap] W (LaysAns zs len W) := by
  obtain ⟨i0, hi, hz0, hz1, hz2⟩ := move_parts
  go_enter Try.func12, Try.ntmps12
  go_wp2_with fail
  refine (impl_rows _ _ _ zs _ hz hlen h).mono ?_
  rintro e w1 ⟨hB, hm⟩
  have HB1 : Hid (Below W.heap.size W w1) := hB
  clear hB
  rcases hm with ⟨hm, c1, v, m, hc1, hO, rfl⟩ | ⟨hm, c1, hc1, rfl⟩
  rotate_left
  · have HM : Hid (movesB zs len = false) := hm
    have HC1 : Hid (IsArr c1 10 (fun _ => 0)) := hc1
    clear hm hc1
    go_wp2_with (first
      | (refine wpList_store_row rfl 45 _ _ rfl w1.heap.size c1 rfl rfl 45 #[.int .i64 0, .int .i64 0, .int .i64 0, .int .i64 0, .int .i64 0, .int .i64 0, .int .i64 0, .int .i64 0, .int .i64 0, .int .i64 0] (heap_alloc_last w1 _) (src_info HC1.out) HC1.out.size.symm HC1.out.one ?_; rw [World.setRow_alloc_new])
      | go_in)
    go_ret2
    exact ⟨HB1.out.alloc HB1.out.size _, Or.inr ⟨HM.out, rfl⟩⟩
  have HM : Hid (movesB zs len = true) := hm
  have HG : Hid (GoodM zs len) := (moves_out hm).2
  have HC1 : Hid (IsArr c1 10 (fun i => rowS zs len 10 (i : Int))) := hc1
  have HB2 : Hid (Below W.heap.size W (w1.alloc (.cells c1 45))) := HB1.out.alloc HB1.out.size _
  have HO2 : Hid (OwnM (w1.alloc (.cells c1 45)) W.heap.size v m (rowL zs len 10)) := World.ownsRow.alloc hO _
  have hm10 : m ≤ 10 := by
    obtain ⟨q, hq, e⟩ := row_even zs len 10
    have := hO.len
    omega
  clear hm hc1 hO
  go_wp2_with (first
    | (refine wpList_store_row rfl 45 _ _ rfl w1.heap.size c1 rfl rfl 45 #[.int .i64 0, .int .i64 0, .int .i64 0, .int .i64 0, .int .i64 0, .int .i64 0, .int .i64 0, .int .i64 0, .int .i64 0, .int .i64 0] (heap_alloc_last w1 _) (src_info HC1.out) HC1.out.size.symm HC1.out.one ?_; rw [World.setRow_alloc_new])
    | (refine wpList_load_row rfl 45 _ rfl w1.heap.size rfl 45 c1 (0, 0) _ (heap_alloc_last w1 _) Try.underlying45 rfl (src_info HC1.out) ?_)
    | (go_at_call 18; refine park9 ?_))
  unfold Hid
  refine (impl_rings c1 (rowS zs len 10) _ HC1 (row_inv HG.out 10).cl (row_inv HG.out 10).pl (fin_wait HG.out)).mono ?_
  rintro e w2 ⟨vr, X, rfl, hOL, hB⟩
  obtain ⟨s, hs⟩ : ∃ s, Hid (rowS zs len 10 = s) := ⟨_, rfl⟩
  rw [hs.out] at hOL
  have HLD : Hid (laidL zs len = layN (rowL zs len 10) (ringZ s) (ringsTo s 10).length) := by
    show laidL zs len = _
    unfold laidL
    rw [hs.out]
  obtain ⟨n, hn⟩ : ∃ n, Hid ((ringsTo s 10).length = n) := ⟨_, rfl⟩
  have HZA : Hid (∀ q, q < n → 2 ≤ (ringZ s q).length ∧ (ringZ s q).length ≤ 10) := fun q hq => ⟨ring_at_two (by rw [hn.out]; exact hq), (ring_at_all (by rw [hn.out]; exact hq)).2⟩
  have hn10 : n ≤ 10 := by rw [← hn.out]; exact rings_len s 10
  rw [hn.out] at hOL HLD
  obtain ⟨Z, hZ⟩ : ∃ Z, Hid (ringZ s = Z) := ⟨_, rfl⟩
  rw [hZ.out] at hOL HLD HZA
  obtain ⟨L0, hL0⟩ : ∃ L0, Hid (rowL zs len 10 = L0) := ⟨_, rfl⟩
  rw [hL0.out] at HO2 HLD
  have HOo1 : Hid (OwnM w2 W.heap.size v m L0) := HO2.out.kept hB
  have HB3 : Hid (Below W.heap.size W w2) := HB2.out.trans (hB.mono HB2.out.size)
  obtain ⟨ra, rc, hvr, _⟩ := hOL.mine
  subst hvr
  obtain ⟨B0, hB0⟩ : ∃ B0, Hid ((w1.alloc (.cells c1 45)).heap.size = B0) := ⟨_, rfl⟩
  rw [hB0.out] at hOL
  have HOL1 : Hid (OwnL w2 B0 (.slice ra n rc) n Z X) := hOL
  have hnI : (n : Int) ≤ 10 := by omega
  clear hOL hB HO2 HB2 HB1 HC1 hZ hB0
  go_wp2
  go_loopw [4, 20] (fun vo vi wr => ∃ (q mo2 : Nat) (uo2 : Value), q ≤ n ∧ vi = .int .i64 q ∧ uo2 = vo ∧ mo2 ≤ 10 + 11 * q ∧ Hid (OwnM wr W.heap.size uo2 mo2 (layN L0 Z q)) ∧ Hid (OwnL wr B0 (.slice ra n rc) n Z X) ∧ Hid (Below W.heap.size W wr)) (fun _ vi _ => 20 - (intOf vi).toNat)
  case atStart => exact ⟨0, m, _, Nat.zero_le _, rfl, rfl, by omega, HOo1, HOL1, HB3⟩
  case round =>
    obtain ⟨q, mo2, uo2, hq, rfl, rfl, hmo2, HO2, HL2, HB2⟩ := hrel
    have hWs2 := HB2.out.size
    clear HOo1 HOL1 HB3
    by_cases hlt : q < n
    · obtain ⟨hr2, hr10⟩ := HZA.out q hlt
      have hown := HL2.out.own q hlt
      obtain ⟨xa, xc, hXX, _⟩ := hown.mine
      have hX : Hid (X q = .slice xa (Z q).length xc) := hXX
      rw [hXX] at hown
      clear hXX
      obtain ⟨gr, hra⟩ : ∃ gr, ra = some ⟨gr, 0, none⟩ := by
        rcases HL2.out.row.2 with ⟨e, _⟩ | ⟨g', cap', cur, e, _⟩
        · simp only [Value.slice.injEq] at e; omega
        · simp only [Value.slice.injEq] at e; exact ⟨g', e.1⟩
      subst hra
      obtain ⟨b0, hxa⟩ : ∃ b0, xa = some ⟨b0, 0, none⟩ := by
        rcases hown.2 with ⟨e, _⟩ | ⟨g', cap', cur, e, _⟩
        · simp only [Value.slice.injEq] at e; omega
        · simp only [Value.slice.injEq] at e; exact ⟨g', e.1⟩
      subst hxa
      have hcq : wr.cell? ⟨gr, q, none⟩ = some (.slice (some ⟨b0, 0, none⟩) (Z q).length xc) := by
        have := World.ownsRow.cellAt HL2.out.row q (by omega)
        rw [this, ← hX.out]
        simp [hlt]
      obtain ⟨R, hR⟩ : ∃ R, Hid (Z q = R) := ⟨_, rfl⟩
      rw [hR.out] at hr2 hr10 hcq hown
      obtain ⟨rl, hrl⟩ : ∃ rl, Hid (R.length = rl) := ⟨_, rfl⟩
      rw [hrl.out] at hr2 hr10 hcq hown
      obtain ⟨_, hrc, hxm, _, F, hRow, hF⟩ := own_row hown
      have hb0 : b0 < wr.heap.size := hRow.lt
      have HCE : Hid (∀ i, i < rl → wr.cell? ⟨b0, 0 + i, none⟩ = some (.int .i64 (R.getD i 0))) := fun i hi => by
        rw [Nat.zero_add, hRow.cell (by omega), hF i hi]
      have hrlI : (rl : Int) ≤ 10 := by omega
      clear hown hRow hF
      go_wp2_with fail
      refine (impl_layring b0 0 rl xc R _ hrl hr2 hr10 hrc hxm hb0 HCE).mono ?_
      rintro e w3 ⟨u, rfl, hu, hB⟩
      obtain ⟨g, c, rfl⟩ := own_form hu
      have HU : Hid (OwnM w3 wr.heap.size (.slice (some ⟨g, 0, none⟩) (rl + 1) c) (rl + 1) (layR R)) := hu
      have HO3 : Hid (OwnM w3 W.heap.size uo2 mo2 (layN L0 Z q)) := HO2.out.kept hB
      have HL3 : Hid (OwnL w3 B0 (.slice (some ⟨gr, 0, none⟩) n rc) n Z X) := HL2.out.grow hB
      have HB3 : Hid (Below W.heap.size W w3) := HB2.out.trans (hB.mono hWs2)
      have hW3 := HB3.out.size
      have HLN : Hid (layN L0 Z (q + 1) = layN L0 Z q ++ layR R) := by
        show layN L0 Z q ++ layR (Z q) = _
        rw [hR.out]
      obtain ⟨LQ, hLQ⟩ : ∃ LQ, Hid (layN L0 Z q = LQ) := ⟨_, rfl⟩
      obtain ⟨LR, hLR⟩ : ∃ LR, Hid (layR R = LR) := ⟨_, rfl⟩
      rw [hLQ.out] at HO3 HLN
      rw [hLR.out] at HU HLN
      have hul := HU.out.len
      have HUL : Hid ((LR.map (Value.int .i64)).length = (rl + 1) * 2) := by show List.length _ = _; rw [List.length_map]; exact hul
      clear hu hB HO2 HL2 HB2 hul hcq
      go_wp2_with (first
        | (at_builtin; refine wpList_append_own_at _ rfl _ _ 26 rfl W.heap.size 33 i0 (.agg #[.int .i64 0, .int .i64 0]) 2 16 Try.underlying26 hi hz0 hz1 hz2 rfl (by decide) _ mo2 (LQ.map (Value.int .i64)) rfl HO3.out ⟨g, 0, none⟩ (rl + 1) c (LR.map (Value.int .i64)) rfl HUL.out (mine_news HU.out) (map_one8 LR) (by unfold maxLen; omega) (by omega) hW3 ?_)
        | fail)
      intro uo4 w4 hown' hgrow _ _
      have HO4 : Hid (OwnM w4 W.heap.size uo4 (mo2 + (rl + 1)) (layN L0 Z (q + 1))) := by
        rw [HLN.out]
        show OwnM _ _ _ _ _
        unfold OwnM
        rw [List.map_append]
        exact hown'
      have HL4 : Hid (OwnL w4 B0 (.slice (some ⟨gr, 0, none⟩) n rc) n Z X) := ownL_keepM2 HL3.out HO3.out hgrow
      have HB4 : Hid (Below W.heap.size W w4) := HB3.out.grown hgrow hW3 (fun j hj => (World.ownsRow.lt HO3.out j hj).1)
      clear hown' hgrow HO3 HL3 HB3
      go_wp2
      go_roundw
      case rel => exact ⟨q + 1, _, _, by omega, by go_num, rfl, by omega, HO4, HL4, HB4⟩
      case measure => simp [intOf]; omega
    · have hqn : q = n := by omega
      have HA : Hid (LaysAns zs len W (.returned (.tuple #[uo2, .bool true])) wr) := ⟨HB2.out, Or.inl ⟨HM.out, uo2, mo2, rfl, by rw [HLD.out, ← hqn]; exact HO2.out⟩⟩
      go_wp2
      go_ret2
      exact HA.out
end Go.Proofs.Ythjcgnldlhjjmab.walks
