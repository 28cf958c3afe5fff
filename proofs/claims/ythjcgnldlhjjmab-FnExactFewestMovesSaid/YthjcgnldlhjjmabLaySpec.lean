/-
  What the specification's l8Lay answers, at good moves; it makes new memory alone.
-/
import Derived.Test.YthjcgnldlhjjmabProg
import Derived.Test.YthjcgnldlhjjmabMagMath
import Derived.Test.YthjcgnldlhjjmabLeftMath
import Derived.Test.YthjcgnldlhjjmabInts
import Derived.Test.YthjcgnldlhjjmabOwnInts
import Derived.Test.YthjcgnldlhjjmabOwnLists
import Derived.Test.YthjcgnldlhjjmabOwnMoves
import Derived.Test.YthjcgnldlhjjmabRecsMove
import Derived.Test.YthjcgnldlhjjmabGoodSpec
import Derived.Test.YthjcgnldlhjjmabRingSpec
import Derived.Test.YthjcgnldlhjjmabRingsSpec
import Derived.Test.YthjcgnldlhjjmabFreeSpec
import Derived.WalkKit
import Derived.WalkSpells
import Derived.Below
import Derived.Handy
import Derived.Maps.AppendAt
import Derived.Deep.LoopGhost
import Derived.Deep.RegionHeld3
import Derived.Deep.DeepCutAuto
import Derived.Deep.CutBlock
namespace Go.Proofs.Ythjcgnldlhjjmab.walks
open Go.RowKit Go.Proofs.Ythjcgnldlhjjmab.math Go.Proofs.Ythjcgnldlhjjmab.ints Go.Proofs.Ythjcgnldlhjjmab.lists
set_option linter.unusedVariables false
set_option maxRecDepth 100000

theorem step_append_own8 {P : Program} (w : World) {ops : Array Oper} {o : Oper} {a : Act} {K : Act → World → Prop} {Q : Exit → Act → World → Prop} {E : Prop} (hgd : o.guard = none) (s x : Operand) (t : TypeId)
    (ho : o.op = .call { callee := .builtin .append, args := #[s, x], argTypes := #[t, t] })
    (base : Nat) (e : TypeId) (i : TypeInfo) (z : Value) (size bytes : Nat) (ht : P.underlying t = some (.slice e)) (hi : P.info? e = some i) (hz : i.zero = some z)
    (hsize : i.size = size) (hby : i.bytes = bytes) (hzs : z.cells.size = size) (hsz : 0 < size)
    (v : Value) (n : Nat) (xs : List Value) (hs : a.eval s = v) (hown : w.ownsRow base e size v n xs)
    (ad : Addr) (m c : Nat) (news : List Value) (hx : a.eval x = .slice (some ad) m c) (hl : news.length = m * size) (hnews : ∀ j u, news[j]? = some u → w.cell? (ad.add j) = some u) (h1 : ∀ u ∈ news, u.oneCell' = true)
    (h63 : n + m ≤ maxLen) (hbytes : (n + m) * bytes ≤ 140737488355328) (hbase : base ≤ w.heap.size)
    (h : ∀ v' w', w'.ownsRow base e size v' (n + m) (xs ++ news) → w.grownBy w' v.ownBlock → (v' = .slice none 0 0 ↔ v = .slice none 0 0 ∧ m = 0) → K (a.put o.dst v') w') :
    if Region.wanted o (yielded ops a.tmps) = true then Oper.wp P o a w K Q else E := by
  have hw : Region.wanted o (yielded ops a.tmps) = true := by simp [Region.wanted, hgd]
  rw [if_pos hw]
  exact wp_append_own w s x t ho base e i z size bytes ht hi hz hsize hby hzs hsz v n xs hs hown ad m c news hx hl hnews h1 h63 hbytes hbase h
theorem news_part {w : World} {g o n : Nat} {LL L : List Int} (hc : ∀ j, j < n → w.cell? ⟨g, j, none⟩ = some (.int .i64 (LL.getD j 0))) (hL : ∀ j, j < L.length → o + j < n ∧ L.getD j 0 = LL.getD (o + j) 0) : ∀ (j : Nat) (u : Value), (L.map (Value.int .i64))[j]? = some u → w.cell? ((⟨g, o, none⟩ : Addr).add j) = some u := by
  intro j u hj
  rw [List.getElem?_map] at hj
  cases hw : L[j]? with
  | none => rw [hw] at hj; simp at hj
  | some x =>
    rw [hw] at hj
    simp at hj
    subst hj
    have hlt : j < L.length := (List.getElem?_eq_some_iff.1 hw).1
    obtain ⟨h1, h2⟩ := hL j hlt
    have e : L.getD j 0 = x := by simp [List.getD, hw]
    have ha : (⟨g, o, none⟩ : Addr).add j = ⟨g, o + j, none⟩ := by unfold Addr.add; split <;> simp_all
    rw [ha, hc _ h1, ← h2, e]
theorem map_one8 (L : List Int) : ∀ u ∈ L.map (Value.int .i64), u.oneCell' = true := by
  intro u hu
  obtain ⟨x, _, rfl⟩ := List.mem_map.1 hu
  rfl
theorem after_cut {w2 w3 w4 : World} {o : Obj} {v3 : Value} {n : Nat} {xs : List Value} {c : Nat} (hg3 : (w2.drew.alloc o).grownBy w3 (Value.ownBlock (.slice (some ⟨w2.heap.size, 0, none⟩) 0 c))) (h3 : w3.ownsRow w2.heap.size 33 2 v3 n xs) (hg4 : w3.grownBy w4 v3.ownBlock) : Below w2.heap.size w2 w4 := by
  have e : (w2.drew.alloc o).heap.size = w2.heap.size + 1 := by simp
  have h1 : Below w2.heap.size w2 w3 := (((Below.refl w2.heap.size w2).drew).alloc (Nat.le_refl _) o).grown hg3 (by omega) (fun j hj => by simp [Value.ownBlock] at hj; omega)
  exact h1.grown hg4 h1.size (fun j hj => (World.ownsRow.lt h3 j hj).1)
theorem far_own {w : World} {B B' m n : Nat} {u v : Value} {zs ys : List Int} (h : OwnM w B u m zs) (h2 : ∀ g, u.ownBlock = some g → g < B') (g : OwnM w B' v n ys) : u.ownBlock = none ∨ v.ownBlock ≠ u.ownBlock := by
  cases q : u.ownBlock with
  | none => exact Or.inl rfl
  | some b =>
    refine Or.inr fun e => ?_
    have h1 := h2 b q
    have h3 := (World.ownsRow.lt g b e).1
    omega
theorem types_apart {w : World} {B B' s s' n n' : Nat} {e e' : TypeId} {u v : Value} {xs ys : List Value} (h : w.ownsRow B e s v n xs) (g : w.ownsRow B' e' s' u n' ys) (hne : e ≠ e') : v.ownBlock = none ∨ v.ownBlock ≠ u.ownBlock := by
  rcases h.2 with ⟨rfl, _⟩ | ⟨b, c, cur, rfl, _, hb, _⟩
  · exact Or.inl rfl
  · refine Or.inr fun q => ?_
    rcases g.2 with ⟨rfl, _⟩ | ⟨b', c', cur', rfl, _, hb', _⟩
    · cases q
    · simp [Value.ownBlock] at q
      subst q
      rw [hb] at hb'
      simp at hb'
      exact hne hb'.2
theorem ownL_keepM {w w' : World} {B B' k m : Nat} {v u : Value} {Z : Nat → List Int} {X : Nat → Value} {zs : List Int} {o : Obj} (h : OwnL w B v k Z X) (g : OwnM w B' u m zs) (hg : (w.alloc o).grownBy w' u.ownBlock) : OwnL w' B v k Z X :=
  ⟨World.ownsRow.kept (World.ownsRow.alloc h.row o) hg (types_apart h.row g (by decide)), fun j hj => World.ownsRow.kept (World.ownsRow.alloc (h.own j hj) o) hg (types_apart (h.own j hj) g (by decide)), h.ap⟩
/-- What l8Lay answers: the laid moves. -/
def LayAns (L : List Int) (W : World) (e : Ending) (W' : World) : Prop := ∃ v m, e = .returned v ∧ OwnM W' W.heap.size v m L ∧ Below W.heap.size W W'
/-- The rows and the rings of good moves, laid. -/
def laidL (zs : List Int) (len : Nat) : List Int := layN (rowL zs len 10) (ringZ (rowS zs len 10)) (ringsTo (rowS zs len 10) 10).length
set_option maxHeartbeats 8000000 in
theorem spec_lay (a : Option Addr) (len cap : Nat) (zs : List Int) (W : World) (hz : Hid (zs.length = len * 2)) (hlen : len ≤ 10) (hG : Hid (GoodM zs len)) (h : Hid (Ints W a zs)) :
    Calls Try.prog 10 #[.slice a len cap] W fun e W' => LayAns (laidL zs len) W e W' := by
  obtain ⟨i0, hi, hz0, hz1, hz2⟩ := move_parts
  obtain ⟨s0, hs0⟩ : ∃ s0, Hid (srcTo zs len = s0) := ⟨_, rfl⟩
  have HS : Hid (∀ k, k < len → s0 (toM zs k) = frM zs k) := fun k hk => by rw [← hs0.out]; exact src_of k hG.out hk rfl
  go_enter Try.func10, Try.ntmps10
  go_upto_block 0 with fail
  go_cut [3] (fun v3 wx => ∃ (m : Nat) (v : Value), v = v3 ∧ Hid (posL zs s0 len = m) ∧ Hid (OwnM wx W.heap.size v m (leftL zs s0 len)) ∧ Hid (Below W.heap.size W wx))
  case first =>
    go_wp2_with fail
    go_loopw [3, 14] (fun vl vi wr => ∃ (k m : Nat) (v : Value), k ≤ len ∧ vi = .int .i64 k ∧ v = vl ∧ Hid (posL zs s0 k = m) ∧ m ≤ k ∧ Hid (OwnM wr W.heap.size v m (leftL zs s0 k)) ∧ Hid (Below W.heap.size W wr)) (fun _ vi _ => len - (intOf vi).toNat)
    case atStart => exact ⟨0, 0, _, Nat.zero_le _, rfl, rfl, rfl, Nat.le_refl _, ownM_nil _ _, Below.refl _ _⟩
    case round =>
      obtain ⟨k, m, v, hk, rfl, rfl, HP, hmk, HO, HB⟩ := hrel
      have hWs := HB.out.size
      by_cases hlt : k < len
      · obtain ⟨b, off, x, y, ha, hb, c0, c1, HX, HY⟩ := move_at h.out hz.out HB.out hlt
        have hbw : b < wr.heap.size := by omega
        subst ha
        have HSk := HS.out k hlt
        rw [HX.out, HY.out] at HSk
        have HSK : Hid (s0 y = x) := HSk
        clear HSk
        have HB1 : Hid (Below W.heap.size W (wr.alloc (.cells #[.int .i64 x, .int .i64 y] 33))) := HB.out.alloc hWs _
        have HO1 : Hid (OwnM (wr.alloc (.cells #[.int .i64 x, .int .i64 y] 33)) W.heap.size v m (leftL zs s0 k)) := World.ownsRow.alloc HO.out _
        by_cases e : x = y
        · obtain ⟨e1, e2⟩ := left_skip (z := zs) (s := s0) (n := k) (by rw [HY.out, HSK.out]; exact e)
          have HP2 : Hid (posL zs s0 (k + 1) = m) := e2.trans HP.out
          have HO2 : Hid (OwnM (wr.alloc (.cells #[.int .i64 x, .int .i64 y] 33)) W.heap.size v m (leftL zs s0 (k + 1))) := by rw [e1]; exact HO1
          subst e
          clear e1 e2 HO1
          go_wp2
          go_roundw
          case rel => exact ⟨k + 1, m, _, by omega, by go_num, rfl, HP2, by omega, HO2, HB1⟩
          case measure => simp [intOf]; omega
        · obtain ⟨e1, e2⟩ := left_go (z := zs) (s := s0) (n := k) (by rw [HY.out, HSK.out]; exact e)
          rw [HX.out, HY.out] at e1
          have HP2 : Hid (posL zs s0 (k + 1) = m + 1) := by show _ = _; rw [e2, HP.out]
          have HE1 : Hid (leftL zs s0 (k + 1) = leftL zs s0 k ++ [x, y]) := e1
          have d1 : (x == y) = false := by simpa using e
          have d2 : decide (x = y) = false := decide_eq_false e
          have d3 : (x != y) = true := by simpa using e
          obtain ⟨R, hR⟩ : ∃ R, Hid (leftL zs s0 k = R) := ⟨_, rfl⟩
          rw [hR.out] at HO1 HE1
          clear e1 e2
          go_wp2_with (first
            | (at_builtin; refine wpList_append_own_at _ rfl _ _ 26 rfl W.heap.size 33 i0 (.agg #[.int .i64 0, .int .i64 0]) 2 16 Try.underlying26 hi hz0 hz1 hz2 rfl (by decide) _ m (R.map (Value.int .i64)) rfl (World.ownsRow.alloc HO1.out _) ⟨wr.heap.size + 1, 0, none⟩ 1 1 [.int .i64 x, .int .i64 y] rfl rfl ?a1 (two_of _ _) ?a3 ?a4 ?a5 ?_)
            | go_in)
          case a1 => simpa using new_two (wr.alloc (.cells #[.int .i64 x, .int .i64 y] 33)) x y 33
          case a3 => unfold maxLen; omega
          case a4 => omega
          case a5 => simp; omega
          intro v2 w2 hown' hgrow _ _
          obtain ⟨o1, o2, o3⟩ := OwnM.snoc HO1.out (B' := W.heap.size) (Nat.le_refl _) (by simp; omega) HB1.out hown' hgrow
          have HO4 : Hid (OwnM w2 W.heap.size v2 (m + 1) (leftL zs s0 (k + 1))) := by rw [HE1.out]; exact o1
          have HB4 : Hid (Below W.heap.size W w2) := o2
          clear hown' hgrow o1 o2
          go_wp2
          go_roundw
          case rel => exact ⟨k + 1, m + 1, _, by omega, by go_num, rfl, HP2, by omega, HO4, HB4⟩
          case measure => simp [intOf]; omega
      · have hkl : k = len := by omega
        rw [hkl] at HP HO
        go_wp2_with fail
        go_meet
        exact ⟨m, v, rfl, HP, HO, HB⟩
  obtain ⟨m, v, rfl, HP, HO, HB⟩ := hcut
  obtain ⟨k, hkk⟩ : ∃ k, k = len := ⟨_, rfl⟩
  subst hkk
  have hWs := HB.out.size
  have hmk : m ≤ k := by have := pos_le zs s0 k; rw [HP.out] at this; exact this
  obtain ⟨va, vc, hv, hmc, hcm, hM⟩ := HO.out.mine
  subst hv
  have HL : Hid ((leftL zs s0 k).length = m * 2) := HO.out.len
  have HMI : Hid (Ints wc va (leftL zs s0 k)) := hM.ints
  clear hM hmc hcm
  go_wp2_with fail
  refine (spec_free _ _ _ (leftL zs s0 k) _ HL (by omega) HMI).mono ?_
  rintro e w1 ⟨r, rfl, hr, hB⟩
  have HB1 : Hid (Below W.heap.size W w1) := HB.out.trans (hB.mono hWs)
  have HO1 : Hid (OwnM w1 W.heap.size (.slice va m vc) m (leftL zs s0 k)) := HO.out.kept hB
  have HFR : Hid (FreeR (leftL zs s0 k) m r) := hr
  have hmk' : m ≤ k := by have := pos_le zs s0 k; rw [HP.out] at this; exact this
  have HW0 : Hid (wcTo s0 10 + 0 ≤ 10) := wc_le s0 10
  have HR0 : Hid (rowS zs k 0 = s0) := hs0.out
  clear hB hr HMI HL HO HB
  go_upto_block 2 with fail
  go_cut [3, 4, 7] (fun v3 v4 v7 wx => ∃ (c ml mo : Nat) (ul uo : Value), c ≤ 10 ∧ ul = v3 ∧ uo = v4 ∧ Hid (¬ firstF zs (rowS zs k c) k < k) ∧ Hid (posL zs (rowS zs k c) k = ml) ∧ ml ≤ k ∧ mo ≤ c ∧ Hid (OwnM wx W.heap.size ul ml (leftL zs (rowS zs k c) k)) ∧ Hid (OwnM wx W.heap.size uo mo (rowL zs k c)) ∧ Hid (Below W.heap.size W wx))
  case first =>
    go_wp2_with fail
    go_loopg [3, 4, 7] 12 (fun gk vl vo vk wr => ∃ (c ml mo : Nat) (ul uo : Value) (r : Int), c + gk = 12 ∧ Hid (wcTo (rowS zs k c) 10 + c ≤ 10) ∧ ul = vl ∧ uo = vo ∧ vk = .int .i64 r ∧ Hid (posL zs (rowS zs k c) k = ml) ∧ ml ≤ k ∧ mo ≤ c ∧ Hid (OwnM wr W.heap.size ul ml (leftL zs (rowS zs k c) k)) ∧ Hid (OwnM wr W.heap.size uo mo (rowL zs k c)) ∧ Hid (uo.ownBlock = none ∨ ul.ownBlock ≠ uo.ownBlock) ∧ Hid (FreeR (leftL zs (rowS zs k c) k) ml r) ∧ Hid (Below W.heap.size W wr))
    case atStart => exact ⟨0, m, 0, _, _, r, by omega, by rw [HR0.out]; exact HW0, rfl, rfl, rfl, by rw [HR0.out]; exact HP, hmk', by omega, by rw [HR0.out]; exact HO1, ownM_nil _ _, Or.inl rfl, by rw [HR0.out]; exact HFR, HB1⟩
    case round =>
      clear HB1 HO1 HFR HW0 HR0 HP HS hs0
      obtain ⟨c, ml, mo, ul, uo, r, hc, HWC, rfl, rfl, rfl, HP, hml, hmo, HOl, HOo, HAP, HFR, HB⟩ := hrel
      have hWs := HB.out.size
      have HRI : Hid (RowI zs k (rowS zs k c)) := row_inv hG.out c
      have hc10 : c ≤ 10 := by have := HWC.out; omega
      by_cases hff : firstF zs (rowS zs k c) k < k
      · obtain ⟨K, hK⟩ : ∃ K, Hid (firstF zs (rowS zs k c) k = K) := ⟨_, rfl⟩
        obtain ⟨f1, f2, f3⟩ := left_first hG.out HRI.out hff
        have hwK := (free_out (ff_some hff).1).1
        rw [hK.out] at f1 f2 f3 hff hwK
        rw [HP.out] at f1 f2 f3
        obtain ⟨i, hi'⟩ : ∃ i, Hid (posL zs (rowS zs k c) K = i) := ⟨_, rfl⟩
        rw [hi'.out] at f1 f2 f3
        obtain ⟨g1, g2, _⟩ := left_at hwK hff
        rw [hi'.out] at g1 g2
        have hr : r = (i : Int) := by
          rcases HFR.out with ⟨j, hj, e, q1, q2⟩ | ⟨_, q⟩
          · rcases Nat.lt_trichotomy j i with z | z | z
            · exact absurd q1 (f3 j z)
            · rw [e, z]
            · exact absurd f2 (q2 i z)
          · exact absurd f2 (q i f1)
        obtain ⟨RR, r1, r2, r3⟩ := left_cut hwK hff hG.out
        have HS' : Hid (rowS zs k (c + 1) = updS (rowS zs k c) (toM zs K)) := rowS_go hK.out hff
        have HL' : Hid (rowL zs k (c + 1) = rowL zs k c ++ [frM zs K, toM zs K]) := rowL_go hK.out hff
        have HWC' : Hid (wcTo (rowS zs k (c + 1)) 10 + (c + 1) ≤ 10) := by
          have h1 := row_wc hG.out (c := c) (by rw [hK.out]; exact hff)
          have h2 := HWC.out
          show _ ≤ _
          omega
        obtain ⟨x, hx⟩ : ∃ x, Hid (frM zs K = x) := ⟨_, rfl⟩
        obtain ⟨y, hy⟩ : ∃ y, Hid (toM zs K = y) := ⟨_, rfl⟩
        rw [← HS'.out] at r2 r3
        rw [HP.out] at r3
        rw [hx.out] at g1 HL' r1
        rw [hy.out] at g2 HL' r1
        have HLA : Hid ((leftL zs (rowS zs k c) K).length = i * 2) := by show _ = _; rw [left_len, hi'.out]
        obtain ⟨LA, hLA⟩ : ∃ LA, Hid (leftL zs (rowS zs k c) K = LA) := ⟨_, rfl⟩
        obtain ⟨LL, hLL⟩ : ∃ LL, Hid (leftL zs (rowS zs k c) k = LL) := ⟨_, rfl⟩
        rw [hLA.out] at r1 r2 HLA
        rw [hLL.out] at r1 HOl g1 g2
        have HG1 : Hid (frM LL i = x) := g1
        have HG2 : Hid (toM LL i = y) := g2
        have HR1 : Hid (LL = LA ++ (x :: y :: RR)) := r1
        have HR2 : Hid (leftL zs (rowS zs k (c + 1)) k = LA ++ RR) := r2
        have HR3 : Hid (ml = posL zs (rowS zs k (c + 1)) k + 1) := r3
        obtain ⟨LO, hLO⟩ : ∃ LO, Hid (rowL zs k c = LO) := ⟨_, rfl⟩
        rw [hLO.out] at HOo HL'
        have HLL : Hid (LL.length = ml * 2) := HOl.out.len
        obtain ⟨va, cl, hv, hmc, hcm, hM⟩ := HOl.out.mine
        subst hv
        obtain ⟨g, hva⟩ : ∃ g, va = some ⟨g, 0, none⟩ := by
          rcases HOl.out.2 with ⟨e, _⟩ | ⟨g', cap', cur, e, _⟩
          · simp only [Value.slice.injEq] at e; omega
          · simp only [Value.slice.injEq] at e; exact ⟨g', e.1⟩
        subst hva
        have hgl : W.heap.size ≤ g ∧ g < wr.heap.size := World.ownsRow.lt HOl.out g rfl
        have HLC : Hid (∀ j, j < ml * 2 → wr.cell? ⟨g, j, none⟩ = some (.int .i64 (LL.getD j 0))) := fun j hj => by
          rcases hM with e | ⟨b, off, e, _, _, hcl⟩
          · have := HLL.out; rw [e] at this; simp at this; omega
          · simp only [Option.some.injEq, Addr.mk.injEq] at e
            obtain ⟨rfl, rfl, _⟩ := e
            have := (hcl j (by rw [HLL.out]; exact hj)).1
            simpa using this
        have d0 := HLC.out (i * 2) (by omega)
        have d1 := HLC.out (i * 2 + 1) (by omega)
        rw [show LL.getD (i * 2) 0 = x from HG1.out] at d0
        rw [show LL.getD (i * 2 + 1) 0 = y from HG2.out] at d1
        subst hr
        have hiI : (i : Int) < (ml : Int) := by omega
        have hcm' : (cl : Int) ≤ 9223372036854775807 := by unfold maxLen at hcm; omega
        have hmcI : (ml : Int) ≤ (cl : Int) := by omega
        clear hM f2 f3 g1 g2 r1 r2 r3 hwK
        go_wp2_with (first
          | (at_builtin; refine wpList_append_own_at _ rfl _ _ 26 rfl W.heap.size 33 i0 (.agg #[.int .i64 0, .int .i64 0]) 2 16 Try.underlying26 hi hz0 hz1 hz2 rfl (by decide) _ mo (LO.map (Value.int .i64)) rfl (World.ownsRow.alloc HOo.out _) ⟨wr.heap.size, 0, none⟩ 1 1 [.int .i64 x, .int .i64 y] rfl rfl ?b1 (two_of _ _) ?b3 ?b4 ?b5 ?_)
          | fail)
        case b1 => exact new_two _ _ _ _
        case b3 => unfold maxLen; omega
        case b4 => omega
        case b5 => simp; omega
        intro uo2 w2 hown' hgrow _ hat
        obtain ⟨o1, o2, o3⟩ := OwnM.snoc HOo.out (B' := W.heap.size) (Nat.le_refl _) hWs HB.out hown' hgrow
        have HOo2 : Hid (OwnM w2 W.heap.size uo2 (mo + 1) (rowL zs k (c + 1))) := by rw [HL'.out]; exact o1
        have HB2 : Hid (Below W.heap.size W w2) := o2
        have hne : some g ≠ uo.ownBlock := by
          intro e
          rcases HAP.out with q | q
          · rw [q] at e; cases e
          · exact q e
        have HLC2 : Hid (∀ j, j < ml * 2 → w2.cell? ⟨g, j, none⟩ = some (.int .i64 (LL.getD j 0))) := fun j hj => (World.cell?_of_block (hgrow.block g (by simp; omega) hne)).trans ((World.cell?_alloc_past _ _ _ hgl.2).trans (HLC.out j hj))
        have hg2 : g < w2.heap.size := by have := hgrow.size; simp at this; omega
        clear hown' hgrow o1 o2 HLC d0 d1 HOl HOo HB HAP hat hne
        obtain ⟨D0, hD0⟩ : ∃ D0, Hid (LA.map (Value.int .i64) = D0) := ⟨_, rfl⟩
        obtain ⟨D1, hD1⟩ : ∃ D1, Hid (RR.map (Value.int .i64) = D1) := ⟨_, rfl⟩
        have hRl : Hid (RR.length = (ml - (i + 1)) * 2) := by
          have h1 := HLL.out
          rw [HR1.out] at h1
          simp only [List.length_append, List.length_cons, HLA.out] at h1
          show _ = _
          omega
        have E0 : Hid (D0.length = i * 2) := by rw [← hD0.out]; show List.length _ = _; rw [List.length_map]; exact HLA.out
        have E1 : Hid (D1.length = (ml - (i + 1)) * 2) := by rw [← hD1.out]; show List.length _ = _; rw [List.length_map]; exact hRl.out
        have N0 : Hid (∀ (w : World), (∀ j, j < ml * 2 → w.cell? ⟨g, j, none⟩ = some (.int .i64 (LL.getD j 0))) → ∀ (j : Nat) (u : Value), D0[j]? = some u → w.cell? ((⟨g, 0, none⟩ : Addr).add j) = some u) := by
          show ∀ (w : World), _
          intro w hw
          rw [← hD0.out]
          refine news_part hw (fun j hj => ⟨by have := HLA.out; omega, ?_⟩)
          rw [HR1.out, Nat.zero_add, getD_left _ _ hj]
        have N1 : Hid (∀ (w : World), (∀ j, j < ml * 2 → w.cell? ⟨g, j, none⟩ = some (.int .i64 (LL.getD j 0))) → ∀ (j : Nat) (u : Value), D1[j]? = some u → w.cell? ((⟨g, (i + 1) * 2, none⟩ : Addr).add j) = some u) := by
          show ∀ (w : World), _
          intro w hw
          rw [← hD1.out]
          refine news_part hw (fun j hj => ⟨by have := hRl.out; omega, ?_⟩)
          have := getD_right LA (x :: y :: RR) (2 + j)
          rw [HLA.out] at this
          rw [HR1.out, show (i + 1) * 2 + j = i * 2 + (2 + j) by omega, this, Nat.add_comm 2 j]
          rfl
        have O0 : Hid (∀ u ∈ D0, u.oneCell' = true) := by rw [← hD0.out]; exact map_one8 LA
        have O1 : Hid (∀ u ∈ D1, u.oneCell' = true) := by rw [← hD1.out]; exact map_one8 RR
        have hi1 : ((i : Int) + 1) ≤ (ml : Int) := by omega
        have hi2 : (0 : Int) ≤ (i : Int) := by omega
        have hi5 : (0 : Int) ≤ (i : Int) + 1 := by omega
        have hi3 : ((i : Int) + 1) ≤ (cl : Int) := by omega
        have hi4 : (i : Int) ≤ (cl : Int) := by omega
        have hwi : IntKind.i64.wrap ((i : Int) + 1) = (i : Int) + 1 := wrap_in (by omega) (by omega)
        have hW2 : W.heap.size ≤ w2.heap.size := HB2.out.size
        by_cases hcl : i + 1 < cl
        · have hclI : ((i : Int) + 1) < (cl : Int) := by omega
          have htn : ((i : Int) + 1).toNat = i + 1 := by omega
          have hcne : ¬ cl = i + 1 := by omega
          go_upto_region 12 with fail
          go_region_held3 (fun _ => True) (trivial) (first
            | ((refine step_append_own8 _ (by rfl) _ _ 26 (by rfl) w2.heap.size 33 i0 _ 2 16 Try.underlying26 hi hz0 hz1 hz2 rfl (by decide) (.slice (some ⟨w2.heap.size, 0, none⟩) 0 0) 0 [] (by rfl) (World.ownsRow_made w2.drew #[] 0 (Nat.le_refl _) (Nat.zero_le _) rfl) ⟨g, 0, none⟩ i cl D0 (by rfl) E0.out (N0.out _ (fun j hj => (World.cell?_alloc_past _ _ _ hg2).trans (HLC2.out j hj))) O0.out (by unfold maxLen; omega) (by omega) (by simp [World.drew]) ?_; intro v3 w3 hown3 hgrow3 hnil3))
            | ((refine step_append_own8 _ (by rfl) _ _ 26 (by rfl) w2.heap.size 33 i0 _ 2 16 Try.underlying26 hi hz0 hz1 hz2 rfl (by decide) v3 i D0 (by rfl) (by simpa using hown3) ⟨g, (i + 1) * 2, none⟩ (ml - (i + 1)) (cl - (i + 1)) D1 (by rfl) E1.out (N1.out _ (fun j hj => (World.cell?_of_block (hgrow3.block g (by simp [World.drew]; omega) (by simp [Value.ownBlock]; omega))).trans ((World.cell?_alloc_past _ _ _ hg2).trans (HLC2.out j hj)))) O1.out (by unfold maxLen; omega) (by omega) (by have := hgrow3.size; simp [World.drew] at this; omega) ?_; intro v4 w4 hown4 hgrow4 hnil4)))
          all_goals
            have HB24 : Hid (Below w2.heap.size w2 w4) := after_cut hgrow3 hown3 hgrow4
            have HOl4 : Hid (OwnM w4 w2.heap.size v4 (ml - 1) (leftL zs (rowS zs k (c + 1)) k)) := by
              show w4.ownsRow w2.heap.size 33 2 v4 (ml - 1) ((leftL zs (rowS zs k (c + 1)) k).map (Value.int .i64))
              rw [HR2.out, List.map_append, hD0.out, hD1.out, show ml - 1 = i + (ml - (i + 1)) by omega]
              exact hown4
            clear hown3 hgrow3 hnil3 hown4 hgrow4 hnil4
            have HOo4 : Hid (OwnM w4 W.heap.size uo2 (mo + 1) (rowL zs k (c + 1))) := HOo2.out.kept HB24.out
            have HB4 : Hid (Below W.heap.size W w4) := HB2.out.trans (HB24.out.mono hW2)
            have HAP4 : Hid (uo2.ownBlock = none ∨ v4.ownBlock ≠ uo2.ownBlock) := far_own HOo4.out (fun b hb => (World.ownsRow.lt HOo2.out b hb).2) HOl4.out
            have HP4 : Hid (posL zs (rowS zs k (c + 1)) k = ml - 1) := by have := HR3.out; show _ = _; omega
            obtain ⟨va, vc, hv, _, _, hM⟩ := HOl4.out.mine
            subst hv
            have HLL4 : Hid ((leftL zs (rowS zs k (c + 1)) k).length = (ml - 1) * 2) := HOl4.out.len
            have HMI : Hid (Ints w4 va (leftL zs (rowS zs k (c + 1)) k)) := hM.ints
            clear hM N0 N1 O0 O1 E0 E1 HLC2 HR1 HR2 HR3 hRl HOo2 HB2
            go_wp2_with fail
            refine (spec_free _ _ _ (leftL zs (rowS zs k (c + 1)) k) _ HLL4 (by omega) HMI).mono ?_
            rintro e w5 ⟨r5, rfl, hr5, hB5⟩
            have HFR5 : Hid (FreeR (leftL zs (rowS zs k (c + 1)) k) (ml - 1) r5) := hr5
            have HOl5 : Hid (OwnM w5 W.heap.size (.slice va (ml - 1) vc) (ml - 1) (leftL zs (rowS zs k (c + 1)) k)) := (HOl4.out.low hW2).kept hB5
            have HOo5 : Hid (OwnM w5 W.heap.size uo2 (mo + 1) (rowL zs k (c + 1))) := HOo4.out.kept hB5
            have HB5 : Hid (Below W.heap.size W w5) := HB4.out.trans (hB5.mono HB4.out.size)
            clear hr5 hB5 HMI HOl4 HOo4 HB4
            go_wp2
            go_roundg (gk - 1)
            case measure => omega
            case rel => exact ⟨c + 1, ml - 1, mo + 1, _, _, r5, by omega, HWC', rfl, rfl, rfl, HP4, by omega, by omega, HOl5, HOo5, HAP4, HFR5, HB5⟩
        · have HCL : Hid (cl = i + 1) := by show cl = i + 1; omega
          have HML : Hid (ml = i + 1) := by show ml = i + 1; omega
          have HD1 : Hid (D1 = []) := by
            have := E1.out
            have h0 : (ml - (i + 1)) * 2 = 0 := by omega
            rw [h0] at this
            exact List.length_eq_zero_iff.1 this
          have htn : ((i : Int) + 1).toNat = cl := by omega
          have hm63 : Hid (i + 0 ≤ maxLen) := by show _ ≤ _; unfold maxLen; omega
          have hmby : Hid ((i + 0) * 16 ≤ 140737488355328) := by show _ ≤ _; omega
          clear hcl
          go_upto_region 12 with fail
          go_region_held3 (fun _ => True) (trivial) (first
            | ((refine step_append_own8 _ (by rfl) _ _ 26 (by rfl) w2.heap.size 33 i0 _ 2 16 Try.underlying26 hi hz0 hz1 hz2 rfl (by decide) (.slice (some ⟨w2.heap.size, 0, none⟩) 0 0) 0 [] (by rfl) (World.ownsRow_made w2.drew #[] 0 (Nat.le_refl _) (Nat.zero_le _) rfl) ⟨g, 0, none⟩ i cl D0 (by rfl) E0.out (N0.out _ (fun j hj => (World.cell?_alloc_past _ _ _ hg2).trans (HLC2.out j hj))) O0.out (by unfold maxLen; omega) (by omega) (by simp [World.drew]) ?_; intro v3 w3 hown3 hgrow3 hnil3))
            | ((refine step_append_own8 _ (by rfl) _ _ 26 (by rfl) w2.heap.size 33 i0 _ 2 16 Try.underlying26 hi hz0 hz1 hz2 rfl (by decide) v3 i D0 (by rfl) (by simpa using hown3) ⟨g, 0, none⟩ 0 0 [] (by rfl) rfl (fun j u hj => by simp at hj) (fun u hu => by simp at hu) hm63.out hmby.out (by have := hgrow3.size; simp [World.drew] at this; omega) ?_; intro v4 w4 hown4 hgrow4 hnil4)))
          all_goals replace hown4 : w4.ownsRow w2.heap.size 33 2 v4 (i + (ml - (i + 1))) (D0 ++ D1) := (by rw [HD1.out, show ml - (i + 1) = 0 by have := HML.out; omega]; exact hown4)
          all_goals
            have HB24 : Hid (Below w2.heap.size w2 w4) := after_cut hgrow3 hown3 hgrow4
            have HOl4 : Hid (OwnM w4 w2.heap.size v4 (ml - 1) (leftL zs (rowS zs k (c + 1)) k)) := by
              show w4.ownsRow w2.heap.size 33 2 v4 (ml - 1) ((leftL zs (rowS zs k (c + 1)) k).map (Value.int .i64))
              rw [HR2.out, List.map_append, hD0.out, hD1.out, show ml - 1 = i + (ml - (i + 1)) by omega]
              exact hown4
            clear hown3 hgrow3 hnil3 hown4 hgrow4 hnil4
            have HOo4 : Hid (OwnM w4 W.heap.size uo2 (mo + 1) (rowL zs k (c + 1))) := HOo2.out.kept HB24.out
            have HB4 : Hid (Below W.heap.size W w4) := HB2.out.trans (HB24.out.mono hW2)
            have HAP4 : Hid (uo2.ownBlock = none ∨ v4.ownBlock ≠ uo2.ownBlock) := far_own HOo4.out (fun b hb => (World.ownsRow.lt HOo2.out b hb).2) HOl4.out
            have HP4 : Hid (posL zs (rowS zs k (c + 1)) k = ml - 1) := by have := HR3.out; show _ = _; omega
            obtain ⟨va, vc, hv, _, _, hM⟩ := HOl4.out.mine
            subst hv
            have HLL4 : Hid ((leftL zs (rowS zs k (c + 1)) k).length = (ml - 1) * 2) := HOl4.out.len
            have HMI : Hid (Ints w4 va (leftL zs (rowS zs k (c + 1)) k)) := hM.ints
            clear hM N0 N1 O0 O1 E0 E1 HLC2 HR1 HR2 HR3 hRl HOo2 HB2
            go_wp2_with fail
            refine (spec_free _ _ _ (leftL zs (rowS zs k (c + 1)) k) _ HLL4 (by omega) HMI).mono ?_
            rintro e w5 ⟨r5, rfl, hr5, hB5⟩
            have HFR5 : Hid (FreeR (leftL zs (rowS zs k (c + 1)) k) (ml - 1) r5) := hr5
            have HOl5 : Hid (OwnM w5 W.heap.size (.slice va (ml - 1) vc) (ml - 1) (leftL zs (rowS zs k (c + 1)) k)) := (HOl4.out.low hW2).kept hB5
            have HOo5 : Hid (OwnM w5 W.heap.size uo2 (mo + 1) (rowL zs k (c + 1))) := HOo4.out.kept hB5
            have HB5 : Hid (Below W.heap.size W w5) := HB4.out.trans (hB5.mono HB4.out.size)
            clear hr5 hB5 HMI HOl4 HOo4 HB4
            go_wp2
            go_roundg (gk - 1)
            case measure => omega
            case rel => exact ⟨c + 1, ml - 1, mo + 1, _, _, r5, by omega, HWC', rfl, rfl, rfl, HP4, by omega, by omega, HOl5, HOo5, HAP4, HFR5, HB5⟩
      · have hr : r = -1 := by
          rcases HFR.out with ⟨j, hj, _, q1, _⟩ | ⟨q, _⟩
          · have z := left_none hG.out HRI.out hff j (by rw [HP.out]; exact hj)
            rw [HP.out] at z
            exact absurd q1 z
          · exact q
        subst hr
        go_wp2_with fail
        go_meet
        exact ⟨c, ml, mo, _, _, hc10, rfl, rfl, hff, HP, hml, hmo, HOl, HOo, HB⟩
  clear HB1 HO1 HFR HW0 HR0 HP HS hs0
  obtain ⟨c, ml, mo, ul, uo, hc10, rfl, rfl, HFF, HP, hml, hmo, HOl, HOo, HB⟩ := hcut
  have hff := HFF.out
  have HRI : Hid (RowI zs k (rowS zs k c)) := row_inv hG.out c
  obtain ⟨e1, e2⟩ := row_fin hc10 hff
  have hWs := HB.out.size
  obtain ⟨s, hs⟩ : ∃ s, Hid (rowS zs k 10 = s) := ⟨_, rfl⟩
  rw [hs.out] at e1
  have HLG : Hid (GoodM (leftL zs s k) ml) := by
    have := left_good (s := s) hG.out
    rw [e1, HP.out] at this
    show GoodM _ _
    rw [e1]; exact this
  have HRG : Hid (ringsTo (intM (leftL zs s k) ml) 10 = ringsTo s 10) := by
    have := left_rings hG.out HRI.out
    rw [HP.out, ← e1] at this
    exact this
  have HLD : Hid (laidL zs k = layN (rowL zs k c) (ringZ s) (ringsTo s 10).length) := by
    show laidL zs k = _
    unfold laidL
    rw [hs.out, e2]
  rw [← e1] at HOl
  obtain ⟨va, vc, hv, _, _, hM⟩ := HOl.out.mine
  subst hv
  have HLL : Hid ((leftL zs s k).length = ml * 2) := HOl.out.len
  have HMI : Hid (Ints wc va (leftL zs s k)) := hM.ints
  clear hM e1 e2 HRI HFF HP hff HOl
  go_wp2_with fail
  refine (spec_rings _ _ _ (leftL zs s k) _ HLL (by omega) HLG HMI).mono ?_
  rintro e w1 ⟨vr, X, rfl, hOL, hB⟩
  have HZ : Hid (ringZ (intM (leftL zs s k) ml) = ringZ s) := by
    show ringZ _ = ringZ s
    unfold ringZ
    rw [HRG.out]
  rw [HZ.out, HRG.out] at hOL
  obtain ⟨n, hn⟩ : ∃ n, Hid ((ringsTo s 10).length = n) := ⟨_, rfl⟩
  have HZA : Hid (∀ q, q < n → 1 ≤ (ringZ s q).length ∧ (ringZ s q).length ≤ 10) := fun q hq => ring_at_all (by rw [hn.out]; exact hq)
  have hn10 : n ≤ 10 := by rw [← hn.out]; exact rings_len s 10
  rw [hn.out] at hOL HLD
  obtain ⟨Z, hZ⟩ : ∃ Z, Hid (ringZ s = Z) := ⟨_, rfl⟩
  rw [hZ.out] at hOL HLD HZA
  have HOL1 : Hid (OwnL w1 wc.heap.size vr n Z X) := hOL
  have HOo1 : Hid (OwnM w1 W.heap.size uo mo (rowL zs k c)) := HOo.out.kept hB
  have HB1 : Hid (Below W.heap.size W w1) := HB.out.trans (hB.mono hWs)
  obtain ⟨ra, rc, hvr, _⟩ := hOL.mine
  subst hvr
  obtain ⟨L0, hL0⟩ : ∃ L0, Hid (rowL zs k c = L0) := ⟨_, rfl⟩
  rw [hL0.out] at HOo1 HLD
  have hnI : (n : Int) ≤ 10 := by omega
  obtain ⟨B0, hB0⟩ : ∃ B0, Hid (wc.heap.size = B0) := ⟨_, rfl⟩
  rw [hB0.out] at HOL1
  clear hOL hB HOo HB HLG HMI HLL HRG HZ hZ hWs hB0
  go_wp2
  go_loopw [4, 54] (fun vo vi wr => ∃ (q mo2 : Nat) (uo2 : Value), q ≤ n ∧ vi = .int .i64 q ∧ uo2 = vo ∧ mo2 ≤ 10 + 11 * q ∧ Hid (OwnM wr W.heap.size uo2 mo2 (layN L0 Z q)) ∧ Hid (OwnL wr B0 (.slice ra n rc) n Z X) ∧ Hid (Below W.heap.size W wr)) (fun _ vi _ => 20 - (intOf vi).toNat)
  case atStart => exact ⟨0, mo, _, Nat.zero_le _, rfl, rfl, by omega, HOo1, HOL1, HB1⟩
  case round =>
    obtain ⟨q, mo2, uo2, hq, rfl, rfl, hmo2, HO2, HL2, HB2⟩ := hrel
    obtain ⟨wo, hwo⟩ : ∃ wo, wo = wr := ⟨_, rfl⟩
    subst hwo
    have hWs2 := HB2.out.size
    clear HOo1 HOL1 HB1
    by_cases hlt : q < n
    · obtain ⟨hr1, hr10⟩ := HZA.out q hlt
      obtain ⟨xa, xc, hXX, _⟩ := (HL2.out.own q hlt).mine
      have hX : Hid (X q = .slice xa (Z q).length xc) := hXX
      clear hXX
      obtain ⟨gr, hra⟩ : ∃ gr, ra = some ⟨gr, 0, none⟩ := by
        rcases HL2.out.row.2 with ⟨e, _⟩ | ⟨g', cap', cur, e, _⟩
        · simp only [Value.slice.injEq] at e; omega
        · simp only [Value.slice.injEq] at e; exact ⟨g', e.1⟩
      subst hra
      have hcq : wo.cell? ⟨gr, q, none⟩ = some (.slice xa (Z q).length xc) := by
        have := World.ownsRow.cellAt HL2.out.row q (by omega)
        rw [this, ← hX.out]
        simp [hlt]
      obtain ⟨R, hR⟩ : ∃ R, Hid (Z q = R) := ⟨_, rfl⟩
      have HIN : Hid (∀ w, OwnL w B0 (.slice (some ⟨gr, 0, none⟩) n rc) n Z X → Ints w xa R) := by
        show ∀ w, OwnL w B0 (.slice (some ⟨gr, 0, none⟩) n rc) n Z X → Ints w xa R
        intro w hw
        obtain ⟨xa', xc', hX', hM'⟩ := (hw.own q hlt).mine
        rw [hX.out] at hX'
        simp only [Value.slice.injEq] at hX'
        rw [hX'.1, ← hR.out]; exact hM'.ints
      rw [hR.out] at hr1 hr10 hcq
      obtain ⟨rl, hrl⟩ : ∃ rl, Hid (R.length = rl) := ⟨_, rfl⟩
      rw [hrl.out] at hr1 hr10 hcq
      obtain ⟨b0, o0, hxa, c0⟩ := (HIN.out _ HL2.out).at (Below.refl _ _) (k := 0) (by rw [hrl.out]; omega)
      subst hxa
      obtain ⟨y0, hy0⟩ : ∃ y0, Hid (R.getD 0 0 = y0) := ⟨_, rfl⟩
      rw [hy0.out, Nat.add_zero] at c0
      have hrlI : (1 : Int) ≤ (rl : Int) := by omega
      have hrlJ : (rl : Int) ≤ 10 := by omega
      obtain ⟨LQ, hLQ⟩ : ∃ LQ, Hid (layN L0 Z q = LQ) := ⟨_, rfl⟩
      rw [hLQ.out] at HO2
      have HT0 : Hid (layTo R 0 = [y0, 10]) := by show [R.getD 0 0, 10] = _; rw [hy0.out]
      have HC0 : Hid (layC R 0 = y0) := hy0.out
      go_wp2_with (first
        | (at_builtin; refine wpList_append_own_at _ rfl _ _ 26 rfl W.heap.size 33 i0 (.agg #[.int .i64 0, .int .i64 0]) 2 16 Try.underlying26 hi hz0 hz1 hz2 rfl (by decide) _ mo2 (LQ.map (Value.int .i64)) rfl (World.ownsRow.alloc HO2.out _) ⟨wo.heap.size, 0, none⟩ 1 1 [.int .i64 y0, .int .i64 10] rfl rfl ?d1 (two_of _ _) ?d3 ?d4 ?d5 ?_)
        | fail)
      case d1 => exact new_two _ _ _ _
      case d3 => unfold maxLen; omega
      case d4 => omega
      case d5 => simp; omega
      intro uo3 w2 hown' hgrow _ _
      obtain ⟨o1, o2, o3⟩ := OwnM.snoc HO2.out (B' := W.heap.size) (Nat.le_refl _) hWs2 HB2.out hown' hgrow
      have HO3 : Hid (OwnM w2 W.heap.size uo3 (mo2 + 1) (LQ ++ layTo R 0)) := by rw [HT0.out]; exact o1
      have HB3 : Hid (Below W.heap.size W w2) := o2
      have HL3 : Hid (OwnL w2 B0 (.slice (some ⟨gr, 0, none⟩) n rc) n Z X) := ownL_keepM HL2.out HO2.out hgrow
      obtain ⟨b0', o0', hxa', c0'⟩ := (HIN.out _ HL3.out).at (Below.refl _ _) (k := 0) (by rw [hrl.out]; omega)
      obtain ⟨rfl, rfl⟩ : b0 = b0' ∧ o0 = o0' := by simpa using hxa'
      rw [hy0.out, Nat.add_zero] at c0'
      clear hown' hgrow o1 o2 HO2 HB2 HL2 c0 hcq
      go_wp2
      go_loopg [4, 10, 11] 12 (fun gk vo vt vi wr => ∃ (p : Nat) (uo4 : Value), p + gk = 12 ∧ p ≤ rl - 1 ∧ uo4 = vo ∧ vt = .int .i64 (layC R p) ∧ vi = .int .i64 ((rl : Int) - 1 - (p : Int)) ∧ Hid (OwnM wr W.heap.size uo4 (mo2 + 1 + p) (LQ ++ layTo R p)) ∧ Hid (OwnL wr B0 (.slice (some ⟨gr, 0, none⟩) n rc) n Z X) ∧ Hid (Below W.heap.size W wr))
      case atStart => exact ⟨0, _, by omega, by omega, rfl, by rw [HC0.out], by simp, HO3, HL3, HB3⟩
      case round =>
        obtain ⟨p, uo4, hp, hp1, rfl, rfl, rfl, HO4, HL4, HB4⟩ := hrel
        have hWs4 := HB4.out.size
        clear HO3 HL3 HB3 c0'
        by_cases hpl : p < rl - 1
        · obtain ⟨j, hj⟩ : ∃ j : Nat, Hid (rl - 1 - p = j) := ⟨_, rfl⟩
          have hjj := hj.out
          have hjI : (rl : Int) - 1 - (p : Int) = (j : Int) := by omega
          rw [hjI]
          obtain ⟨b1, o1', hxa1, c1⟩ := (HIN.out _ HL4.out).at (Below.refl _ _) (k := j) (by rw [hrl.out]; omega)
          obtain ⟨rfl, rfl⟩ : b0 = b1 ∧ o0 = o1' := by simpa using hxa1
          obtain ⟨y, hy⟩ : ∃ y, Hid (R.getD j 0 = y) := ⟨_, rfl⟩
          rw [hy.out] at c1
          obtain ⟨tt, htt⟩ : ∃ tt, Hid (layC R p = tt) := ⟨_, rfl⟩
          rw [htt.out]
          have HT1 : Hid (layTo R (p + 1) = layTo R p ++ [y, tt]) := by
            show layTo R p ++ [R.getD (R.length - 1 - p) 0, layC R p] = _
            rw [hrl.out, hj.out, hy.out, htt.out]
          have HC1 : Hid (layC R (p + 1) = y) := by
            show R.getD (R.length - 1 - p) 0 = y
            rw [hrl.out, hj.out]; exact hy.out
          have HI1 : Hid ((j : Int) - 1 = (rl : Int) - 1 - ((p + 1 : Nat) : Int)) := by show _ = _; omega
          have hj0 : (0 : Int) < (j : Int) := by omega
          have hj0n : 0 < j := by omega
          have hjrn : j < rl := by omega
          have hj0d : decide ((0 : Int) < (j : Int)) = true := decide_eq_true hj0
          have hjr : (j : Int) < (rl : Int) := by omega
          obtain ⟨LP, hLP⟩ : ∃ LP, Hid (LQ ++ layTo R p = LP) := ⟨_, rfl⟩
          rw [hLP.out] at HO4
          have hwo4 : b0 < wr.heap.size := by
            rcases (HIN.out _ HL4.out) with e | ⟨b2, o2, e, hlt2, _⟩
            · have := hrl.out; rw [e] at this; simp at this; omega
            · simp only [Option.some.injEq, Addr.mk.injEq] at e; omega
          clear hjj hjI
          go_wp2_with (first
            | (at_builtin; refine wpList_append_own_at _ rfl _ _ 26 rfl W.heap.size 33 i0 (.agg #[.int .i64 0, .int .i64 0]) 2 16 Try.underlying26 hi hz0 hz1 hz2 rfl (by decide) _ (mo2 + 1 + p) (LP.map (Value.int .i64)) rfl (World.ownsRow.alloc HO4.out _) ⟨wr.heap.size, 0, none⟩ 1 1 [.int .i64 y, .int .i64 tt] rfl rfl ?e1 (two_of _ _) ?e3 ?e4 ?e5 ?_)
            | fail)
          case e3 => unfold maxLen; omega
          case e4 => omega
          case e5 => first | (simp; omega) | omega | exact hWs4 | exact Nat.le_trans hWs4 (by simp)
          intro uo5 w5 hown' hgrow _ _
          obtain ⟨q1, q2, q3⟩ := OwnM.snoc HO4.out (B' := W.heap.size) (Nat.le_refl _) hWs4 HB4.out hown' hgrow
          have HO5 : Hid (OwnM w5 W.heap.size uo5 (mo2 + 1 + p + 1) (LQ ++ layTo R (p + 1))) := by rw [HT1.out, ← List.append_assoc, hLP.out]; exact q1
          have HB5 : Hid (Below W.heap.size W w5) := q2
          have HL5 : Hid (OwnL w5 B0 (.slice (some ⟨gr, 0, none⟩) n rc) n Z X) := ownL_keepM HL4.out HO4.out hgrow
          obtain ⟨b2, o2', hxa2, c2⟩ := (HIN.out _ HL5.out).at (Below.refl _ _) (k := j) (by rw [hrl.out]; omega)
          obtain ⟨rfl, rfl⟩ : b0 = b2 ∧ o0 = o2' := by simpa using hxa2
          rw [hy.out] at c2
          clear hown' hgrow q1 q2 c1 HO4 HL4 HB4
          go_wp2
          go_roundg (gk - 1)
          case measure => omega
          case rel => exact ⟨p + 1, _, by omega, by omega, rfl, by rw [HC1.out], by rw [HI1.out], HO5, HL5, HB5⟩
        · have HPE : Hid (p = rl - 1) := by show p = rl - 1; omega
          have hii : (rl : Int) - 1 - (p : Int) = 0 := by omega
          rw [hii]
          obtain ⟨tt, htt⟩ : ∃ tt, Hid (layC R p = tt) := ⟨_, rfl⟩
          rw [htt.out]
          have HLR : Hid (layN L0 Z (q + 1) = (LQ ++ layTo R p) ++ [10, tt]) := by
            show layN L0 Z q ++ layR (Z q) = _
            rw [hLQ.out, hR.out]
            unfold layR
            rw [hrl.out, ← HPE.out, htt.out, List.append_assoc]
          obtain ⟨LP, hLP⟩ : ∃ LP, Hid (LQ ++ layTo R p = LP) := ⟨_, rfl⟩
          rw [hLP.out] at HO4 HLR
          clear hii
          go_wp2_with (first
            | (at_builtin; refine wpList_append_own_at _ rfl _ _ 26 rfl W.heap.size 33 i0 (.agg #[.int .i64 0, .int .i64 0]) 2 16 Try.underlying26 hi hz0 hz1 hz2 rfl (by decide) _ (mo2 + 1 + p) (LP.map (Value.int .i64)) rfl (World.ownsRow.alloc HO4.out _) ⟨wr.heap.size, 0, none⟩ 1 1 [.int .i64 10, .int .i64 tt] rfl rfl ?f1 (two_of _ _) ?f3 ?f4 ?f5 ?_)
            | fail)
          case f1 => exact new_two _ _ _ _
          case f3 => unfold maxLen; omega
          case f4 => omega
          case f5 => simp; omega
          intro uo5 w5 hown' hgrow _ _
          obtain ⟨q1, q2, q3⟩ := OwnM.snoc HO4.out (B' := W.heap.size) (Nat.le_refl _) hWs4 HB4.out hown' hgrow
          have HO5 : Hid (OwnM w5 W.heap.size uo5 (mo2 + 1 + p + 1) (layN L0 Z (q + 1))) := by rw [HLR.out]; exact q1
          have HB5 : Hid (Below W.heap.size W w5) := q2
          have HL5 : Hid (OwnL w5 B0 (.slice (some ⟨gr, 0, none⟩) n rc) n Z X) := ownL_keepM HL4.out HO4.out hgrow
          clear hown' hgrow q1 q2 HO4 HL4 HB4
          go_wp2
          go_roundw
          case rel => exact ⟨q + 1, _, _, by omega, by go_num, rfl, by omega, HO5, HL5, HB5⟩
          case measure => simp [intOf]; omega
    · have hqn : q = n := by omega
      have HA : Hid (LayAns (laidL zs k) W (.returned uo2) wo) := ⟨uo2, mo2, rfl, by rw [HLD.out, ← hqn]; exact HO2.out, HB2.out⟩
      go_wp2
      go_ret
      exact HA.out
end Go.Proofs.Ythjcgnldlhjjmab.walks
