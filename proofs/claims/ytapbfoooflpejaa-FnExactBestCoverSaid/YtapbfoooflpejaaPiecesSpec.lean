/-
  What the specification's l9Pieces answers: it puts the pieces of a place behind others.
-/
import Derived.Test.YtapbfoooflpejaaProg
import Derived.Test.YtapbfoooflpejaaPiecesMath
import Derived.Test.YtapbfoooflpejaaCoverSpec
import Derived.OwnWalk
import Derived.Maps.AppendAt
namespace Go.Proofs.Ytapbfoooflpejaa.walks
open Go.RowKit Go.Proofs.Ytapbfoooflpejaa.math Go.Proofs.Ytapbfoooflpejaa.ints
set_option linter.unusedVariables false
set_option maxRecDepth 100000

theorem piece_info9 : ∃ i, Try.prog.info? 67 = some i ∧ i.zero = some (.agg #[.int .i64 0, .int .i64 0]) ∧ i.size = 2 ∧ i.bytes = 16 := by
  have h : (Try.prog.info? 67).map (fun i => (i.zero, i.size, i.bytes)) = some (some (.agg #[.int .i64 0, .int .i64 0]), 2, 16) := by kernel_rfl
  cases hi : Try.prog.info? 67 with
  | none => rw [hi] at h; cases h
  | some i =>
    rw [hi] at h
    simp at h
    exact ⟨i, rfl, h.1, h.2.1, h.2.2⟩
/-- A list of pieces that a call has made itself. -/
def OwnQ (w : World) (B : Nat) (v : Value) (ps : List (Nat × Nat)) : Prop := w.ownsRow B 67 2 v ps.length (pcV ps)
theorem two_news (w : World) (x y : Value) (t : TypeId) : ∀ (j : Nat) (u : Value), [x, y][j]? = some u → (w.alloc (.cells #[x, y] t)).cell? ((⟨w.heap.size, 0, none⟩ : Addr).add j) = some u := by
  intro j u hj
  match j, hj with
  | 0, hj => simp at hj; subst hj; simp [Addr.add]
  | 1, hj => simp at hj; subst hj; simp [Addr.add]
  | j + 2, hj => simp at hj
theorem rows_apart {w : World} {B B' m m' size size' : Nat} {ty ty' : TypeId} {v v' : Value} {L L' : List Value} (h : w.ownsRow B ty size v m L) (h' : w.ownsRow B' ty' size' v' m' L') (hne : ty ≠ ty') : v'.ownBlock = none ∨ v'.ownBlock ≠ v.ownBlock := by
  rcases h.2 with ⟨rfl, _⟩ | ⟨g, c, cur, rfl, _, hb, _⟩
  · cases q : v'.ownBlock with
    | none => exact Or.inl rfl
    | some x => exact Or.inr (by simp [Value.ownBlock])
  · rcases h'.2 with ⟨rfl, _⟩ | ⟨g', c', cur', rfl, _, hb', _⟩
    · exact Or.inl rfl
    · refine Or.inr fun e => ?_
      simp [Value.ownBlock] at e
      subst e
      rw [hb] at hb'
      simp at hb'
      exact hne hb'.2
/-- The choice as the specification's list tells it. -/
def ChI (bs : List Int) (ch : Nat → Option Nat) (len : Nat) : Prop := ∀ a, a < len → bs.getD a 0 = match ch a with
  | none => -1
  | some k => (k : Int)
/-- A tree, patterns and a choice in memory. -/
structure PcM (W : World) (ta : Option Addr) (t : List Int) (la : Option Addr) (n : Nat) (f : Nat → Pv) (ba : Option Addr) (bs : List Int) : Prop where
  tree : Ints W ta t
  pats : Pats W la n f
  best : Ints W ba bs
theorem PcM.kept {W W' : World} {ta : Option Addr} {t : List Int} {la : Option Addr} {n : Nat} {f : Nat → Pv} {ba : Option Addr} {bs : List Int} (h : PcM W ta t la n f ba bs) (hb : Below W.heap.size W W') : PcM W' ta t la n f ba bs := ⟨h.tree.kept hb, h.pats.kept hb, h.best.kept hb⟩
/-- Where a list that grows may lie. -/
def Same (W : World) (v v' : Value) : Prop := v'.ownBlock = v.ownBlock ∨ ∃ g, v'.ownBlock = some g ∧ W.heap.size ≤ g
theorem Same.refl (W : World) (v : Value) : Same W v v := Or.inl rfl
theorem grow_trans {W X Y : World} {v v' : Value} (h : W.grownBy X v.ownBlock) (hs : Same W v v') (k : X.grownBy Y v'.ownBlock) : W.grownBy Y v.ownBlock :=
  ⟨k.os.trans h.os, k.tape.trans h.tape, k.output.trans h.output, Nat.le_trans h.size k.size, fun b hb hne => by
    refine (k.block b (Nat.lt_of_lt_of_le hb h.size) ?_).trans (h.block b hb hne)
    rcases hs with e | ⟨g, e, hg⟩
    · rw [e]; exact hne
    · rw [e]
      intro q
      simp at q
      omega⟩
theorem Same.trans {W X : World} {v v' v'' : Value} (h : Same W v v') (hs : W.heap.size ≤ X.heap.size) (k : Same X v' v'') : Same W v v'' := by
  rcases k with e | ⟨g, e, hg⟩
  · rcases h with e2 | ⟨g, e2, hg⟩
    · exact Or.inl (e.trans e2)
    · exact Or.inr ⟨g, e.trans e2, hg⟩
  · exact Or.inr ⟨g, e, by omega⟩
theorem grow_below {W X : World} (h : Below W.heap.size W X) (v : Value) : W.grownBy X v.ownBlock := ⟨h.os, h.tape, h.output, h.size, fun b hb _ => h.block b hb⟩
/-- What a call of l9Pieces answers. -/
def PcsAns (o : Option (List (Nat × Nat))) (B : Nat) (v : Value) (ps0 : List (Nat × Nat)) (W0 W : World) (e : Ending) (W' : World) : Prop := Below B W0 W' ∧ ((o = none ∧ e = .returned (.tuple #[.slice none 0 0, .bool false])) ∨ ∃ ps v', o = some ps ∧ e = .returned (.tuple #[v', .bool true]) ∧ OwnQ W' B v' (ps0 ++ ps) ∧ W.grownBy W' v.ownBlock ∧ Same W v v')
set_option maxHeartbeats 4000000 in
theorem spec_pieces (ta : Option Addr) (tl tc : Nat) (t : List Int) (la : Option Addr) (n lc : Nat) (f : Nat → Pv) (ba : Option Addr) (bc : Nat) (bs : List Int) (ch : Nat → Option Nat) (B : Nat) (W0 : World) (hz : Hid (t.length = tl)) (ht40 : tl ≤ 40) (hw : Hid (wholeB false t = true)) (hn : n ≤ 12) (hg : Hid (GoodPs f n)) (hc : Hid (ChB ch n)) (hfit : Hid (∀ a k, a < tl → ch a = some k → ∃ hs, fitL t (f k).zs a = some hs)) (hbs : Hid (bs.length = tl)) (hci : Hid (ChI bs ch tl)) (h0 : Hid (PcM W0 ta t la n f ba bs)) (hB0 : W0.heap.size = B) :
    ∀ (N a : Nat) (v : Value) (ps0 : List (Nat × Nat)) (W : World), szT false t a ≤ N → a < tl → ps0.length + szT false t a ≤ 100 → Hid (OwnQ W B v ps0) → B ≤ W.heap.size → Hid (Below B W0 W) →
    Calls Try.prog 23 #[.slice ta tl tc, .slice la n lc, .int .i64 (a : Int), .slice ba tl bc, v] W fun e W' => PcsAns (pcs t f ch [a]) B v ps0 W0 W e W' := by
  obtain ⟨i0, hi, hz0, hz1, hz2⟩ := piece_info9
  intro N
  induction N with
  | zero =>
    intro a v ps0 W hN ha
    have := (sz_le (whole_each hw.out (i := a) (by rw [hz.out]; exact ha)) (by rw [hz.out]; omega)).1
    omega
  | succ N ih =>
    intro a v ps0 W hN ha hps hO hBW hB
    have HM : Hid (PcM W ta t la n f ba bs) := h0.out.kept (by rw [hB0]; exact hB.out)
    have HOB : Hid (OpenB t [a]) := fun o ho => by simp at ho; subst ho; rw [hz.out]; exact ha
    obtain ⟨bb, bo, hba, hbc⟩ := HM.out.best.at (Below.refl _ _) (k := a) (by rw [hbs.out]; exact ha)
    subst hba
    have hav := hci.out a ha
    have haI : (a : Int) < (tl : Int) := by omega
    cases hch : ch a with
    | none =>
      rw [hch] at hav
      rw [hav] at hbc
      have HE : Hid (pcs t f ch [a] = none) := pcs_none hw.out hg.out hc.out HOB.out hch
      clear hav
      go_enter Try.func23, Try.ntmps23
      go_wp2
      go_ret2
      exact ⟨hB.out, Or.inl ⟨HE.out, rfl⟩⟩
    | some k =>
      rw [hch] at hav
      rw [hav] at hbc
      have hbc2 : W.cell? ⟨bb, bo + a, none⟩ = some (.int .i64 (k : Int)) := hbc
      have hkn := hc.out a k hch
      obtain ⟨hs, hf⟩ := hfit.out a k ha hch
      have hk0 : (0 : Int) ≤ (k : Int) := by omega
      clear hav hbc
      go_enter Try.func23, Try.ntmps23
      go_wp2_with (first
        | (at_builtin; refine wpList_append_own_at _ rfl _ _ 25 rfl B 67 i0 (.agg #[.int .i64 0, .int .i64 0]) 2 16 Try.underlying25 hi hz0 hz1 hz2 rfl (by decide) _ ps0.length (pcV ps0) rfl (World.ownsRow.alloc hO.out _) ⟨W.heap.size, 0, none⟩ 1 1 [.int .i64 (a : Int), .int .i64 (k : Int)] rfl rfl (two_news _ _ _ _) ?e2 ?e3 ?e4 ?e5 ?_)
        | fail)
      case e2 =>
        first
          | (intro u hu; simp at hu; rcases hu with rfl | rfl <;> rfl)
          | exact ⟨rfl, rfl⟩
      case e3 => unfold maxLen; omega
      case e4 => omega
      case e5 => first | omega | (simp; omega)
      intro v1 w1 hown hgrow _ hsame
      have hs1 := hgrow.size
      simp only [World.size_alloc] at hs1 hsame
      have HG1 : Hid (W.grownBy w1 v.ownBlock) := ⟨hgrow.os, hgrow.tape, hgrow.output, by omega, fun b hb hne => (hgrow.block b (by simp; omega) hne).trans (Below.heap_alloc _ _ _ hb)⟩
      have HS1 : Hid (Same W v v1) := by
        rcases hsame with e | e
        · exact Or.inl e
        · exact Or.inr ⟨_, e, by omega⟩
      have HB1 : Hid (Below B W0 w1) := (hB.out.alloc hBW _).grown hgrow (by simp; omega) (fun j hj => (World.ownsRow.lt hO.out j hj).1)
      have HO1 : Hid (OwnQ w1 B v1 (ps0 ++ [(a, k)])) := by
        show World.ownsRow _ _ _ _ _ _ _
        rw [List.length_append, pcV_app, pcV_one]
        exact hown
      have HM1 : Hid (PcM w1 ta t la n f (some ⟨bb, bo, none⟩) bs) := h0.out.kept (by rw [hB0]; exact HB1.out)
      have hbc3 : w1.cell? ⟨bb, bo + a, none⟩ = some (.int .i64 (k : Int)) := by
        obtain ⟨bb', bo', e, q⟩ := HM1.out.best.at (Below.refl _ _) (k := a) (by rw [hbs.out]; exact ha)
        obtain ⟨rfl, rfl⟩ : bb = bb' ∧ bo = bo' := by simpa using e
        have q2 := hci.out a ha
        rw [hch] at q2
        rw [q2] at q
        exact q
      obtain ⟨b, off, ca, cc, hla, hbl, l0, l1, hI⟩ := pat_at HM1.out.pats (Below.refl _ _) hkn
      subst hla
      have HI : Hid (Ints w1 ca (f k).zs) := hI
      obtain ⟨gl, gz, gw, _, _⟩ := hg.out k hkn
      have hknI : (k : Int) < (n : Int) := by omega
      clear hown hgrow hsame hI hbc2 HM
      go_wp2_with fail
      refine (spec_fits _ _ _ a t _ _ _ _ (f k).zs _ hz ht40 rfl gl HM1.out.tree HI hw gw ha).mono ?_
      rintro e w2 ⟨hq, hB2⟩
      obtain ⟨hv, rfl, HH⟩ : ∃ hv, e = .returned (.tuple #[hv, .bool true]) ∧ Hid (ints.Own w2 w1.heap.size hv (asI hs)) := by
        rcases hq with ⟨h1, _⟩ | ⟨hs', hv, h1, rfl, ho⟩
        · rw [hf] at h1; cases h1
        · rw [hf] at h1
          cases h1
          exact ⟨hv, rfl, ho⟩
      have hs2 := hB2.size
      have HB2 : Hid (Below B W0 w2) := HB1.out.trans (hB2.mono (by omega))
      have HG2 : Hid (W.grownBy w2 v.ownBlock) := grow_trans HG1.out HS1.out (grow_below hB2 v1)
      have HO2 : Hid (OwnQ w2 B v1 (ps0 ++ [(a, k)])) := World.ownsRow.kept HO1.out (row := none) ⟨hB2.os, hB2.tape, hB2.output, hB2.size, fun i hi _ => hB2.block i hi⟩ (by
        cases q : v1.ownBlock with
        | none => exact Or.inl rfl
        | some g => exact Or.inr (by simp))
      have HPC : Hid (pcs t f ch [a] = (pcs t f ch (hs ++ [])).map fun ps => (a, k) :: ps) := pcs_some hw.out hg.out hc.out HOB.out hch hf
      have hless := fit_less hw.out gw (by rw [hz.out]; exact ha) gz hf
      have HIN : Hid (∀ x ∈ hs, x < tl) := fun x hx' => by
        have := fit_in hw.out gw (by rw [hz.out]; exact ha) hf x hx'
        rw [hz.out] at this
        omega
      obtain ⟨va, vc, rfl, _⟩ := ints.Own.mine HH.out
      rw [asI_len] at HH ⊢
      obtain ⟨nl, hnl⟩ : ∃ nl, Hid (hs.length = nl) := ⟨_, rfl⟩
      rw [hnl.out] at HH ⊢
      have hnl10 : nl ≤ 10 := by have := fit_lenS hf; rw [hnl.out] at this; omega
      clear hq hB2 HB1 HO1 HM1 hbc3 l0 l1
      go_wp2_with fail
      go_loopw [4, 47] (fun vo vi wr => ∃ (j : Nat) (vj : Value) (pj : List (Nat × Nat)), j ≤ nl ∧ vi = .int .i64 (j : Int) ∧ vo = vj ∧ Hid (pcs t f ch [a] = (pcs t f ch (hs.drop j)).map fun qs => (a, k) :: (pj ++ qs)) ∧ Hid (OwnQ wr B vj (ps0 ++ (a, k) :: pj)) ∧ pj.length + szS t (hs.drop j) ≤ szS t hs ∧ Hid (ints.Own wr w1.heap.size (.slice va nl vc) (asI hs)) ∧ Hid (Below B W0 wr) ∧ Hid (W.grownBy wr v.ownBlock) ∧ Hid (Same W v vj) ∧ w2.heap.size ≤ wr.heap.size) (fun _ vi _ => nl - (intOf vi).toNat)
      case atStart => exact ⟨0, v1, [], Nat.zero_le _, rfl, rfl, by show _ = _; rw [HPC.out, List.append_nil, List.drop_zero]; rfl, HO2, by simp, HH, HB2, HG2, HS1, Nat.le_refl _⟩
      case round =>
        obtain ⟨j, vj, pj, hj, rfl, hvj, HPJ, HOJ, hpj, HHJ, HBJ, HGJ, HSJ, hwr⟩ := hrel
        have hvj := hvj.symm
        subst hvj
        by_cases hlt : j < nl
        · obtain ⟨x, hxx⟩ : ∃ x, Hid (hs.getD j 0 = x) := ⟨_, rfl⟩
          have hjl : j < hs.length := by rw [hnl.out]; exact hlt
          have HD : Hid (hs.drop j = x :: hs.drop (j + 1)) := by
            show _ = _
            rw [List.drop_eq_getElem_cons hjl, ← hxx.out]
            simp [List.getD, List.getElem?_eq_getElem hjl]
          have hxl : x < tl := HIN.out x (by rw [← hxx.out]; simp [List.getD, List.getElem?_eq_getElem hjl])
          have HOX : Hid (OpenB t [x]) := fun o ho => by simp at ho; subst ho; rw [hz.out]; exact hxl
          have HOD : Hid (OpenB t (hs.drop (j + 1))) := fun o ho => by rw [hz.out]; exact HIN.out o (List.mem_of_mem_drop ho)
          have hsd : szS t (hs.drop j) = szT false t x + szS t (hs.drop (j + 1)) := by rw [HD.out, szS_cons]
          have HAP : Hid (pcs t f ch (hs.drop j) = (pcs t f ch [x]).bind fun ps => (pcs t f ch (hs.drop (j + 1))).map (ps ++ ·)) := by
            show _ = _
            rw [HD.out, show x :: hs.drop (j + 1) = [x] ++ hs.drop (j + 1) from rfl]
            exact pcs_app hw.out hg.out hc.out _ [x] _ (Nat.le_refl _) HOX.out HOD.out
          obtain ⟨va', vc', e, hMn⟩ := ints.Own.mine HHJ.out
          simp only [Value.slice.injEq] at e
          obtain ⟨rfl, e2, e3⟩ := e
          clear e2 e3
          obtain ⟨vb, vo, hva, hvc⟩ := hMn.ints.at (Below.refl _ _) (k := j) (by rw [asI_len, hnl.out]; exact hlt)
          subst hva
          have e1 : (asI hs).getD j 0 = (x : Int) := by
            rw [← hxx.out]
            simp [asI, List.getD, List.getElem?_eq_getElem hjl]
          rw [e1] at hvc
          have hltI : (j : Int) < (nl : Int) := by omega
          have HCH : Hid _ := ih x vj (ps0 ++ (a, k) :: pj) wr (by omega) hxl (by simp; omega) HOJ (by omega) HBJ
          clear e1 hjl hMn
          go_wp2_with fail
          refine Calls.mono HCH.out ?_
          rintro e w3 ⟨hB3, hq⟩
          have HB3 : Hid (Below B W0 w3) := hB3
          clear hB3
          rcases hq with ⟨h1, rfl⟩ | ⟨ps, v3, h1, rfl, h2, h3, h4⟩
          · have HE : Hid (pcs t f ch [a] = none) := by show _ = _; rw [HPJ.out, HAP.out, h1]; rfl
            clear h1
            go_wp2
            go_ret2
            exact ⟨HB3.out, Or.inl ⟨HE.out, rfl⟩⟩
          · have HP3 : Hid (pcs t f ch [a] = (pcs t f ch (hs.drop (j + 1))).map fun qs => (a, k) :: ((pj ++ ps) ++ qs)) := by
              show _ = _
              rw [HPJ.out, HAP.out, h1]
              simp only [Option.bind_some, Option.map_map]
              congr 1
              funext qs
              simp
            have HO3 : Hid (OwnQ w3 B v3 (ps0 ++ (a, k) :: (pj ++ ps))) := by
              have e : ps0 ++ (a, k) :: (pj ++ ps) = (ps0 ++ (a, k) :: pj) ++ ps := by simp
              rw [e]
              exact h2
            have hpl : ps.length ≤ szT false t x := by
              have := pcs_len h1
              rw [szS_cons, szS_nil] at this
              omega
            have HH3 : Hid (ints.Own w3 w1.heap.size (.slice (some ⟨vb, vo, none⟩) nl vc) (asI hs)) := World.ownsRow.kept HHJ.out h3 (rows_apart HOJ.out HHJ.out (by decide))
            have HG3 : Hid (W.grownBy w3 v.ownBlock) := grow_trans HGJ.out HSJ.out h3
            have HS3 : Hid (Same W v v3) := HSJ.out.trans HGJ.out.size h4
            have hs3 := h3.size
            clear h1 h2 h3 h4
            go_wp2
            go_roundw
            case rel => exact ⟨j + 1, v3, pj ++ ps, by omega, by go_num, rfl, HP3, HO3, by rw [List.length_append]; omega, HH3, HB3, HG3, HS3, by omega⟩
            case measure => simp [intOf]; omega
        · have HE : Hid (pcs t f ch [a] = some ((a, k) :: pj)) := by
            show _ = _
            rw [HPJ.out, List.drop_eq_nil_of_le (by rw [hnl.out]; omega), pcs_nil]
            simp
          go_wp2
          go_ret2
          exact ⟨HBJ.out, Or.inr ⟨_, vj, HE.out, rfl, HOJ.out, HGJ.out, HSJ.out⟩⟩
end Go.Proofs.Ytapbfoooflpejaa.walks
