/-
  What the program's cover answers by the patterns with the least costs.
-/
import Derived.Test.YtapbfoooflpejaaProg
import Derived.Test.YtapbfoooflpejaaCoverImpl
import Derived.Test.YtapbfoooflpejaaPiecesSpec
import Derived.Test.YtapbfoooflpejaaGreatestImpl
import Derived.Test.YtapbfoooflpejaaCoverBy
import Derived.WalkKit
import Derived.WalkSpells
import Derived.Below
import Derived.Handy
import Derived.OwnWalk
import Derived.Maps.AppendAt
import Derived.Laws.EntriesVeiled
import Derived.Deep.RegionHeld3
namespace Go.Proofs.Ytapbfoooflpejaa.walks
open Go.RowKit Go.Proofs.Ytapbfoooflpejaa.math Go.Proofs.Ytapbfoooflpejaa.ints
set_option linter.unusedVariables false
set_option maxRecDepth 100000

set_option maxHeartbeats 4000000 in
theorem impl_coverbest (lb : Nat) (t : List Int) (tl tb to tc sb : Nat) (gv : Option Addr) (n gc : Nat) (f : Nat → Pv) (G : Nat → Nat) (ch : Nat → Option Nat) (W : World) (hz : Hid (t.length = tl)) (ht : Hid (TreeIn W t tb to tc sb 0 t.length)) (hT : Hid (TilesM W gv n f G)) (hngc : n ≤ gc) (hgcm : gc ≤ maxLen) (hg : Hid (GoodPs f n)) (hn : n ≤ 12) (hcb : Hid (ChB ch n)) (hfit : Hid (∀ a k, ch a = some k → ∃ hs, fitL t (f k).zs a = some hs))
    (hch : Hid (∀ (a : Nat) (w : World), a < tl → Below W.heap.size W w → Calls Try.prog 28 #[.int .i64 (a : Int), .pointer (some ⟨lb, 0, none⟩)] w fun e W' => ChAns (ch a) w e W')) :
    Calls Try.prog 27 #[.agg #[.slice (some ⟨tb, to, none⟩) tl tc, .slice (some ⟨sb, 0, none⟩) tl tl, .slice gv n gc], .func (.func 28) #[] #[.pointer (some ⟨lb, 0, none⟩)]] W fun e W' => CovBy f (pcs t f ch [0]) W e W' := by
  go_enter Try.func27, Try.ntmps27
  go_wp2_with fail
  have hw := ht.out.whole
  have ht40 : tl ≤ 40 := by have := ht.out.le; have := hz.out; omega
  have ht1 : 0 < tl := by have := (whole_iff.1 hw).1; have := hz.out; omega
  have hsz0 : szT false t 0 = tl := by
    have e := (whole_iff.1 hw).2
    unfold szT
    rw [List.drop_zero, e, ← hz.out]
    rfl
  obtain ⟨X, hX⟩ : ∃ X, Hid ((W.alloc (.cells #[.slice (some ⟨tb, to, none⟩) tl tc, .slice (some ⟨sb, 0, none⟩) tl tl, .slice gv n gc] 56)).alloc (.cells #[.int .i64 0] 3) = X) := ⟨_, rfl⟩
  have HBX : Hid (Below W.heap.size W X) := by show Below _ _ _; rw [← hX.out]; repeat (first | exact Below.refl _ _ | refine Below.drew ?_ | refine Below.setCell ?_ (by simp; try omega) _ | refine Below.alloc ?_ (by simp; try omega) _)
  have hXs : X.heap.size = W.heap.size + 1 + 1 := by rw [← hX.out]; simp
  have HC : Hid (Bc X W.heap.size tb to tl tc sb gv n gc) := by
    show Bc _ _ _ _ _ _ _ _ _ _
    rw [← hX.out]
    exact ⟨by simp; omega, by go_simp, by go_simp, by go_simp⟩
  have HOX : Hid (ints.Own X (W.heap.size + 1) (.slice (some ⟨W.heap.size + 1, 0, none⟩) 1 1) (asI [0])) := by
    have q := World.ownsRow_lit (base := W.heap.size + 1) (e := 3) (size := 1) (W.alloc (.cells #[.slice (some ⟨tb, to, none⟩) tl tc, .slice (some ⟨sb, 0, none⟩) tl tl, .slice gv n gc] 56)) #[.int .i64 0] 1 (by simp) (by unfold maxLen; omega) rfl
    simp only [World.size_alloc] at q
    show ints.Own _ _ _ _
    rw [← hX.out]
    exact q
  rw [hX.out]
  clear hX
  obtain ⟨i0, hi, hz0, hz1, hz2⟩ := piece_parts
  go_loopw [7, 8, 9] (fun vp vc vo wr => ∃ (ps : List (Nat × Nat)) (i : Nat) (os : List Nat) (v : Value) (cst : Int) (oa : Option Addr) (m oc : Nat), Hid (ps.length = i) ∧ i ≤ 40 ∧ vp = v ∧ vc = .int .i64 cst ∧ vo = .slice oa m oc ∧ Hid (cst = costP f ps) ∧ 0 ≤ cst ∧ cst ≤ 100 * (i : Int) ∧ Hid (os.length = m) ∧ m ≤ 40 ∧ m ≤ oc ∧ oc ≤ 9223372036854775807 ∧ Hid (OpenB t os) ∧ Hid (i + szS t os ≤ tl) ∧ Hid (pcs t f ch [0] = (pcs t f ch os).map (ps ++ ·)) ∧ Hid (ints.Own wr (W.heap.size + 1) (.slice oa m oc) (asI os)) ∧ Hid (OwnQ wr (W.heap.size + 1) v ps) ∧ Hid (Bc wr W.heap.size tb to tl tc sb gv n gc) ∧ Hid (Below W.heap.size W wr) ∧ W.heap.size + 1 < wr.heap.size) (fun _ _ vo wr => szS t (readO vo wr))
  case atStart => exact ⟨[], 0, [0], _, 0, _, 1, 1, rfl, Nat.zero_le _, rfl, rfl, rfl, rfl, by omega, by omega, rfl, by omega, by omega, by omega, fun o ho => by simp at ho; subst ho; rw [hz.out]; exact ht1, by show 0 + szS t [0] ≤ tl; rw [szS_cons, szS_nil, hsz0]; omega, by show _ = _; cases pcs t f ch [0] <;> rfl, HOX, World.ownsRow_nil _ _ _ _, HC, HBX, by omega⟩
  case round =>
    obtain ⟨ps, i, os, v, cst, oa, m, oc, HPL, hil, hv, rfl, rfl, HCS, hc0, hc1, HM, hm40, hmo, hom, HOB, HSS, HGC, HO, HP, HBc, HBr, hwr⟩ := hrel
    have hv := hv.symm
    subst hv
    have hi20 : (i : Int) ≤ 1048576 := by omega
    rcases os with _ | ⟨a, os⟩
    · have hm0 : m = 0 := by have := HM.out; simp at this; exact this.symm
      have HE : Hid (pcs t f ch [0] = some ps) := by show _ = _; rw [HGC.out, pcs_nil]; simp
      subst hm0
      go_wp2
      go_ret3
      exact ⟨HBr.out, Or.inr ⟨ps, v, HE.out, by rw [← HCS.out]; rfl, HP.out⟩⟩
    · obtain ⟨m, rfl⟩ : ∃ k, m = k + 1 := ⟨m - 1, by have := HM.out; simp at this; omega⟩
      have hoc1 : 1 ≤ oc := by omega
      have hml : os.length = m := by have := HM.out; simp at this; exact this
      have hat : a < tl := by have := HOB.out a (by simp); have := hz.out; omega
      obtain ⟨ob, oo, hoa, HOC⟩ : ∃ ob oo, oa = some ⟨ob, oo, none⟩ ∧ Hid (W.heap.size + 1 ≤ ob ∧ ob < wr.heap.size ∧ ∀ j, j < (a :: os).length → wr.cell? ⟨ob, oo + j, none⟩ = some (.int .i64 ((a :: os).getD j 0 : Int))) := by
        obtain ⟨a', c', e, hMn⟩ := ints.Own.mine HO.out
        simp only [Value.slice.injEq] at e
        obtain ⟨rfl, _, _⟩ := e
        rcases hMn with hMn | ⟨b, off, e, h1, h2, h3⟩
        · simp [asI] at hMn
        · refine ⟨b, off, e, h1, h2, fun j hj => ?_⟩
          have q := (h3 j (by rw [asI_len]; exact hj)).1
          have e2 := asI_get (a :: os) j hj
          rw [e2] at q
          exact q
      subst hoa
      have ca := HOC.out.2.2 0 (by simp)
      rw [Nat.add_zero, List.getD_cons_zero] at ca
      have hmI : (0 : Int) < ((m + 1 : Nat) : Int) := by omega
      have HCH : Hid _ := hch.out a wr hat HBr.out
      go_wp2_with fail
      refine Calls.mono HCH.out ?_
      rintro e w1 ⟨⟨x, rfl, hx⟩, hB1⟩
      have HB1 : Hid (Below W.heap.size W w1) := HBr.out.trans (hB1.mono (by omega))
      have hs1 := hB1.size
      cases hk : ch a with
      | none =>
        have HE : Hid (pcs t f ch [0] = none) := by show _ = _; rw [HGC.out, pcs_none hw hg.out hcb.out HOB.out hk]; rfl
        clear hB1 hx HCH ca
        go_wp2
        go_ret3
        exact ⟨HB1.out, Or.inl ⟨HE.out, rfl⟩⟩
      | some k =>
      have hx := hx k hk
      subst hx
      have hkn := hcb.out a k hk
      obtain ⟨hs, hf⟩ := hfit.out a k hk
      have HBc1 : Hid (Bc w1 W.heap.size tb to tl tc sb gv n gc) := HBc.out.kept hB1
      have HO1 : Hid (ints.Own w1 (W.heap.size + 1) (.slice (some ⟨ob, oo, none⟩) (m + 1) oc) (asI (a :: os))) := World.ownsRow.kept HO.out (row := none) ⟨hB1.os, hB1.tape, hB1.output, hB1.size, fun i hi _ => hB1.block i hi⟩ (Or.inr (by simp [Value.ownBlock]))
      have HP1 : Hid (OwnQ w1 (W.heap.size + 1) v ps) := HP.out.kept9 hB1
      have HGN : Hid (pcs t f ch [0] = (pcs t f ch (hs ++ os)).map ((ps ++ [(a, k)]) ++ ·)) := by
        show _ = _
        rw [HGC.out, pcs_some hw hg.out hcb.out HOB.out hk hf]
        cases pcs t f ch (hs ++ os) <;> simp
      have HCT : Hid (costP f (ps ++ [(a, k)]) = cst + (f k).c) := by show _ = _; rw [costP_snoc, ← HCS.out]
      clear hB1 HCH ca
      obtain ⟨gl, gz, gw, gc0, gc1⟩ := hg.out k hkn
      obtain ⟨gb, hgv, hgb, hgc⟩ := (hT.out.kept HB1.out).row (by omega)
      subst hgv
      obtain ⟨t0, t1, t2⟩ := hgc k hkn
      obtain ⟨hGl, ka, kc, hbox, hIk⟩ := (hT.out.kept HB1.out).box k hkn
      have HTI : Hid (TreeIn w1 t tb to tc sb 0 t.length) := ht.out.kept HB1.out
      have HIK : Hid (Ints w1 ka (f k).zs) := hIk
      have HBOX : Hid (w1.cell? ⟨G k, 0, none⟩ = some (.slice ka (f k).zs.length kc)) := hbox
      have b0 := HBc1.out.2.1
      have b1 := HBc1.out.2.2.1
      have b2 := HBc1.out.2.2.2
      have hknI : (k : Int) < (n : Int) := by omega
      obtain ⟨nm, hnm⟩ : ∃ nm : Int, Hid ((namedTo (f k).zs (f k).zs.length : Int) = nm) := ⟨_, rfl⟩
      obtain ⟨ck, hck⟩ : ∃ ck : Int, Hid ((f k).c = ck) := ⟨_, rfl⟩
      rw [hnm.out] at t2
      rw [hck.out] at t1 gc0 gc1 HCT
      clear hgc hbox hIk
      have HTD : Hid (TreeIn w1.drew t tb to tc sb 0 tl) := by have := HTI.out.kept (Below.refl _ _).drew; rw [hz.out] at this; exact this
      have HID : Hid (Ints w1.drew ka (f k).zs) := HIK.out.kept (Below.refl _ _).drew
      have HBD : Hid (w1.drew.cell? ⟨G k, 0, none⟩ = some (.slice ka (f k).zs.length kc)) := HBOX.out
      have q1 := And.intro (And.intro b0 (And.intro b1 b2)) (And.intro t0 (And.intro t1 t2))
      have q2 : ((fun w' => (w'.cell? ⟨W.heap.size, 0, none⟩ = some (.slice (some ⟨tb, to, none⟩) tl tc) ∧ w'.cell? ⟨W.heap.size, 1, none⟩ = some (.slice (some ⟨sb, 0, none⟩) tl tl) ∧ w'.cell? ⟨W.heap.size, 2, none⟩ = some (.slice (some ⟨gb, 0, none⟩) n gc)) ∧ (w'.cell? ⟨gb, k * 3, none⟩ = some (.func (.func 54) #[] #[.pointer (some ⟨G k, 0, none⟩)]) ∧ w'.cell? ⟨gb, k * 3 + 1, none⟩ = some (.int .i64 ck) ∧ w'.cell? ⟨gb, k * 3 + 2, none⟩ = some (.int .i64 nm))) w1.drew : Prop) := q1
      have hgcI : (n : Int) ≤ (gc : Int) := by omega
      have hless := fit_less hw gw (by rw [hz.out]; exact hat) gz hf
      have hin := fit_in hw gw (by rw [hz.out]; exact hat) hf
      have hszn : szS t (hs ++ os) + 1 ≤ szS t (a :: os) := by rw [szS_app, szS_cons]; omega
      have HOBN : Hid (OpenB t (hs ++ os)) := fun o ho => by
        rcases List.mem_append.1 ho with ho | ho
        · exact (hin o ho).2.2
        · exact HOB.out o (by simp [ho])
      have HSN : Hid ((i + 1) + szS t (hs ++ os) ≤ tl) := by have := HSS.out; show _ ≤ _; omega
      have hi40 : i + 1 ≤ 40 := by have := HSN.out; omega
      have hln := open_len hw _ HOBN.out
      have hln40' : (hs ++ os).length ≤ 40 := by have := HSN.out; omega
      obtain ⟨ml, HML⟩ : ∃ ml, Hid ((hs ++ os).length = ml) := ⟨_, rfl⟩
      have hln40 : ml ≤ 40 := by rw [← HML.out]; exact hln40'
      have hh40 : hs.length ≤ 40 := by rw [List.length_append] at hln40'; omega
      clear hln40'
      have HLT : Hid (szS t (hs ++ os) < szS t (readO (.slice (some ⟨ob, oo, none⟩) (m + 1) oc) wr)) := by
        show _ < _
        rw [read_own HO.out HM.out]
        omega
      clear hless hin hszn hln
      go_wp2_with fail
      go_region_held3 (fun w' => (w'.cell? ⟨W.heap.size, 0, none⟩ = some (.slice (some ⟨tb, to, none⟩) tl tc) ∧ w'.cell? ⟨W.heap.size, 1, none⟩ = some (.slice (some ⟨sb, 0, none⟩) tl tl) ∧ w'.cell? ⟨W.heap.size, 2, none⟩ = some (.slice (some ⟨gb, 0, none⟩) n gc)) ∧ (w'.cell? ⟨gb, k * 3, none⟩ = some (.func (.func 54) #[] #[.pointer (some ⟨G k, 0, none⟩)]) ∧ w'.cell? ⟨gb, k * 3 + 1, none⟩ = some (.int .i64 ck) ∧ w'.cell? ⟨gb, k * 3 + 2, none⟩ = some (.int .i64 nm))) (first | assumption | exact q1 | exact q2 | exact q3 | go_keep) (first
        | (go_at_call 41; refine (holes_some hf tb to tc sb 0 tl tl (G k) ck nm ka (f k).zs.length kc _ HTD hz hat hGl HBD.out HID rfl gl gw).mono ?_; rintro e w2 ⟨ha, hcp, rfl, hMh, hB⟩; have q3 := And.intro (And.intro ((hB.cell (p := ⟨W.heap.size, 0, none⟩) (by show W.heap.size < w1.heap.size; omega)).trans b0) (And.intro ((hB.cell (p := ⟨W.heap.size, 1, none⟩) (by show W.heap.size < w1.heap.size; omega)).trans b1) ((hB.cell (p := ⟨W.heap.size, 2, none⟩) (by show W.heap.size < w1.heap.size; omega)).trans b2))) (And.intro ((hB.cell (p := ⟨gb, k * 3, none⟩) hgb).trans t0) (And.intro ((hB.cell (p := ⟨gb, k * 3 + 1, none⟩) hgb).trans t1) ((hB.cell (p := ⟨gb, k * 3 + 2, none⟩) hgb).trans t2))); have HB2 : Hid (Below W.heap.size W w2) := HB1.out.drew.trans (hB.mono (by show W.heap.size ≤ w1.heap.size; omega)); have hs2 : w1.heap.size ≤ w2.heap.size := hB.size; have HBB : Hid (Below w1.heap.size w1 w2) := (Below.refl _ _).drew.trans hB; have HMH : Hid (Mine w2 w1.heap.size ha (asI hs)) := hMh; clear hB hMh))
      have b2' := q3.1.2.2
      have t1' := q3.2.2.1
      have hL : World.ownsRow w1 (W.heap.size + 1) 67 2 v i (pcV ps) := by have := HP1.out; unfold OwnQ at this; rw [HPL.out] at this; exact this
      have hown1 : ∀ g, v.ownBlock = some g → W.heap.size + 1 ≤ g ∧ g < w1.heap.size := fun g hg => World.ownsRow.lt hL g hg
      have HL2 : Hid (w2.ownsRow (W.heap.size + 1) 67 2 v i (pcV ps)) := World.ownsRow.kept hL (row := none) ⟨HBB.out.os, HBB.out.tape, HBB.out.output, HBB.out.size, fun i hi _ => HBB.out.block i hi⟩ (by
        cases q : v.ownBlock with
        | none => exact Or.inl rfl
        | some g => exact Or.inr (by simp))
      have HO2 : Hid (w2.ownsRow (W.heap.size + 1) 3 1 (.slice (some ⟨ob, oo, none⟩) (m + 1) oc) (asI (a :: os)).length ((asI (a :: os)).map (Value.int .i64))) := World.ownsRow.kept HO1.out (row := none) ⟨HBB.out.os, HBB.out.tape, HBB.out.output, HBB.out.size, fun i hi _ => HBB.out.block i hi⟩ (Or.inr (by simp [Value.ownBlock]))
      have HBc2 : Hid (Bc w2 W.heap.size tb to tl tc sb (some ⟨gb, 0, none⟩) n gc) := HBc1.out.kept HBB.out
      clear q1 q2 q3 b0 b1 b2 t0 t1 t2 hL HTD HID HBD HTI HIK HBOX
      go_wp2_with (first
        | (at_builtin; refine wpList_append_own_at _ rfl _ _ 25 rfl (W.heap.size + 1) 67 i0 (.agg #[.int .i64 0, .int .i64 0]) 2 16 Try.underlying25 hi hz0 hz1 hz2 rfl (by decide) _ i (pcV ps) rfl (World.ownsRow.alloc HL2.out _) ⟨w2.heap.size, 0, none⟩ 1 1 [.int .i64 (a : Int), .int .i64 (k : Int)] rfl rfl (new_two9 _ _ _ _) ?g2 ?g3 ?g4 ?g5 ?_)
        | fail)
      case g2 =>
        first
          | (intro u hu; simp at hu; rcases hu with rfl | rfl <;> rfl)
          | exact ⟨rfl, rfl⟩
      case g3 => unfold maxLen; omega
      case g4 => omega
      case g5 => first | omega | (simp; omega)
      intro v3 w3 hown hgrow _ _
      have hs3 := hgrow.size
      simp only [World.size_alloc] at hs3
      have blk3 : ∀ b, b < w2.heap.size → some b ≠ v.ownBlock → w3.heap[b]? = w2.heap[b]? := fun b hb hne => (hgrow.block b (by simp; omega) hne).trans (Below.heap_alloc _ _ _ hb)
      have HB3 : Hid (Below W.heap.size W w3) := (HB2.out.alloc (by omega) _).grown hgrow (by simp; omega) (fun j hj => by have := hown1 j hj; omega)
      have nb : ∀ b, b ≤ W.heap.size → some b ≠ v.ownBlock := fun b hb e => by have := hown1 b e.symm; omega
      have HBc3 : Hid (Bc w3 W.heap.size tb to tl tc sb (some ⟨gb, 0, none⟩) n gc) := HBc2.out.but (by omega) (blk3 _ (by omega) (nb _ (by omega)))
      have HO3 : Hid (ints.Own w3 (W.heap.size + 1) (.slice (some ⟨ob, oo, none⟩) (m + 1) oc) (asI (a :: os))) := World.ownsRow.kept (World.ownsRow.alloc HO2.out _) hgrow (own_apart HL2.out HO2.out (by decide))
      have HP3 : Hid (OwnQ w3 (W.heap.size + 1) v3 (ps ++ [(a, k)])) := by
        show World.ownsRow _ _ _ _ _ _ _
        rw [List.length_append, HPL.out, pcV_app, pcV_one]
        exact hown
      have HMH3 : Hid (Ints w3 ha (asI hs)) := by
        rcases HMH.out with e | ⟨b, off, e, h1, h2, h3⟩
        · exact Or.inl e
        · refine Or.inr ⟨b, off, e, by omega, fun j hj => ?_⟩
          have e2 := blk3 b h2 (fun q => by have := hown1 b q.symm; omega)
          exact (World.cell?_of_block e2).trans (h3 j hj).1
      obtain ⟨gb', hgv', hgb3, hgc3⟩ := (hT.out.kept HB3.out).row (by omega)
      obtain rfl : gb = gb' := by simpa using hgv'
      have t1 := (hgc3 k hkn).2.1
      rw [hck.out] at t1
      have b2 := HBc3.out.2.2.2
      have hcI : cst + ck ≤ 1000000000 := by omega
      have hcI0 : 0 ≤ cst + ck := by omega
      clear hown hgrow blk3 nb hgc3 hgv' b2' t1' HL2 HO2 HBc2
      by_cases hoc : oc = 1
      · have hm0 : m = 0 := by omega
        have HI2 : Hid (Ints w3 (some ⟨ob, oo, none⟩) (asI os)) := by
          have : os = [] := List.eq_nil_of_length_eq_zero (by omega)
          rw [this]
          exact Or.inl rfl
        subst hoc hm0
        go_wp2_with fail
        obtain ⟨Y, hY⟩ : ∃ Y, Hid (w3.alloc (.cells #[.slice ha hs.length hcp, .slice (some ⟨ob, oo, none⟩) 0 0] 22) = Y) := ⟨_, rfl⟩
        have HYY : Hid (Below w3.heap.size w3 Y) := by show Below _ _ _; rw [← hY.out]; repeat (first | exact Below.refl _ _ | refine Below.drew ?_ | refine Below.setCell ?_ (by simp; try omega) _ | refine Below.alloc ?_ (by simp; try omega) _)
        have hYs : Y.heap.size = w3.heap.size + 1 := by rw [← hY.out]; simp
        have y0 : Y.cell? ⟨w3.heap.size, 0, none⟩ = some (.slice ha hs.length hcp) := by rw [← hY.out]; go_simp
        have y1 : Y.cell? ⟨w3.heap.size, 1, none⟩ = some (.slice (some ⟨ob, oo, none⟩) 0 0) := by rw [← hY.out]; go_simp
        rw [hY.out]
        refine (impl_concat w3.heap.size ha (some ⟨ob, oo, none⟩) hs.length 0 hcp 0 (asI hs) (asI os) Y (by omega) y0 y1 (asI_len hs) (by show _ = _; rw [asI_len]; omega) hh40 (by omega) (HMH3.out.kept HYY.out) (HI2.out.kept HYY.out)).mono ?_
        rintro e w4 ⟨v4, rfl, ho4, hB4⟩
        have hs4 := hB4.size
        have HB34 : Hid (Below w3.heap.size w3 w4) := HYY.out.trans (hB4.mono (by omega))
        obtain ⟨oa4, oc4, hv4, hc4, hcm4⟩ := own_form9 ho4
        have hl4 : (asI hs ++ asI os).length = ml := by rw [← HML.out, List.length_append, asI_len, asI_len, List.length_append]
        rw [hl4] at hc4 hv4
        subst hv4
        unfold maxLen at hcm4
        have HO4 : Hid (ints.Own w4 (W.heap.size + 1) (.slice oa4 ml oc4) (asI (hs ++ os))) := by
          show ints.Own _ _ _ _
          have e : asI (hs ++ os) = asI hs ++ asI os := by simp [asI]
          rw [e]
          exact own_low ho4 (by omega)
        have HP4 : Hid (OwnQ w4 (W.heap.size + 1) v3 (ps ++ [(a, k)])) := HP3.out.kept9 HB34.out
        have HBc4 : Hid (Bc w4 W.heap.size tb to tl tc sb (some ⟨gb, 0, none⟩) n gc) := HBc3.out.kept HB34.out
        have HB4 : Hid (Below W.heap.size W w4) := HB3.out.trans (HB34.out.mono (by omega))
        have HME : Hid (szS t (readO (.slice oa4 ml oc4) w4) < szS t (readO (.slice (some ⟨ob, oo, none⟩) (0 + 1) 1) wr)) := by
          show _ < _
          rw [read_own HO4.out HML.out]
          exact HLT.out
        clear hB4 ho4 hY y0 y1 HLT
        go_wp2
        go_roundw
        case rel => exact ⟨ps ++ [(a, k)], i + 1, hs ++ os, v3, cst + ck, oa4, ml, oc4, by show _ = _; rw [List.length_append, HPL.out]; rfl, hi40, rfl, rfl, rfl, HCT.out.symm, by omega, by omega, HML, hln40, hc4, by omega, HOBN, HSN, HGN, HO4, HP4, HBc4, HB4, by omega⟩
        case measure => exact HME.out
      · have hocI : (1 : Int) ≤ (oc : Int) := by omega
        have hm1I : (1 : Int) ≤ ((m + 1 : Nat) : Int) := by omega
        have HI2 : Hid (Ints w3 (some ⟨ob, oo + 1, none⟩) (asI os)) := by
          obtain ⟨a', c', e, hMn⟩ := ints.Own.mine HO3.out
          simp only [Value.slice.injEq] at e
          obtain ⟨rfl, _, _⟩ := e
          rcases hMn with hMn | ⟨b, off, e, h1, h2, h3⟩
          · simp [asI] at hMn
          · simp only [Option.some.injEq, Addr.mk.injEq] at e
            obtain ⟨rfl, rfl, _⟩ := e
            refine Or.inr ⟨ob, oo + 1, rfl, h2, fun j hj => ?_⟩
            have q := (h3 (j + 1) (by rw [asI_len] at hj ⊢; simp; omega)).1
            rw [show oo + 1 + j = oo + (j + 1) by omega, q]
            rfl
        go_wp2_with fail
        obtain ⟨Y, hY⟩ : ∃ Y, Hid (w3.alloc (.cells #[.slice ha hs.length hcp, .slice (some ⟨ob, oo + 1, none⟩) m (oc - 1)] 22) = Y) := ⟨_, rfl⟩
        have HYY : Hid (Below w3.heap.size w3 Y) := by show Below _ _ _; rw [← hY.out]; repeat (first | exact Below.refl _ _ | refine Below.drew ?_ | refine Below.setCell ?_ (by simp; try omega) _ | refine Below.alloc ?_ (by simp; try omega) _)
        have hYs : Y.heap.size = w3.heap.size + 1 := by rw [← hY.out]; simp
        have y0 : Y.cell? ⟨w3.heap.size, 0, none⟩ = some (.slice ha hs.length hcp) := by rw [← hY.out]; go_simp
        have y1 : Y.cell? ⟨w3.heap.size, 1, none⟩ = some (.slice (some ⟨ob, oo + 1, none⟩) m (oc - 1)) := by rw [← hY.out]; go_simp
        rw [hY.out]
        refine (impl_concat w3.heap.size ha (some ⟨ob, oo + 1, none⟩) hs.length m hcp (oc - 1) (asI hs) (asI os) Y (by omega) y0 y1 (asI_len hs) (by show _ = _; rw [asI_len]; exact hml) hh40 (by omega) (HMH3.out.kept HYY.out) (HI2.out.kept HYY.out)).mono ?_
        rintro e w4 ⟨v4, rfl, ho4, hB4⟩
        have hs4 := hB4.size
        have HB34 : Hid (Below w3.heap.size w3 w4) := HYY.out.trans (hB4.mono (by omega))
        obtain ⟨oa4, oc4, hv4, hc4, hcm4⟩ := own_form9 ho4
        have hl4 : (asI hs ++ asI os).length = ml := by rw [← HML.out, List.length_append, asI_len, asI_len, List.length_append]
        rw [hl4] at hc4 hv4
        subst hv4
        unfold maxLen at hcm4
        have HO4 : Hid (ints.Own w4 (W.heap.size + 1) (.slice oa4 ml oc4) (asI (hs ++ os))) := by
          show ints.Own _ _ _ _
          have e : asI (hs ++ os) = asI hs ++ asI os := by simp [asI]
          rw [e]
          exact own_low ho4 (by omega)
        have HP4 : Hid (OwnQ w4 (W.heap.size + 1) v3 (ps ++ [(a, k)])) := HP3.out.kept9 HB34.out
        have HBc4 : Hid (Bc w4 W.heap.size tb to tl tc sb (some ⟨gb, 0, none⟩) n gc) := HBc3.out.kept HB34.out
        have HB4 : Hid (Below W.heap.size W w4) := HB3.out.trans (HB34.out.mono (by omega))
        have HME : Hid (szS t (readO (.slice oa4 ml oc4) w4) < szS t (readO (.slice (some ⟨ob, oo, none⟩) (m + 1) oc) wr)) := by
          show _ < _
          rw [read_own HO4.out HML.out]
          exact HLT.out
        clear hB4 ho4 hY y0 y1 HLT
        go_wp2
        go_roundw
        case rel => exact ⟨ps ++ [(a, k)], i + 1, hs ++ os, v3, cst + ck, oa4, ml, oc4, by show _ = _; rw [List.length_append, HPL.out]; rfl, hi40, rfl, rfl, rfl, HCT.out.symm, by omega, by omega, HML, hln40, hc4, by omega, HOBN, HSN, HGN, HO4, HP4, HBc4, HB4, by omega⟩
        case measure => exact HME.out
end Go.Proofs.Ytapbfoooflpejaa.walks
