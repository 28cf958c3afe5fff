/-
  What the specification's l9Best answers: the least costs of covers and their patterns at each place.
-/
import Derived.Test.YtapbfoooflpejaaProg
import Derived.Test.YtapbfoooflpejaaBestMath
import Derived.Test.YtapbfoooflpejaaLeastImpl
import Derived.Test.YtapbfoooflpejaaFitSpec
import Derived.Test.YtapbfoooflpejaaPatSpec
import Derived.Test.YtapbfoooflpejaaPats
namespace Go.Proofs.Ytapbfoooflpejaa.walks
open Go.RowKit Go.Proofs.Ytapbfoooflpejaa.math Go.Proofs.Ytapbfoooflpejaa.ints
set_option linter.unusedVariables false
set_option maxRecDepth 100000

/-- A place's pattern, or -1. -/
def encB (p : Nat × Int) : Int := if p.2 = 0 then -1 else (p.1 : Int)
theorem encB_no {p : Nat × Int} (h : p.2 = 0) : encB p = -1 := if_pos h
theorem encB_yes {p : Nat × Int} (h : p.2 ≠ 0) : encB p = (p.1 : Int) := if_neg h
/-- What is known when the places from m on have been gone through. -/
def stB (t : List Int) (f : Nat → Pv) (n tl m : Nat) : Bs := foldB (len := tl) t f n (downTo tl (tl - m))
theorem stB_next {t : List Int} {f : Nat → Pv} {n tl q : Nat} (h : q < tl) : stB t f n tl q = roundB t f q (stB t f n tl (q + 1)) n := by
  unfold stB
  rw [downTo_next h, foldB_snoc]
theorem stB_end (t : List Int) (f : Nat → Pv) (n tl i : Nat) : stB t f n tl tl i = (0, 0) := by unfold stB; rw [Nat.sub_self]; rfl
theorem stB_none {t : List Int} {f : Nat → Pv} {n tl : Nat} : ∀ (d m : Nat), m + d = tl → ∀ i, i < m → stB t f n tl m i = (0, 0)
  | 0, m, hd, i, hi => by rw [show m = tl by omega]; exact stB_end _ _ _ _ _
  | d + 1, m, hd, i, hi => by
    rw [stB_next (show m < tl by omega), roundB_other _ _ _ (by omega)]
    exact stB_none d (m + 1) (by omega) i (by omega)
set_option maxHeartbeats 8000000 in
theorem spec_best (ta : Option Addr) (tl tc : Nat) (t : List Int) (la : Option Addr) (n lc : Nat) (f : Nat → Pv) (W : World) (hz : Hid (t.length = tl)) (ht40 : tl ≤ 40) (hw : Hid (wholeB false t = true)) (hg : Hid (GoodPs f n)) (hn : n ≤ 12) (h : Hid (Ints W ta t)) (hp : Hid (Pats W la n f)) :
    Calls Try.prog 22 #[.slice ta tl tc, .slice la n lc] W fun e W' => e = .returned (.tuple #[.slice (some ⟨W.heap.size, 0, none⟩) tl tl, .slice (some ⟨W.heap.size + 1, 0, none⟩) tl tl]) ∧ W'.rowIs W.heap.size 3 tl (fun i => .int .i64 (leastS t f n i).2) ∧ W'.rowIs (W.heap.size + 1) 3 tl (fun i => .int .i64 (encB (leastS t f n i))) ∧ Below W.heap.size W W' := by
  have hmk := run_make_row' (P := Try.prog) 22 3 (.int .i64 0) 8 Try.underlying22 row_info rfl .i64 .i64 tl (by omega) (by omega)
  have htI : (tl : Int) ≤ 40 := by omega
  have HLS : Hid (stB t f n tl 0 = leastS t f n) := by show _ = _; unfold leastS stB; rw [hz.out, Nat.sub_zero]
  have HBD : Hid (∀ m, Bnd t (stB t f n tl m)) := fun m => foldB_bnd hz.out hw.out (by rw [hz.out]; exact ht40) hg.out _
  have HRB : Hid (∀ (s : Bs) a k, Bnd t s → a < tl → k ≤ n → Bnd t (roundB t f a s k)) := fun s a k q1 q2 q3 => roundB_bnd hw.out (by rw [hz.out]; exact ht40) hg.out (by rw [hz.out]; exact q2) q1 k q3
  go_enter Try.func22, Try.ntmps22
  go_wp2
  clear hmk
  go_loopw [8] (fun vi wr => ∃ m : Nat, m ≤ tl ∧ vi = .int .i64 ((m : Int) - 1) ∧ Hid (wr.rowIs W.heap.size 3 tl (fun i => .int .i64 (stB t f n tl m i).2)) ∧ Hid (wr.rowIs (W.heap.size + 1) 3 tl (fun i => .int .i64 (if i < m then 0 else encB (stB t f n tl m i)))) ∧ Hid (Below W.heap.size W wr)) (fun vi _ => ((intOf vi) + 1).toNat)
  case atStart =>
    refine ⟨tl, Nat.le_refl _, rfl, ?_, ?_, ?_⟩
    · show World.rowIs _ _ _ _ _
      exact ((World.rowIs_made W (.int .i64 0) tl 3).alloc _).congr (fun i hi => by rw [stB_end])
    · show World.rowIs _ _ _ _ _
      have q := World.rowIs_made (W.alloc (.cells (madeCells #[.int .i64 0] tl) 3)) (.int .i64 0) tl 3
      rw [World.size_alloc] at q
      exact q.congr (fun i hi => by rw [if_pos hi])
    · show Below _ _ _
      go_grown
  case round =>
    obtain ⟨m, hm, rfl, HC, HBs, HB⟩ := hrel
    rcases m with _ | q
    · go_wp2
      go_ret2
      refine ⟨rfl, HC.out.congr (fun i hi => by rw [HLS.out]), HBs.out.congr (fun i hi => by rw [if_neg (by omega), HLS.out]), HB.out⟩
    have hq : ((q + 1 : Nat) : Int) - 1 = (q : Int) := by omega
    rw [hq]
    clear hq
    have hqn : q < tl := by omega
    have hqI : (q : Int) < (tl : Int) := by omega
    have hq0 : (0 : Int) ≤ (q : Int) := by omega
    have HS0 : Hid (stB t f n tl (q + 1) q = (0, 0)) := stB_none (tl - (q + 1)) (q + 1) (by omega) q (by omega)
    have HNX : Hid (stB t f n tl q = roundB t f q (stB t f n tl (q + 1)) n) := stB_next hqn
    have HB0 : Hid (Bnd t (stB t f n tl (q + 1))) := HBD.out _
    obtain ⟨s, hsE⟩ : ∃ s, Hid (stB t f n tl (q + 1) = s) := ⟨_, rfl⟩
    rw [hsE.out] at HC HBs HS0 HNX HB0
    have d0 := HBs.out.cell hqn
    have z0 := HBs.out.frozen q
    have hlt0 := HC.out.lt
    have hlt1 := HBs.out.lt
    go_wp2
    obtain ⟨wo, hwo⟩ : ∃ wo, Hid (wr.setCell ⟨W.heap.size + 1, q, none⟩ (.int .i64 (-1)) = wo) := ⟨_, rfl⟩
    have HCo : Hid (wo.rowIs W.heap.size 3 tl (fun i => .int .i64 (roundB t f q s 0 i).2)) := by show World.rowIs _ _ _ _ _; rw [← hwo.out]; exact HC.out.setOther (by show W.heap.size ≠ W.heap.size + 1; omega) _
    have HBo : Hid (wo.rowIs (W.heap.size + 1) 3 tl (fun i => .int .i64 (if i < q then 0 else encB (roundB t f q s 0 i)))) := by
      show World.rowIs _ _ _ _ _
      rw [← hwo.out]
      refine World.rowIs.congr (HBs.out.set q (.int .i64 (-1))) (fun i hi => ?_)
      by_cases e : i = q
      · subst e
        rw [if_pos rfl, if_neg (by omega)]
        show _ = Value.int .i64 (encB (s i))
        rw [HS0.out]; rfl
      · rw [if_neg e]
        by_cases e2 : i < q
        · rw [if_pos e2, if_pos (by omega)]
        · rw [if_neg e2, if_neg (by omega)]; rfl
    have HBe : Hid (Below W.heap.size W wo) := by show Below _ _ _; rw [← hwo.out]; exact HB.out.setCell (by show W.heap.size ≤ W.heap.size + 1; omega) _
    rw [hwo.out]
    clear hwo d0 z0 HC HBs HB
    go_loopw [34] (fun vk wr => ∃ k : Nat, k ≤ n ∧ vk = .int .i64 (k : Int) ∧ Hid (wr.rowIs W.heap.size 3 tl (fun i => .int .i64 (roundB t f q s k i).2)) ∧ Hid (wr.rowIs (W.heap.size + 1) 3 tl (fun i => .int .i64 (if i < q then 0 else encB (roundB t f q s k i)))) ∧ Hid (Below W.heap.size W wr)) (fun vk _ => n - (intOf vk).toNat)
    case atStart => exact ⟨0, Nat.zero_le _, rfl, HCo, HBo, HBe⟩
    case round =>
      obtain ⟨k, hk, rfl, HC, HBs, HB⟩ := hrel
      by_cases hkn : k < n
      rotate_left
      · have HE : Hid (roundB t f q s k = stB t f n tl q) := by show _ = _; rw [HNX.out, show k = n by omega]
        go_wp2
        go_roundw
        case rel => exact ⟨q, by omega, rfl, by show World.rowIs _ _ _ _ _; rw [← HE.out]; exact HC.out, by show World.rowIs _ _ _ _ _; rw [← HE.out]; exact HBs.out, HB⟩
        case measure => simp [intOf]
      have hknI : (k : Int) < (n : Int) := by omega
      obtain ⟨gl, gz, gw, gc0, gc1⟩ := hg.out k hkn
      have HGW : Hid (wholeB true (f k).zs = true) := gw
      have HBK : Hid (Bnd t (roundB t f q s k)) := HRB.out s q k HB0.out hqn (by omega)
      have HRN : Hid (∀ o, costB t f (roundB t f q s k) k q = o → roundB t f q s (k + 1) = takeB (roundB t f q s k) q k o) := fun o ho => by rw [← ho]; rfl
      obtain ⟨sk, hsk⟩ : ∃ sk, Hid (roundB t f q s k = sk) := ⟨_, rfl⟩
      rw [hsk.out] at HC HBs HBK HRN
      have HCB : Hid (∀ o, fitL t (f k).zs q = o → costB t f sk k q = o.bind fun hs => sumW sk hs (f k).c) := fun o ho => by unfold costB; rw [ho]
      obtain ⟨b, off, ca, cc, ha, hb, c0, c1, hIk⟩ := pat_at hp.out HB.out hkn
      subst ha
      have hbw : b < wr.heap.size := by have := HB.out.size; omega
      have HFI : Hid (∀ hs, fitL t (f k).zs q = some hs → (∀ x ∈ hs, q < x ∧ x < tl) ∧ szS t hs ≤ 40 ∧ hs.length ≤ 40) := fun hs hf => by
        have hin := fit_behind hw.out gw (by rw [hz.out]; exact hqn) gz hf
        have hless := fit_less hw.out gw (by rw [hz.out]; exact hqn) gz hf
        have hsa := (sz_le (whole_each hw.out (by rw [hz.out]; exact hqn)) (by rw [hz.out]; exact Nat.le_of_lt hqn)).2
        have hhl := open_len hw.out hs (fun x hx => (hin x hx).2.2)
        refine ⟨fun x hx => ⟨(hin x hx).1, ?_⟩, by have := hz.out; omega, by have := hz.out; omega⟩
        have := (hin x hx).2.2
        rw [hz.out] at this
        exact this
      obtain ⟨ck, hck⟩ : ∃ ck : Int, Hid ((f k).c = ck) := ⟨_, rfl⟩
      rw [hck.out] at c1 gc0 gc1 HCB
      obtain ⟨X, hX⟩ : ∃ X, Hid (wr.alloc (.cells #[.slice ca (f k).zs.length cc, .int .i64 ck] 50) = X) := ⟨_, rfl⟩
      have HX : Hid (Below wr.heap.size wr X) := by show Below _ _ _; rw [← hX.out]; repeat (first | exact Below.refl _ _ | refine Below.drew ?_ | refine Below.setCell ?_ (by simp; try omega) _ | refine Below.alloc ?_ (by simp; try omega) _)
      have hXs : X.heap.size = wr.heap.size + 1 := by rw [← hX.out]; simp
      have x1 : X.cell? ⟨wr.heap.size, 1, none⟩ = some (.int .i64 ck) := by rw [← hX.out]; go_simp
      have HBX : Hid (Below W.heap.size W X) := HB.out.trans (HX.out.mono HB.out.size)
      have HIX : Hid (Ints X ca (f k).zs) := hIk.kept HX.out
      have HTX : Hid (Ints X ta t) := h.out.kept HBX.out
      have HCX : Hid (X.rowIs W.heap.size 3 tl (fun i => .int .i64 (sk i).2)) := HC.out.of_block (HX.out.block _ (by have := HC.out.lt; omega))
      have HBsX : Hid (X.rowIs (W.heap.size + 1) 3 tl (fun i => .int .i64 (if i < q then 0 else encB (sk i)))) := HBs.out.of_block (HX.out.block _ (by have := HBs.out.lt; omega))
      clear hIk gz gw
      obtain ⟨wk, hwk⟩ : ∃ wk, wk = wr := ⟨_, rfl⟩
      subst hwk
      go_wp2_with fail
      rw [hX.out]
      refine (spec_fits ta tl tc q t ca (f k).zs.length cc ck (f k).zs X hz ht40 rfl gl HTX HIX hw HGW hqn).mono ?_
      rintro e w2 ⟨hA, hB⟩
      have HB2 : Hid (Below W.heap.size W w2) := HBX.out.trans (hB.mono HBX.out.size)
      have HC2 : Hid (w2.rowIs W.heap.size 3 tl (fun i => .int .i64 (sk i).2)) := HCX.out.of_block (hB.block _ HCX.out.lt)
      have HBs2 : Hid (w2.rowIs (W.heap.size + 1) 3 tl (fun i => .int .i64 (if i < q then 0 else encB (sk i)))) := HBsX.out.of_block (hB.block _ HBsX.out.lt)
      have y1 := (hB.cell (p := ⟨wk.heap.size, 1, none⟩) (by show wk.heap.size < _; omega)).trans x1
      have hw2 : wk.heap.size < w2.heap.size := by have := hB.size; omega
      clear hB x1 c0 c1 hX
      rcases hA with ⟨hf, rfl⟩ | ⟨hs, v, hf, rfl, hO⟩
      · have HN : Hid (roundB t f q s (k + 1) = sk) := (HRN.out none (HCB.out none hf)).trans (takeB_none _ _ _)
        clear hf
        go_wp2
        go_loop [12, 13, 50] (fun vo vs vj => vo = .bool false ∧ vs = .int .i64 ck ∧ vj = .int .i64 0) (fun _ _ _ => 1)
        case atStart => exact ⟨rfl, rfl, rfl⟩
        case round =>
          obtain ⟨rfl, rfl, rfl⟩ := hrel
          go_wp2
          go_roundw
          case rel => exact ⟨k + 1, by omega, by go_num, by show World.rowIs _ _ _ _ _; rw [HN.out]; exact HC2.out, by show World.rowIs _ _ _ _ _; rw [HN.out]; exact HBs2.out, HB2⟩
          case measure => simp [intOf]; omega
      obtain ⟨hin, hsz, hh40⟩ := HFI.out hs hf
      have HIN : Hid (∀ x ∈ hs, q < x ∧ x < tl) := hin
      have HE : Hid (costB t f sk k q = sumW sk hs ck) := HCB.out _ hf
      obtain ⟨va, vc, hv, hM⟩ := hO.mine
      rw [asI_len] at hv
      subst hv
      have HMH : Hid (Ints w2 va (asI hs)) := hM.ints
      obtain ⟨mh, hmh⟩ : ∃ mh, Hid (hs.length = mh) := ⟨_, rfl⟩
      rw [hmh.out] at hh40 ⊢
      have hmI : (mh : Int) ≤ 40 := by omega
      clear hin hf hM hO HFI
      go_wp2
      go_loop [12, 13, 50] (fun vo vs vj => ∃ (j : Nat) (o : Bool) (c : Int), j ≤ mh ∧ vj = .int .i64 (j : Int) ∧ vo = .bool o ∧ vs = .int .i64 c ∧ Hid (o = true → sumW sk hs ck = sumW sk (hs.drop j) c) ∧ Hid (o = false → sumW sk hs ck = none) ∧ 0 ≤ c ∧ c + 100 * (szS t (hs.drop j) : Int) ≤ 10000) (fun _ _ vj => mh - (intOf vj).toNat)
      case atStart => exact ⟨0, true, ck, Nat.zero_le _, rfl, rfl, rfl, fun _ => rfl, (fun q => (by cases q)), by omega, by rw [List.drop_zero]; omega⟩
      case round =>
        obtain ⟨j, o, c, hj, rfl, rfl, rfl, HOT, HOF, c0, c1⟩ := hrel
        by_cases hjm : j < mh
        · have hjI : (j : Int) < (mh : Int) := by omega
          have hd := drop_nat (hs := hs) (j := j) (by rw [hmh.out]; exact hjm)
          obtain ⟨ab, ao, hae, cH⟩ := HMH.out.at (Below.refl _ _) (k := j) (by rw [asI_len, hmh.out]; exact hjm)
          subst hae
          rw [asI_get hs j (by rw [hmh.out]; exact hjm)] at cH
          have hmem : hs.getD j 0 ∈ hs := by
            have e : hs.getD j 0 = hs[j]'(by rw [hmh.out]; exact hjm) := by simp [List.getD, show j < hs.length by rw [hmh.out]; exact hjm]
            rw [e]; exact List.getElem_mem _
          obtain ⟨hqx, hxl⟩ := HIN.out _ hmem
          obtain ⟨x, hx⟩ : ∃ x, Hid (hs.getD j 0 = x) := ⟨_, rfl⟩
          rw [hx.out] at cH hxl hd hqx
          rw [hd] at HOT c1
          rw [szS_cons] at c1
          have hxI : (x : Int) < (tl : Int) := by omega
          have hbx := HBK.out x (by rw [hz.out]; exact hxl)
          have cC := HC2.out.cell hxl
          have cB := HBs2.out.cell hxl
          rw [if_neg (by omega)] at cB
          have HN0 : Hid ((sk x).2 = 0 → sumW sk hs ck = none) := fun e => by
            cases o with
            | true => rw [HOT.out rfl]; simp only [sumW]; rw [if_pos e]
            | false => exact HOF.out rfl
          have HN1 : Hid ((sk x).2 ≠ 0 → o = true → sumW sk hs ck = sumW sk (hs.drop (j + 1)) (c + (sk x).2)) := fun e h => by rw [HOT.out h]; simp only [sumW]; rw [if_neg e]
          have HEN : Hid ((sk x).2 = 0 → encB (sk x) = -1) := encB_no
          have HEY : Hid ((sk x).2 ≠ 0 → 0 ≤ encB (sk x)) := fun e => by rw [encB_yes e]; omega
          obtain ⟨sx, hsx⟩ : ∃ sx, Hid ((sk x).2 = sx) := ⟨_, rfl⟩
          obtain ⟨ex, hex⟩ : ∃ ex, Hid (encB (sk x) = ex) := ⟨_, rfl⟩
          rw [hsx.out] at hbx cC HN0 HN1 HEN HEY
          rw [hex.out] at cB HEN HEY
          obtain ⟨x0, x1⟩ := hbx
          obtain ⟨rest, hrest⟩ : ∃ rest : Nat, Hid (szS t (hs.drop (j + 1)) = rest) := ⟨_, rfl⟩
          obtain ⟨zx, hzx⟩ : ∃ zx : Nat, Hid (szT false t x = zx) := ⟨_, rfl⟩
          rw [hrest.out, hzx.out] at c1
          rw [hzx.out] at x1
          have hcs : c + sx ≤ 10000 := by omega
          have HC1 : Hid (c + sx + 100 * (rest : Int) ≤ 10000) := by show _ ≤ _; omega
          clear c1 x1
          cases o with
          | false =>
            have HF : Hid (sumW sk hs ck = none) := HOF.out rfl
            go_wp2
            go_round
            case rel => exact ⟨j + 1, false, c + sx, by omega, by go_num, rfl, rfl, (fun q => (by cases q)), fun _ => HF.out, by omega, by rw [hrest.out]; exact HC1.out⟩
            case measure => simp [intOf]; omega
          | true =>
            by_cases e : sx = 0
            · have HF : Hid (sumW sk hs ck = none) := HN0.out e
              have ee := HEN.out e
              subst ee
              subst e
              rw [Int.add_zero] at HC1 hcs
              go_wp2
              go_round
              case rel => exact ⟨j + 1, false, c, by omega, by go_num, rfl, rfl, (fun q => (by cases q)), fun _ => HF.out, by omega, by rw [hrest.out]; exact HC1.out⟩
              case measure => simp [intOf]; omega
            · have HF := HN1.out e rfl
              have HF2 : Hid (sumW sk hs ck = sumW sk (hs.drop (j + 1)) (c + sx)) := HF
              have ee := HEY.out e
              have de : decide (ex ≥ 0) = true := decide_eq_true ee
              clear HF
              go_wp2
              go_round
              case rel => exact ⟨j + 1, true, c + sx, by omega, by go_num, rfl, rfl, fun _ => HF2.out, (fun q => (by cases q)), by omega, by rw [hrest.out]; exact HC1.out⟩
              case measure => simp [intOf]; omega
        have HCF : Hid (costB t f sk k q = if o then some c else none) := by
          show _ = _
          rw [HE.out]
          cases o with
          | true => rw [HOT.out rfl, List.drop_of_length_le (by rw [hmh.out]; omega)]; rfl
          | false => exact HOF.out rfl
        have hjm' : mh ≤ j := by omega
        have hjmI : (mh : Int) ≤ (j : Int) := by omega
        clear c1 hjm HOT HOF
        cases o with
        | false =>
          have HN : Hid (roundB t f q s (k + 1) = sk) := (HRN.out none HCF.out).trans (takeB_none _ _ _)
          go_wp2
          go_roundw
          case rel => exact ⟨k + 1, by omega, by go_num, by show World.rowIs _ _ _ _ _; rw [HN.out]; exact HC2.out, by show World.rowIs _ _ _ _ _; rw [HN.out]; exact HBs2.out, HB2⟩
          case measure => simp [intOf]; omega
        | true =>
          have cC := HC2.out.cell hqn
          have cB := HBs2.out.cell hqn
          rw [if_neg (by omega)] at cB
          have zC := HC2.out.frozen q
          have zB := HBs2.out.frozen q
          have HBq := HBK.out q (by rw [hz.out]; exact hqn)
          have HY : Hid ((sk q).2 = 0 ∨ c < (sk q).2 → roundB t f q s (k + 1) = updB sk q (k, c)) := fun e => (HRN.out (some c) HCF.out).trans (takeB_yes e)
          have HNO : Hid ((sk q).2 ≠ 0 → (sk q).2 ≤ c → roundB t f q s (k + 1) = sk) := fun e1 e2 => (HRN.out (some c) HCF.out).trans (takeB_no e1 e2)
          have HCP : Hid (1 ≤ c) := by
            have := costB_bound hw.out (by rw [hz.out]; exact ht40) hg.out hkn (by rw [hz.out]; exact hqn) HBK.out HCF.out
            exact this.1
          have HCW : Hid (∀ (V : World), V.rowIs W.heap.size 3 tl (fun i => .int .i64 (sk i).2) → V.rowIs (W.heap.size + 1) 3 tl (fun i => .int .i64 (if i < q then 0 else encB (sk i))) → ((V.setCell ⟨W.heap.size + 1, q, none⟩ (.int .i64 (k : Int))).setCell ⟨W.heap.size, q, none⟩ (.int .i64 c)).rowIs W.heap.size 3 tl (fun i => .int .i64 (updB sk q (k, c) i).2) ∧ ((V.setCell ⟨W.heap.size + 1, q, none⟩ (.int .i64 (k : Int))).setCell ⟨W.heap.size, q, none⟩ (.int .i64 c)).rowIs (W.heap.size + 1) 3 tl (fun i => .int .i64 (if i < q then 0 else encB (updB sk q (k, c) i)))) := fun V r1 r2 => by
            have hcp := HCP.out
            refine ⟨World.rowIs.congr ((r1.setOther (by show W.heap.size ≠ W.heap.size + 1; omega) _).set q (.int .i64 c)) (fun i hi => ?_), World.rowIs.congr ((r2.set q (.int .i64 (k : Int))).setOther (by show W.heap.size + 1 ≠ W.heap.size; omega) _) (fun i hi => ?_)⟩
            · by_cases e : i = q
              · subst e; rw [if_pos rfl, updB_same]
              · rw [if_neg e, updB_other _ _ e]
            · by_cases e : i = q
              · subst e; rw [if_pos rfl, if_neg (by omega), updB_same, encB_yes (by show c ≠ 0; omega)]
              · rw [if_neg e, updB_other _ _ e]
          have HEN : Hid ((sk q).2 = 0 → encB (sk q) = -1) := encB_no
          have HEY : Hid ((sk q).2 ≠ 0 → 0 ≤ encB (sk q)) := fun e => by rw [encB_yes e]; omega
          obtain ⟨sa, hsa⟩ : ∃ sa, Hid ((sk q).2 = sa) := ⟨_, rfl⟩
          obtain ⟨ea, hea⟩ : ∃ ea, Hid (encB (sk q) = ea) := ⟨_, rfl⟩
          rw [hsa.out] at cC HY HNO HEN HEY HBq
          rw [hea.out] at cB HEN HEY
          have hl0 := HC2.out.lt
          have hl1 := HBs2.out.lt
          by_cases e0 : sa = 0
          · have HN := HY.out (Or.inl e0)
            have HN2 : Hid (roundB t f q s (k + 1) = updB sk q (k, c)) := HN
            have ee := HEN.out e0
            subst ee
            clear HN HBq
            go_wp2
            go_roundw
            case rel =>
              obtain ⟨r1, r2⟩ := HCW.out w2 HC2.out HBs2.out
              exact ⟨k + 1, by omega, by go_num, by show World.rowIs _ _ _ _ _; rw [HN2.out]; exact r1, by show World.rowIs _ _ _ _ _; rw [HN2.out]; exact r2, (HB2.out.setCell (by show W.heap.size ≤ W.heap.size + 1; omega) _).setCell (Nat.le_refl _) _⟩
            case measure => simp [intOf]; omega
          have ee := HEY.out e0
          have de : decide (ea < 0) = false := decide_eq_false (by omega)
          by_cases qq : c < sa
          · have HN := HY.out (Or.inr qq)
            have HN2 : Hid (roundB t f q s (k + 1) = updB sk q (k, c)) := HN
            have dq : decide (c < sa) = true := decide_eq_true qq
            clear HN HBq
            go_wp2
            go_roundw
            case rel =>
              obtain ⟨r1, r2⟩ := HCW.out w2 HC2.out HBs2.out
              exact ⟨k + 1, by omega, by go_num, by show World.rowIs _ _ _ _ _; rw [HN2.out]; exact r1, by show World.rowIs _ _ _ _ _; rw [HN2.out]; exact r2, (HB2.out.setCell (by show W.heap.size ≤ W.heap.size + 1; omega) _).setCell (Nat.le_refl _) _⟩
            case measure => simp [intOf]; omega
          · have q' : sa ≤ c := by omega
            have HN := HNO.out e0 q'
            have HN2 : Hid (roundB t f q s (k + 1) = sk) := HN
            have dq : decide (c < sa) = false := decide_eq_false qq
            clear HN qq HBq
            go_wp2
            go_roundw
            case rel => exact ⟨k + 1, by omega, by go_num, by show World.rowIs _ _ _ _ _; rw [HN2.out]; exact HC2.out, by show World.rowIs _ _ _ _ _; rw [HN2.out]; exact HBs2.out, HB2⟩
            case measure => simp [intOf]; omega
end Go.Proofs.Ytapbfoooflpejaa.walks
