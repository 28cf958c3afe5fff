/-
  What the specification's l14Sorted and l15Live answer.
-/
import Derived.Test.YtokaibpkajloeaaProg
import Derived.Test.YtokaibpkajloeaaInts
import Derived.Test.YtokaibpkajloeaaOwnInts
import Derived.Test.YtokaibpkajloeaaDeep
import Derived.Test.YtokaibpkajloeaaDeepRow
import Derived.Test.YtokaibpkajloeaaDeepM
import Derived.Test.YtokaibpkajloeaaDeepGrow
import Derived.Test.YtokaibpkajloeaaNamesMath
import Derived.Test.YtokaibpkajloeaaPutSpec
import Derived.Test.YtokaibpkajloeaaPutOwn
import Derived.Test.YtokaibpkajloeaaHasIn
import Derived.Test.YtokaibpkajloeaaMarkMath
import Derived.Test.YtokaibpkajloeaaMarkWell
import Derived.Test.YtokaibpkajloeaaMarkSpec
import Derived.Test.YtokaibpkajloeaaMarkRun
import Derived.Test.YtokaibpkajloeaaMarkWhere
import Derived.Test.YtokaibpkajloeaaLiveMath15
import Derived.Test.YtokaibpkajloeaaLiveMath15b
import Derived.WalkKit
import Derived.WalkSpells
import Derived.Below
import Derived.Handy
import Derived.OwnWalk
import Derived.Deep.QuietTactic
import Derived.BigQuiet
import Derived.Deep.OwnRows
import Derived.Deep.DeepFit
import Derived.Deep.DeepCutAuto
namespace Go.Proofs.Ytokaibpkajloeaa.walks
open Go.RowKit Go.Proofs.Ytokaibpkajloeaa.math Go.Proofs.Ytokaibpkajloeaa.ints Go.Proofs.Ytokaibpkajloeaa.deep
set_option linter.unusedVariables false
set_option linter.unusedSimpArgs false
set_option maxRecDepth 100000

theorem own_low16 {w : World} {B B' : Nat} {v : Value} {zs : List Int} (h : Own w B v zs) (hB : B' ≤ B) : Own w B' v zs := by
  refine ⟨h.1, ?_⟩
  rcases h.2 with q | ⟨g, cap, cur, e, hg, r⟩
  · exact Or.inl q
  · exact Or.inr ⟨g, cap, cur, e, Nat.le_trans hB hg, r⟩
theorem own_lrow {w : World} {B : Nat} {v : Value} {zs : List Int} (h : Own w B v zs) : LRow w v zs := by
  rcases h.2 with ⟨e, hn⟩ | ⟨g, cap, cur, e, hg, hw, hmc, r⟩
  · exact Or.inl ⟨List.eq_nil_of_length_eq_zero hn, e⟩
  · subst e
    refine Or.inr ⟨g, 0, cap, rfl, hmc, (World.ownsRow.lt h g rfl).2, fun i hi => ?_⟩
    have q := World.ownsRow.cellAt h i (by omega)
    rw [Nat.zero_add, q]
    simp [List.getD, hi]
theorem spec_inO (B : Nat) (v : Value) (x : Int) (zs : List Int) (W : World) (h : Hid (Own W B v zs)) (hl : zs.length ≤ 1048576) : Calls Try.prog 69 #[v, .int .i64 x] W fun e W' => e = .returned (.bool (inB zs x)) ∧ W' = W := by
  obtain ⟨a, cap, rfl, hM⟩ := h.out.mine
  exact spec_in a zs.length cap x zs W rfl hl hM.ints
set_option maxHeartbeats 2000000 in
theorem spec_sorted15 (a : Option Addr) (len cap : Nat) (zs : List Int) (W : World) (hz : Hid (zs.length = len)) (hn : zs.Nodup) (hlen : len ≤ 10) (h : Hid (Ints W a zs)) :
    Calls Try.prog 76 #[.slice a len cap] W fun e W' => WhereTo W (putAll zs len) e W' := by
  go_enter Try.func76, Try.ntmps76
  go_wp2
  go_loopw [3, 8] (fun vl vi wr => ∃ (k : Nat) (v : Value), k ≤ len ∧ vi = .int .i64 k ∧ v = vl ∧ Hid (Own wr W.heap.size v (putAll zs k)) ∧ Hid (Below W.heap.size W wr)) (fun _ vi _ => len - (intOf vi).toNat)
  case atStart => exact ⟨0, _, Nat.zero_le _, rfl, rfl, own_nil _ _, Below.refl _ _⟩
  case round =>
    obtain ⟨k, v, hk, rfl, rfl, HO, HB⟩ := hrel
    by_cases hlt : k < len
    rotate_left
    · have HA : Hid (WhereTo W (putAll zs len) (.returned v) wr) := by
        have q := HO.out
        rw [show k = len by omega] at q
        exact ⟨v, rfl, q, HB.out⟩
      go_wp2
      go_ret
      exact HA.out
    have hltI : (k : Int) < (len : Int) := by omega
    have hkz : k < zs.length := by rw [hz.out]; exact hlt
    obtain ⟨b, off, ha, hc⟩ := h.out.at HB.out (k := k) hkz
    subst ha
    have hbw : b < wr.heap.size := World.block_lt_of_cell? wr _ hc
    obtain ⟨_, _, hno⟩ := putAll_in hn k (by omega)
    have hpl := putAll_len hn k (by omega)
    have hput := spec_put_own v (putAll zs k) (zs.getD k 0) wr (own_lrow HO.out) (by rw [hpl]; omega) (fun i hi => not_at (hno hkz) hi)
    have HE : Hid (putL (putAll zs k) (zs.getD k 0) = putAll zs (k + 1)) := rfl
    rw [HE.out] at hput
    obtain ⟨x, Hx⟩ : ∃ x, Hid (zs.getD k 0 = x) := ⟨_, rfl⟩
    rw [Hx.out] at hc hput
    clear hno hpl HE
    go_wp2_with fail
    refine hput.mono ?_
    rintro e w3 ⟨v3, rfl, hO3, hB3⟩
    have O3 : Hid (Own w3 W.heap.size v3 (putAll zs (k + 1))) := own_low16 hO3 HB.out.size
    have B3 : Hid (Below W.heap.size W w3) := HB.out.trans (hB3.mono HB.out.size)
    clear hO3 hB3 hput
    go_wp2
    go_roundw
    case rel => exact ⟨k + 1, _, by omega, by go_num, rfl, O3, B3⟩
    case measure => simp [intOf]; omega
noncomputable def livB (s : Mst) (k : Nat) : Bool := @decide (Live s k) (Classical.propDecidable _)
theorem whereL_in (p : Nat → Bool) : ∀ n, (whereL p n).Pairwise (· < ·) ∧ ∀ x, x ∈ whereL p n ↔ ∃ k : Nat, x = (k : Int) ∧ k < n ∧ p k = true
  | 0 => ⟨List.Pairwise.nil, fun x => by unfold whereL; simp⟩
  | n + 1 => by
    obtain ⟨a, b⟩ := whereL_in p n
    unfold whereL
    by_cases h : p n = true
    · rw [if_pos h]
      refine ⟨?_, fun x => ?_⟩
      · rw [List.pairwise_append]
        refine ⟨a, by simp, fun y hy z hz => ?_⟩
        obtain ⟨k, e, hk, _⟩ := (b y).1 hy
        simp at hz
        omega
      · rw [List.mem_append, b x]
        constructor
        · rintro (⟨k, e, hk, hp⟩ | r)
          · exact ⟨k, e, by omega, hp⟩
          · exact ⟨n, by simpa using r, by omega, h⟩
        · rintro ⟨k, e, hk, hp⟩
          by_cases q : k = n
          · subst q; exact Or.inr (by simp [e])
          · exact Or.inl ⟨k, e, by omega, hp⟩
    · rw [if_neg h]
      refine ⟨a, fun x => ?_⟩
      rw [b x]
      constructor
      · rintro ⟨k, e, hk, hp⟩; exact ⟨k, e, by omega, hp⟩
      · rintro ⟨k, e, hk, hp⟩
        by_cases q : k = n
        · subst q; exact absurd hp h
        · exact ⟨k, e, by omega, hp⟩
/-- What was met so far. -/
structure OutL (s : Mst) (n : Nat) (zs : List Int) : Prop where
  nodup : zs.Nodup
  all : ∀ x ∈ zs, ∃ k : Nat, x = (k : Int) ∧ k < n ∧ Live s k
theorem OutL.snoc {s : Mst} {n : Nat} {zs : List Int} (h : OutL s n zs) {k : Nat} (hk : k < n) (hl : Live s k) (hn : (k : Int) ∉ zs) : OutL s n (zs ++ [(k : Int)]) := by
  refine ⟨?_, fun x hx => ?_⟩
  · rw [List.nodup_append]
    exact ⟨h.nodup, by simp, fun a ha b hb => by simp at hb; subst hb; exact fun e => hn (e ▸ ha)⟩
  · rw [List.mem_append] at hx
    rcases hx with r | r
    · exact h.all x r
    · exact ⟨k, by simpa using r, hk, hl⟩
def OkL (zs : List Int) (x : Int) : Prop := x = -1 ∨ x ∈ zs
theorem OkL.more {zs : List Int} {x : Int} (h : OkL zs x) (r : List Int) : OkL (zs ++ r) x := h.imp id (fun q => List.mem_append.2 (Or.inl q))
theorem getD_mem15 {zs : List Int} {i : Nat} (h : i < zs.length) : zs.getD i 0 ∈ zs := by
  have e : zs.getD i 0 = zs[i] := by simp [List.getD, List.getElem?_eq_getElem h]
  rw [e]; exact List.getElem_mem h
theorem out_final {s : Mst} {n : Nat} {zs : List Int} (h : OutL s n zs) (hr : ∀ j, j < 2 → OkL zs (s.rt j)) (hc : ∀ i, i < zs.length → ∀ j, j < 2 → OkL zs (s.lk (zs.getD i 0).toNat j)) : putAll zs zs.length = whereL (livB s) n := by
  obtain ⟨a, b, _⟩ := putAll_in h.nodup zs.length (Nat.le_refl _)
  obtain ⟨c, d⟩ := whereL_in (livB s) n
  have lv : ∀ k, livB s k = true ↔ Live s k := fun k => by unfold livB; exact @decide_eq_true_iff _ (Classical.propDecidable _)
  have inn : ∀ x, OkL zs x → ∀ k, From s x k → (k : Int) ∈ zs := by
    intro x hx k hf
    induction hf with
    | here k e => rcases hx with q | q
                  · omega
                  · rw [← e]; exact q
    | step k k' j _ hj e ih =>
      obtain ⟨i, hi, e2⟩ := in_at.1 ih
      have q := hc i hi j hj
      rw [e2, Int.toNat_natCast, e] at q
      rcases q with q | q
      · omega
      · exact q
  refine sorted_same15 a c (fun x => ?_)
  rw [b x, d x]
  constructor
  · rintro ⟨i, hi, e⟩
    obtain ⟨k, e2, hk, hl⟩ := h.all x (by rw [← e]; exact getD_mem15 hi)
    exact ⟨k, e2, hk, (lv k).2 hl⟩
  · rintro ⟨k, rfl, hk, hl⟩
    have hm : (k : Int) ∈ zs := by
      rcases (lv k).1 hl with q | q
      · exact inn _ (hr 0 (by decide)) k q
      · exact inn _ (hr 1 (by decide)) k q
    exact in_at.1 hm
theorem ge_dec (x : Int) (h : x = -1) : decide (x ≥ 0) = false := decide_eq_false (by omega)
set_option maxHeartbeats 16000000 in
theorem spec_livel (a : Option Addr) (n cap : Nat) (ra : Option Addr) (rc : Nat) (on : Bool) (cs : Nat → Dv) (rs : List Int) (c : Bool) (W : World) (hf : Hid (Fits shCellS (.l n 3 cs))) (h : Hid (Holds W c (.l n 3 cs) (.slice a n cap))) (hzr : Hid (rs.length = 2)) (Ir : Hid (Ints W ra rs)) (hok : Hid (MarkOk cs n rs on)) :
    Calls Try.prog 46 #[.agg #[.slice a n cap, .slice ra 2 rc, .bool on]] W fun e W' => WhereTo W (whereL (livB (stM cs rs on)) n) e W' := by
  obtain ⟨i0, hi, hz0, hz1, hz2⟩ := parts_of (P := Try.prog) (e := 3) (z := .int .i64 0) (a := 1) (b := 8) (by kernel_rfl)
  obtain ⟨X, hX⟩ : ∃ X, Hid (W.alloc (.cells #[.slice a n cap, .slice ra 2 rc, .bool on] 25) = X) := ⟨_, rfl⟩
  have HX : Hid (Below W.heap.size W X) := by show Below _ _ _; rw [← hX.out]; exact (Below.refl _ _).alloc (Nat.le_refl _) _
  have hRX := row_of W #[.slice a n cap, .slice ra 2 rc, .bool on] 25
  rw [hX.out] at hRX
  have HRX : Hid (X.rowIs W.heap.size 25 3 (rowF [.slice a n cap, .slice ra 2 rc, .bool on])) := hRX
  clear hRX
  have hn10 : n ≤ 10 := hok.out.2.2.1.2
  have hn2 : 2 ≤ n := hok.out.2.2.1.1
  obtain ⟨s, HS⟩ : ∃ s, Hid (stM cs rs on = s) := ⟨_, rfl⟩
  have HRT : Hid (∀ j, j < 2 → s.rt j = rs.getD j 0) := fun j hj => by rw [← HS.out]; rfl
  have HLK : Hid (∀ k j, s.lk k j = (mls cs k).getD j 0) := fun k j => by rw [← HS.out]; rfl
  have HRI : Hid (∀ j, j < 2 → s.rt j = -1 ∨ ∃ k : Nat, s.rt j = (k : Int) ∧ k < n) := fun j hj => by
    have q := (hok.out.2.2.2.2 j hj).1
    rw [HS.out] at q
    rcases cellB_out q with r | ⟨k, r, hk, _⟩
    · exact Or.inl r
    · exact Or.inr ⟨k, r, hk⟩
  have HLI : Hid (∀ i, i < n → ∀ j, j < 2 → s.lk i j = -1 ∨ ∃ k : Nat, s.lk i j = (k : Int) ∧ k < n) := fun i hi j hj => by
    have q := ((hok.out.2.2.2.1 i hi).2.2 j hj).1
    rw [HS.out] at q
    rcases cellB_out q with r | ⟨k, r, hk, _⟩
    · exact Or.inl r
    · exact Or.inr ⟨k, r, hk⟩
  have HML : Hid (∀ k, k < n → mln cs k = 2) := hok.out.2.1
  rw [HS.out]
  clear HS
  obtain ⟨b, o, _, _, ha, hb, _⟩ := mcell_at h.out hf.out HX.out (k := 0) (by omega)
  subst ha
  have r1 : X.cell? ⟨W.heap.size, 1, none⟩ = some (.slice ra 2 rc) := HRX.out.cell (i := 1) (by decide)
  have rl0 := HRX.out.lt
  have XW : Hid (W.heap.size < X.heap.size) := HRX.out.lt
  go_enter Try.func46, Try.ntmps46
  go_wp2_with fail
  rw [hX.out]
  clear hX
  go_wp2
  clear r1 rl0
  go_loopw [3, 12] (fun vl vi wr => ∃ (k : Nat) (v : Value) (zs : List Int), k ≤ 2 ∧ vi = .int .i64 k ∧ v = vl ∧ Hid (Own wr X.heap.size v zs) ∧ Hid (OutL s n zs) ∧ Hid (∀ j, j < k → OkL zs (s.rt j)) ∧ Hid (Below X.heap.size X wr)) (fun _ vi _ => 2 - (intOf vi).toNat)
  case atStart => exact ⟨0, _, [], Nat.zero_le _, rfl, rfl, own_nil _ _, ⟨List.nodup_nil, fun x hx => by cases hx⟩, fun j hj => by omega, Below.refl _ _⟩
  case round =>
    obtain ⟨k, v, zs, hk, rfl, rfl, HO, HOL, HG, HB⟩ := hrel
    have hwr := HB.out.size
    by_cases hlt : k < 2
    rotate_left
    · have hkd : decide ((k : Int) < 2) = false := decide_eq_false (by omega)
      have hkd2 : decide (k < 2) = false := decide_eq_false (by omega)
      have HG0 : Hid (∀ j, j < 2 → OkL zs (s.rt j)) := fun j hj => HG.out j (by omega)
      go_wp2
      go_loopw [3, 6] (fun vl vi wr => ∃ (i : Nat) (v : Value) (zs : List Int), i ≤ zs.length ∧ vi = .int .i64 i ∧ v = vl ∧ Hid (Own wr X.heap.size v zs) ∧ Hid (OutL s n zs) ∧ Hid (∀ j, j < 2 → OkL zs (s.rt j)) ∧ Hid (∀ i', i' < i → ∀ j, j < 2 → OkL zs (s.lk (zs.getD i' 0).toNat j)) ∧ Hid (Below X.heap.size X wr)) (fun _ vi _ => n - (intOf vi).toNat)
      case atStart => exact ⟨0, _, zs, Nat.zero_le _, rfl, rfl, HO, HOL, HG0, fun i' q => by omega, HB⟩
      case round =>
        clear HO HOL HG HG0 HB hwr
        obtain ⟨i, v, zs, hiz, rfl, rfl, HO, HOL, HRO, HCL, HB⟩ := hrel
        have hwr := HB.out.size
        have hzl : zs.length ≤ n := few n zs HOL.out.nodup (fun x hx => let ⟨i, e, q, _⟩ := HOL.out.all x hx; ⟨i, e, q⟩)
        obtain ⟨av, capv, rfl, hM⟩ := HO.out.mine
        have HI : Hid (Ints wr av zs) := hM.ints
        clear hM
        obtain ⟨L, HLL⟩ : ∃ L, Hid (zs.length = L) := ⟨_, rfl⟩
        rw [HLL.out] at HO hiz hzl ⊢
        by_cases hil : i < L
        rotate_left
        · have hsr := spec_sorted15 av L capv zs wr HLL HOL.out.nodup (by omega) HI
          have HFIN : Hid (putAll zs L = whereL (livB s) n) := by
            show _ = _
            rw [← HLL.out]
            exact out_final HOL.out HRO.out (fun i' hi' => HCL.out i' (by rw [HLL.out] at hi'; omega))
          rw [HFIN.out] at hsr
          have hiI : ¬ (i : Int) < (L : Int) := by omega
          have hid : decide ((i : Int) < (L : Int)) = false := decide_eq_false hiI
          go_wp2_with fail
          refine hsr.mono ?_
          rintro e w3 ⟨v3, rfl, hO3, hB3⟩
          have HA : Hid (WhereTo W (whereL (livB s) n) (.returned v3) w3) := ⟨v3, rfl, own_low16 hO3 (Nat.le_trans (Nat.le_of_lt XW.out) hwr), (HX.out.trans (HB.out.mono HX.out.size)).trans (hB3.mono (Nat.le_trans (Nat.le_of_lt XW.out) hwr))⟩
          clear hO3 hB3 hsr
          go_wp2
          go_ret
          exact HA.out
        have hilI : (i : Int) < (L : Int) := by omega
        have hin : i < n := by omega
        obtain ⟨bv, ov, hav, hxv⟩ := HI.out.at (Below.refl _ _) (k := i) (by rw [HLL.out]; exact hil)
        subst hav
        have hbv : bv < wr.heap.size := World.block_lt_of_cell? wr _ hxv
        obtain ⟨kx, ekx, hkx, hlx⟩ := HOL.out.all (zs.getD i 0) (getD_mem15 (by rw [HLL.out]; exact hil))
        have HBW : Hid (Below W.heap.size W wr) := HX.out.trans (HB.out.mono HX.out.size)
        obtain ⟨b2, o2, la, lc, ha2, hb2, c0, c1, c2, hI2⟩ := mcell_at h.out hf.out (Below.refl _ _) hkx
        have c0 := (HBW.out.cell (p := ⟨b2, o2 + kx * 3, none⟩) hb2).trans c0
        have c1 := (HBW.out.cell (p := ⟨b2, o2 + kx * 3 + 1, none⟩) hb2).trans c1
        have c2 := (HBW.out.cell (p := ⟨b2, o2 + kx * 3 + 2, none⟩) hb2).trans c2
        simp only [Option.some.injEq, Addr.mk.injEq, and_true] at ha2
        obtain ⟨rfl, rfl⟩ := ha2
        have hbw : b < wr.heap.size := by have := HBW.out.size; omega
        have HKX : Hid (zs.getD i 0 = (kx : Int)) := ekx
        have HLX : Hid (Live s kx) := hlx
        have HIK : Hid (Ints W la (mls cs kx)) := hI2
        have HKL : Hid ((mls cs kx).length = 2) := by show _ = _; rw [mls_len]; exact HML.out kx hkx
        rw [HML.out kx hkx] at c0
        rw [ekx] at hxv
        generalize mco cs kx = y at c1
        generalize mfr cs kx = z at c2
        have RB := HRX.out.of_block (HB.out.block _ XW.out)
        have m0 : wr.cell? ⟨W.heap.size, 0, none⟩ = some (.slice (some ⟨b, o, none⟩) n cap) := RB.cell (i := 0) (by decide)
        have ml := RB.lt
        have kxI : (kx : Int) < (n : Int) := by omega
        have kx0 : (0 : Int) ≤ (kx : Int) := by omega
        have ii0 : (0 : Int) ≤ (i : Int) := by omega
        clear hI2 ekx hlx RB
        go_upto_region 11 with fail
        go_quiet (fail)
        obtain ⟨V, HV⟩ : ∃ V, Hid (wr.drewN nq = V) := ⟨_, rfl⟩
        have BV : Hid (Below wr.heap.size wr V) := by show Below _ _ _; rw [← HV.out]; exact drewN_below (Below.refl _ _) nq
        rw [HV.out]
        have HOV : Hid (Own V X.heap.size (.slice (some ⟨bv, ov, none⟩) L capv) zs) := by
          have q := row_keep HO.out BV.out
          exact q
        have HBV : Hid (Below X.heap.size X V) := HB.out.trans (BV.out.mono hwr)
        clear m0 ml c0 c1 c2 hxv HV BV HO HB HBW HI hbv hbw
        go_wp2
        have HPRE : Hid (∀ i', i' < L → ∀ r : List Int, (zs ++ r).getD i' 0 = zs.getD i' 0) := fun i' hi' r => by
          have q : i' < zs.length := by rw [HLL.out]; exact hi'
          simp [List.getD, List.getElem?_append_left q]
        go_loopw [3, 45] (fun vl vj wr => ∃ (j : Nat) (v : Value) (rr : List Int), j ≤ 2 ∧ vj = .int .i64 j ∧ v = vl ∧ Hid (Own wr X.heap.size v (zs ++ rr)) ∧ Hid (OutL s n (zs ++ rr)) ∧ Hid (∀ j', j' < j → OkL (zs ++ rr) (s.lk kx j')) ∧ Hid (Below X.heap.size X wr)) (fun _ vj _ => 2 - (intOf vj).toNat)
        case atStart => exact ⟨0, _, [], by omega, rfl, rfl, by show Own _ _ _ _; rw [List.append_nil]; exact HOV.out, by show OutL _ _ _; rw [List.append_nil]; exact HOL.out, fun j' q => by omega, HBV⟩
        case round =>
          obtain ⟨j, v, rr, hj, rfl, rfl, HO, HOL2, HG2, HB⟩ := hrel
          have hwr := HB.out.size
          by_cases hjl : j < 2
          rotate_left
          · have HZL : Hid (i + 1 ≤ (zs ++ rr).length) := by show _ ≤ _; rw [List.length_append, HLL.out]; omega
            have HRO2 : Hid (∀ j, j < 2 → OkL (zs ++ rr) (s.rt j)) := fun j hj => (HRO.out j hj).more rr
            have HCL2 : Hid (∀ i', i' < i + 1 → ∀ j, j < 2 → OkL (zs ++ rr) (s.lk ((zs ++ rr).getD i' 0).toNat j)) := fun i' hi' j hj => by
              rw [HPRE.out i' (by omega) rr]
              by_cases e : i' = i
              · subst e
                rw [HKX.out, Int.toNat_natCast]
                exact HG2.out j (by omega)
              · exact (HCL.out i' (by omega) j hj).more rr
            have hjd : decide ((j : Int) < 2) = false := decide_eq_false (by omega)
            have hjd2 : decide (j < 2) = false := decide_eq_false (by omega)
            go_wp2
            go_roundw
            case rel => exact ⟨i + 1, _, zs ++ rr, HZL.out, by go_num, rfl, HO, HOL2, HRO2, HCL2, HB⟩
            case measure => simp [intOf]; omega
          have hjI : (j : Int) < 2 := by omega
          obtain ⟨b', o', hla, hx0⟩ := HIK.out.at (HX.out.trans (HB.out.mono HX.out.size)) (k := j) (by rw [HKL.out]; exact hjl)
          subst hla
          have hbw : b' < wr.heap.size := World.block_lt_of_cell? wr _ hx0
          rw [← HLK.out kx j] at hx0
          have HNX : Hid (∀ r, OkL (zs ++ rr ++ r) (s.lk kx j) → ∀ j', j' < j + 1 → OkL (zs ++ rr ++ r) (s.lk kx j')) := fun r q j' hj' => by
            by_cases e : j' = j
            · rw [e]; exact q
            · exact (HG2.out j' (by omega)).more r
          have HLV : Hid (∀ i : Nat, s.lk kx j = (i : Int) → Live s i) := fun i e => HLX.out.imp (fun f => From.step kx i j f hjl e) (fun f => From.step kx i j f hjl e)
          obtain ⟨ys, HYS⟩ : ∃ ys, Hid (zs ++ rr = ys) := ⟨_, rfl⟩
          rw [HYS.out] at HO HOL2 HG2 HNX
          have hyl : ys.length ≤ 10 := Nat.le_trans (few n ys HOL2.out.nodup (fun x hx => let ⟨i, e, q, _⟩ := HOL2.out.all x hx; ⟨i, e, q⟩)) hn10
          rcases HLI.out kx hkx j hjl with e | ⟨q, e, hq⟩
          · have HN2 : Hid (∀ j', j' < j + 1 → OkL (zs ++ rr) (s.lk kx j')) := by
              have w := HNX.out [] (Or.inl e)
              rw [List.append_nil, ← HYS.out] at w
              exact w
            rw [e] at hx0
            rw [← HYS.out] at HO HOL2
            clear HNX HLV
            go_wp2
            go_roundw
            case rel => exact ⟨j + 1, _, rr, by omega, by go_num, rfl, HO, HOL2, HN2, HB⟩
            case measure => simp [intOf]; omega
          rw [e] at hx0
          have d0 : decide ((q : Int) ≥ 0) = true := decide_eq_true (by omega)
          have d1 : decide ((0 : Int) ≤ (q : Int)) = true := decide_eq_true (by omega)
          have hcall := spec_inO X.heap.size v (q : Int) ys wr HO (by omega)
          cases hin : inB ys (q : Int)
          rotate_left
          · have HN2 : Hid (∀ j', j' < j + 1 → OkL (zs ++ rr) (s.lk kx j')) := by
              have w := HNX.out [] (Or.inr (by rw [e, List.append_nil]; exact in_out hin))
              rw [List.append_nil, ← HYS.out] at w
              exact w
            rw [hin] at hcall
            rw [← HYS.out] at HO HOL2
            clear hin HNX HLV
            go_wp2_with (go_at_call 69; refine hcall.mono ?_; rintro e w' ⟨rfl, hw⟩; rw [hw]; clear hw w')
            go_roundw
            case rel => exact ⟨j + 1, _, rr, by omega, by go_num, rfl, HO, HOL2, HN2, HB⟩
            case measure => simp [intOf]; omega
          · have HOL3 : Hid (OutL s n (zs ++ (rr ++ [(q : Int)]))) := by
              show OutL _ _ _
              rw [← List.append_assoc, HYS.out]
              exact HOL2.out.snoc hq (HLV.out q e) (in_not hin)
            have HN2 : Hid (∀ j', j' < j + 1 → OkL (zs ++ (rr ++ [(q : Int)])) (s.lk kx j')) := by
              have w := HNX.out [(q : Int)] (Or.inr (by rw [e]; simp))
              rw [← HYS.out, List.append_assoc] at w
              exact w
            rw [hin] at hcall
            clear hin HNX HLV
            go_wp2_with (first
              | (go_at_call 69; refine hcall.mono ?_; rintro e w' ⟨rfl, hw⟩; rw [hw]; clear hw w')
              | (at_builtin; refine wpList_append_own _ rfl _ _ 23 rfl X.heap.size 3 i0 (.int .i64 0) 1 8 Try.underlying23 hi hz0 hz1 hz2 rfl (by decide) _ ys.length (ys.map (Value.int .i64)) rfl (World.ownsRow.alloc HO.out _) ⟨wr.heap.size, 0, none⟩ 1 1 [.int .i64 (q : Int)] rfl rfl (new_one wr (q : Int) _) (one_of (q : Int)) (by unfold maxLen; omega) (by omega) (by simp; omega) ?_))
            intro v5 w5 hown hgrow _
            obtain ⟨p1, p2, p3⟩ := Own.snoc HO.out hwr HB.out hown hgrow
            have O5 : Hid (Own w5 X.heap.size v5 (zs ++ (rr ++ [(q : Int)]))) := by show Own _ _ _ _; rw [← List.append_assoc, HYS.out]; exact p1
            have B5 : Hid (Below X.heap.size X w5) := p2
            clear p1 p2 p3 hown hgrow
            go_wp2
            go_roundw
            case rel => exact ⟨j + 1, _, _, by omega, by go_num, rfl, O5, HOL3, HN2, B5⟩
            case measure => simp [intOf]; omega
    have hltI : (k : Int) < 2 := by omega
    obtain ⟨b', o', hra, hx0⟩ := Ir.out.at (HX.out.trans (HB.out.mono HX.out.size)) (k := k) (by rw [hzr.out]; exact hlt)
    subst hra
    have hbw : b' < wr.heap.size := World.block_lt_of_cell? wr _ hx0
    rw [← HRT.out k hlt] at hx0
    have HNX : Hid (∀ r, OkL (zs ++ r) (s.rt k) → ∀ j, j < k + 1 → OkL (zs ++ r) (s.rt j)) := fun r q j hj => by
      by_cases e : j = k
      · rw [e]; exact q
      · exact (HG.out j (by omega)).more r
    have HLV : Hid (∀ i : Nat, s.rt k = (i : Int) → Live s i) := fun i e => by
      rcases (show k = 0 ∨ k = 1 by omega) with q | q
      · subst q; exact Or.inl (From.here i e)
      · subst q; exact Or.inr (From.here i e)
    have hzl : zs.length ≤ 10 := Nat.le_trans (few n zs HOL.out.nodup (fun x hx => let ⟨i, e, q, _⟩ := HOL.out.all x hx; ⟨i, e, q⟩)) hn10
    rcases HRI.out k hlt with e | ⟨q, e, hq⟩
    · have HN2 : Hid (∀ j, j < k + 1 → OkL zs (s.rt j)) := by
        have w := HNX.out [] (Or.inl e)
        rw [List.append_nil] at w
        exact w
      rw [e] at hx0
      clear HNX HLV
      go_wp2
      go_roundw
      case rel => exact ⟨k + 1, _, zs, by omega, by go_num, rfl, HO, HOL, HN2, HB⟩
      case measure => simp [intOf]; omega
    rw [e] at hx0
    have d0 : decide ((q : Int) ≥ 0) = true := decide_eq_true (by omega)
    have d1 : decide ((0 : Int) ≤ (q : Int)) = true := decide_eq_true (by omega)
    have hcall := spec_inO X.heap.size v (q : Int) zs wr HO (by omega)
    cases hin : inB zs (q : Int)
    rotate_left
    · have HN2 : Hid (∀ j, j < k + 1 → OkL zs (s.rt j)) := by
        have w := HNX.out [] (Or.inr (by rw [e, List.append_nil]; exact in_out hin))
        rw [List.append_nil] at w
        exact w
      rw [hin] at hcall
      clear hin HNX HLV
      go_wp2_with (go_at_call 69; refine hcall.mono ?_; rintro e w' ⟨rfl, hw⟩; rw [hw]; clear hw w')
      go_roundw
      case rel => exact ⟨k + 1, _, zs, by omega, by go_num, rfl, HO, HOL, HN2, HB⟩
      case measure => simp [intOf]; omega
    · have HOL2 : Hid (OutL s n (zs ++ [(q : Int)])) := HOL.out.snoc hq (HLV.out q e) (in_not hin)
      have HN2 : Hid (∀ j, j < k + 1 → OkL (zs ++ [(q : Int)]) (s.rt j)) := HNX.out _ (Or.inr (by rw [e]; simp))
      rw [hin] at hcall
      clear hin HNX HLV
      go_wp2_with (first
        | (go_at_call 69; refine hcall.mono ?_; rintro e w' ⟨rfl, hw⟩; rw [hw]; clear hw w')
        | (at_builtin; refine wpList_append_own _ rfl _ _ 23 rfl X.heap.size 3 i0 (.int .i64 0) 1 8 Try.underlying23 hi hz0 hz1 hz2 rfl (by decide) _ zs.length (zs.map (Value.int .i64)) rfl (World.ownsRow.alloc HO.out _) ⟨wr.heap.size, 0, none⟩ 1 1 [.int .i64 (q : Int)] rfl rfl (new_one wr (q : Int) _) (one_of (q : Int)) (by unfold maxLen; omega) (by omega) (by simp; omega) ?_))
      intro v5 w5 hown hgrow _
      obtain ⟨p1, p2, p3⟩ := Own.snoc HO.out hwr HB.out hown hgrow
      have O5 : Hid (Own w5 X.heap.size v5 (zs ++ [(q : Int)])) := p1
      have B5 : Hid (Below X.heap.size X w5) := p2
      clear p1 p2 p3 hown hgrow
      go_wp2
      go_roundw
      case rel => exact ⟨k + 1, _, _, by omega, by go_num, rfl, O5, HOL2, HN2, B5⟩
      case measure => simp [intOf]; omega
end Go.Proofs.Ytokaibpkajloeaa.walks
