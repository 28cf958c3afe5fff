/-
  What the program's functions of patterns answer of a tree that is cut out; they make new memory alone.
-/
import Derived.Test.YtapbfoooflpejaaProg
import Derived.Test.YtapbfoooflpejaaMagMath
import Derived.Test.YtapbfoooflpejaaTreeMath
import Derived.Test.YtapbfoooflpejaaFitMath
import Derived.Test.YtapbfoooflpejaaFitSpec
import Derived.Test.YtapbfoooflpejaaTilesImpl
import Derived.Test.YtapbfoooflpejaaInts
import Derived.Test.YtapbfoooflpejaaOwnInts
import Derived.WalkKit
import Derived.WalkSpells
import Derived.Below
import Derived.Handy
import Derived.OwnWalk
namespace Go.Proofs.Ytapbfoooflpejaa.walks
open Go.RowKit Go.Proofs.Ytapbfoooflpejaa.math Go.Proofs.Ytapbfoooflpejaa.ints
set_option linter.unusedVariables false
set_option maxRecDepth 100000

/-- Places as seen from one. -/
def relI (a0 : Nat) (hs : List Nat) : List Int := hs.map fun (h : Nat) => (h : Int) - (a0 : Int)
theorem relI_snoc (a0 : Nat) (hs : List Nat) (h : Nat) : relI a0 (hs ++ [h]) = relI a0 hs ++ [(h : Int) - (a0 : Int)] := by simp [relI]
theorem relI_len (a0 : Nat) (hs : List Nat) : (relI a0 hs).length = hs.length := by simp [relI]
def RelAns (t p : List Int) (at0 : Nat) (W : World) (e : Ending) (W' : World) : Prop := (fitL t p at0 = none ∧ e = .returned (.tuple #[.slice none 0 0, .bool false]) ∨ ∃ hs v, fitL t p at0 = some hs ∧ hs.length ≤ 10 ∧ e = .returned (.tuple #[v, .bool true]) ∧ ints.Own W' W.heap.size v (relI at0 hs)) ∧ Below W.heap.size W W'
theorem own_low {w : World} {B B' : Nat} {v : Value} {zs : List Int} (h : ints.Own w B v zs) (hB : B' ≤ B) : ints.Own w B' v zs :=
  ⟨h.1, h.2.imp id fun ⟨g, cap, cur, a, b, r⟩ => ⟨g, cap, cur, a, Nat.le_trans hB b, r⟩⟩
set_option maxHeartbeats 4000000 in
theorem impl_shape1 (tb to sb so s at0 g kc sc : Nat) (t p : List Int) (ca : Option Addr) (len cc : Nat) (W : World) (hT : Hid (∀ i, i < s → W.cell? ⟨tb, to + i, none⟩ = some (.int .i64 (t.getD (at0 + i) 0)))) (hS : Hid (∀ i, i < s → W.cell? ⟨sb, so + i, none⟩ = some (.int .i64 (szT false t (at0 + i) : Int)))) (htb : tb < W.heap.size) (hsb : sb < W.heap.size) (hg : g < W.heap.size) (hbox : W.cell? ⟨g, 0, none⟩ = some (.slice ca len cc))
    (hp : Hid (Ints W ca p)) (hzp : Hid (p.length = len)) (hlp : len ≤ 10) (ht : Hid (wholeB false t = true)) (hw : Hid (wholeB true p = true)) (hat : at0 < t.length) (hlen : t.length ≤ 40) (hs : Hid (szT false t at0 = s)) :
    Calls Try.prog 54 #[.agg #[.slice (some ⟨tb, to, none⟩) s kc, .slice (some ⟨sb, so, none⟩) s sc], .pointer (some ⟨g, 0, none⟩)] W fun e W' => RelAns t p at0 W e W' := by
  obtain ⟨i0, hi, hz0, hz1, hz2⟩ := info_parts row_info
  have hs40 : s ≤ 40 := by
    have := (sz_le (whole_each ht.out hat) (by omega)).2
    rw [hs.out] at this
    omega
  go_enter Try.func54, Try.ntmps54
  go_wp2_with fail
  go_loopw [5, 6, 11] (fun vh va vi wr => ∃ (j q n : Nat) (hl : List Nat) (v : Value), j ≤ len ∧ vi = .int .i64 (j : Int) ∧ va = .int .i64 (q : Int) ∧ vh = v ∧ q ≤ s ∧ hl.length ≤ j ∧ Hid (FitI t p (at0 + szT false t at0) j (at0 + q) n) ∧ Hid (Gath t p at0 j (at0 + q) hl) ∧ Hid (ints.Own wr (W.heap.size + 1) v (relI at0 hl)) ∧ Hid (Below (W.heap.size + 1) (W.alloc (.cells #[.slice (some ⟨tb, to, none⟩) s kc, .slice (some ⟨sb, so, none⟩) s sc] 53)) wr)) (fun _ _ vi _ => len - (intOf vi).toNat)
  case atStart => exact ⟨0, 0, 1, [], _, Nat.zero_le _, rfl, rfl, rfl, by omega, Nat.zero_le _, fit_start ht.out hw.out hat, gath_start _ _ _, ints.own_nil _ _, Below.refl _ _⟩
  case round =>
    obtain ⟨j, q, n, hl, v, hj, rfl, rfl, hvt, hql, hhl, HF, HG, HO, HB⟩ := hrel
    have hvt := hvt.symm
    subst hvt
    have hws := HB.out.size
    simp only [World.size_alloc] at hws
    have HBW : Hid (Below W.heap.size W wr) := ((Below.refl _ W).alloc (Nat.le_refl _) _).trans (HB.out.mono (by omega))
    have x0 : wr.cell? ⟨W.heap.size, 0, none⟩ = some (.slice (some ⟨tb, to, none⟩) s kc) := (HB.out.cell (p := ⟨W.heap.size, 0, none⟩) (by show W.heap.size < _; omega)).trans (by simp)
    have x1 : wr.cell? ⟨W.heap.size, 1, none⟩ = some (.slice (some ⟨sb, so, none⟩) s sc) := (HB.out.cell (p := ⟨W.heap.size, 1, none⟩) (by show W.heap.size < _; omega)).trans (by simp)
    by_cases hlt : j < len
    · obtain ⟨b, off, ha, hc⟩ := hp.out.at HBW.out (k := j) (by rw [hzp.out]; exact hlt)
      subst ha
      obtain ⟨m, rfl, hpE⟩ := HF.out.pos (by rw [hzp.out]; exact hlt)
      have hEl := HF.out.end_le
      rw [hs.out] at hpE hEl
      have hqs : q < s := by omega
      have htc := (HBW.out.cell (p := ⟨tb, to + q, none⟩) htb).trans (hT.out q hqs)
      have hsc := (HBW.out.cell (p := ⟨sb, so + q, none⟩) hsb).trans (hS.out q hqs)
      obtain ⟨k, hk⟩ : ∃ k, Hid (p.getD j 0 = k) := ⟨_, rfl⟩
      obtain ⟨x, hx⟩ : ∃ x, Hid (t.getD (at0 + q) 0 = x) := ⟨_, rfl⟩
      rw [hk.out] at hc
      rw [hx.out] at htc
      have hqsI : (q : Int) < (s : Int) := by omega
      have hltI : (j : Int) < (len : Int) := by omega
      by_cases k0 : k = 0
      · have hk0 : p.getD j 0 = 0 := by rw [hk.out]; exact k0
        have HF2 := (HF.out.any (by rw [hzp.out]; exact hlt) hk0)
        have hle := HF2.1.le
        have HF3 : Hid (FitI t p (at0 + szT false t at0) (j + 1) (at0 + q + szT false t (at0 + q)) m) := HF2.1
        have HG3 : Hid (Gath t p at0 (j + 1) (at0 + q + szT false t (at0 + q)) (hl ++ [at0 + q])) := HG.out.any (by rw [hzp.out]; exact hlt) hk0
        obtain ⟨sp, hsp⟩ : ∃ sp, Hid (szT false t (at0 + q) = sp) := ⟨_, rfl⟩
        rw [hsp.out] at hle HF3 HG3 hsc
        rw [hs.out] at hle
        clear HF2
        subst k0
        go_wp2_with (first
          | (at_builtin; refine wpList_append_own _ rfl _ _ 22 rfl (W.heap.size + 1) 3 i0 (.int .i64 0) 1 8 Try.underlying22 hi hz0 hz1 hz2 rfl (by decide) _ _ _ rfl (World.ownsRow.alloc HO.out _) ⟨wr.heap.size, 0, none⟩ 1 1 [.int .i64 (q : Int)] rfl rfl ?c1 ?c2 ?c3 ?c4 ?c5 ?_)
          | fail)
        case c2 => rfl
        case c3 => rw [relI_len]; unfold maxLen; omega
        case c4 => rw [relI_len]; omega
        case c5 => omega
        intro v2 w2 hown hgrow _
        obtain ⟨o1, o2, o3⟩ := ints.Own.snoc HO.out (by omega) HB.out hown hgrow
        have HO2 : Hid (ints.Own w2 (W.heap.size + 1) v2 (relI at0 (hl ++ [at0 + q]))) := by
          show ints.Own _ _ _ _
          rw [relI_snoc, show ((at0 + q : Nat) : Int) - (at0 : Int) = (q : Int) by omega]
          exact o1
        have HB2 : Hid (Below (W.heap.size + 1) (W.alloc (.cells #[.slice (some ⟨tb, to, none⟩) s kc, .slice (some ⟨sb, so, none⟩) s sc] 53)) w2) := o2
        have x1 : w2.cell? ⟨W.heap.size, 1, none⟩ = some (.slice (some ⟨sb, so, none⟩) s sc) := (o2.cell (p := ⟨W.heap.size, 1, none⟩) (by show W.heap.size < _; omega)).trans (by simp)
        have hsc2 : w2.cell? ⟨sb, so + q, none⟩ = some (.int .i64 (sp : Int)) := by
          have e1 := o2.cell (p := ⟨sb, so + q, none⟩) (by show sb < _; omega)
          have e2 := HB.out.cell (p := ⟨sb, so + q, none⟩) (by show sb < _; omega)
          rw [e1, ← e2]
          exact hsc
        have hqN : at0 + q + sp = at0 + (q + sp) := by omega
        rw [hqN] at HF3 HG3
        clear hown hgrow o1 o2 hsc htc x0
        go_wp2
        go_roundw
        case rel => exact ⟨j + 1, q + sp, m, hl ++ [at0 + q], v2, by omega, by go_num, by go_num, rfl, by omega, by simp; omega, HF3, HG3, HO2, HB2⟩
        case measure => simp [intOf]; omega
      · have hk0 : p.getD j 0 ≠ 0 := by rw [hk.out]; exact k0
        have d0 : (k == 0) = false := by simpa using k0
        by_cases hxk : k = x
        · have hxe : t.getD (at0 + q) 0 = p.getD j 0 := by rw [hx.out, hk.out]; exact hxk.symm
          obtain ⟨n2, hF2⟩ := HF.out.kind (by rw [hzp.out]; exact hlt) hk0 hxe
          have HF2 : Hid (FitI t p (at0 + szT false t at0) (j + 1) (at0 + (q + 1)) n2) := hF2
          have HG2 : Hid (Gath t p at0 (j + 1) (at0 + (q + 1)) hl) := HG.out.kind (by rw [hzp.out]; exact hlt) hk0 hxe
          subst hxk
          clear hF2 hxe hk0
          go_wp2
          go_roundw
          case rel => exact ⟨j + 1, q + 1, n2, hl, v, by omega, by go_num, by go_num, rfl, by omega, by omega, HF2, HG2, HO, HB⟩
          case measure => simp [intOf]; omega
        · have HN : Hid (fitL t p at0 = none) := HG.out.none (by rw [hzp.out]; exact hlt) hk0 (by rw [hx.out, hk.out]; exact fun e => hxk e.symm)
          have d1 : (k == x) = false := by simpa using hxk
          have d2 : decide (k = x) = false := decide_eq_false hxk
          clear hk0
          go_wp2
          go_ret2
          exact ⟨Or.inl ⟨HN.out, rfl⟩, HBW.out⟩
    · have hjl : j = p.length := by rw [hzp.out]; omega
      have HD : Hid (fitL t p at0 = some hl) := by
        have := HG.out
        rw [hjl] at this
        exact this.done
      clear hjl
      go_wp2
      go_ret2
      exact ⟨Or.inr ⟨hl, v, HD.out, by omega, rfl, own_low HO.out (by omega)⟩, HBW.out⟩
end Go.Proofs.Ytapbfoooflpejaa.walks
