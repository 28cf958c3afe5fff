/-
  What the specification's l9Fits and FitsAt answer; they make new memory alone.
-/
import Derived.Test.YtapbfoooflpejaaProg
import Derived.Test.YtapbfoooflpejaaMagMath
import Derived.Test.YtapbfoooflpejaaTreeMath
import Derived.Test.YtapbfoooflpejaaFitMath
import Derived.Test.YtapbfoooflpejaaTreeBase
import Derived.Test.YtapbfoooflpejaaTreeSpec
import Derived.Test.YtapbfoooflpejaaPatSpec
import Derived.Test.YtapbfoooflpejaaInts
import Derived.Test.YtapbfoooflpejaaOwnInts
import Derived.Test.YtapbfoooflpejaaPats
import Derived.WalkKit
import Derived.WalkSpells
import Derived.Below
import Derived.Handy
import Derived.OwnWalk
namespace Go.Proofs.Ytapbfoooflpejaa.walks
open Go.RowKit Go.Proofs.Ytapbfoooflpejaa.math Go.Proofs.Ytapbfoooflpejaa.ints
set_option linter.unusedVariables false
set_option maxRecDepth 100000

/-- Places as ints. -/
def asI (hs : List Nat) : List Int := hs.map fun (h : Nat) => (h : Int)
theorem asI_snoc (hs : List Nat) (h : Nat) : asI (hs ++ [h]) = asI hs ++ [(h : Int)] := by simp [asI]
theorem asI_len (hs : List Nat) : (asI hs).length = hs.length := by simp [asI]
/-- What a call of l9Fits answers. -/
def FitAns (t p : List Int) (at0 : Nat) (W : World) (e : Ending) (W' : World) : Prop := (fitL t p at0 = none ∧ e = .returned (.tuple #[.slice none 0 0, .bool false]) ∨ ∃ hs v, fitL t p at0 = some hs ∧ e = .returned (.tuple #[v, .bool true]) ∧ Own W' W.heap.size v (asI hs)) ∧ Below W.heap.size W W'
set_option maxHeartbeats 4000000 in
theorem spec_fits (ta : Option Addr) (tl tc at0 : Nat) (t : List Int) (ca : Option Addr) (len cc : Nat) (c : Int) (p : List Int) (W : World) (hz : Hid (t.length = tl)) (hlen : tl ≤ 40) (hzp : Hid (p.length = len)) (hlp : len ≤ 10) (h : Hid (Ints W ta t)) (hp : Hid (Ints W ca p)) (ht : Hid (wholeB false t = true)) (hw : Hid (wholeB true p = true)) (hat : at0 < tl) :
    Calls Try.prog 36 #[.slice ta tl tc, .int .i64 (at0 : Int), .agg #[.slice ca len cc, .int .i64 c]] W fun e W' => FitAns t p at0 W e W' := by
  obtain ⟨i0, hi, hz0, hz1, hz2⟩ := info_parts row_info
  go_enter Try.func36, Try.ntmps36
  go_wp2_with fail
  go_loopw [1, 8, 14] (fun va vh vi wr => ∃ (j pos n : Nat) (hs : List Nat) (v : Value), j ≤ len ∧ vi = .int .i64 (j : Int) ∧ va = .int .i64 (pos : Int) ∧ vh = v ∧ pos ≤ tl ∧ hs.length ≤ j ∧ Hid (FitI t p (at0 + szT false t at0) j pos n) ∧ Hid (Gath t p at0 j pos hs) ∧ Hid (Own wr W.heap.size v (asI hs)) ∧ Hid (Below W.heap.size W wr)) (fun _ _ vi _ => len - (intOf vi).toNat)
  case atStart => exact ⟨0, at0, 1, [], _, Nat.zero_le _, rfl, rfl, rfl, by omega, Nat.zero_le _, fit_start ht.out hw.out (by rw [hz.out]; exact hat), gath_start _ _ _, own_nil _ _, by show Below _ _ _; repeat (first | exact Below.refl _ _ | refine Below.drew ?_ | refine Below.setCell ?_ (by simp; try omega) _ | refine Below.alloc ?_ (by simp; try omega) _)⟩
  case round =>
    obtain ⟨j, pos, n, hs, v, hj, rfl, rfl, hvt, hpl, hhl, HF, HG, HO, HB⟩ := hrel
    have hvt := hvt.symm
    subst hvt
    have hws := HB.out.size
    by_cases hlt : j < len
    · obtain ⟨b, off, ha, hc⟩ := hp.out.at HB.out (k := j) (by rw [hzp.out]; exact hlt)
      subst ha
      obtain ⟨m, rfl, hpE⟩ := HF.out.pos (by rw [hzp.out]; exact hlt)
      have hEl := HF.out.end_le
      have hpt : pos < tl := by have := hz.out; omega
      obtain ⟨tb, toff, hta, htc⟩ := h.out.at HB.out (k := pos) (by rw [hz.out]; exact hpt)
      subst hta
      obtain ⟨k, hk⟩ : ∃ k, Hid (p.getD j 0 = k) := ⟨_, rfl⟩
      obtain ⟨x, hx⟩ : ∃ x, Hid (t.getD pos 0 = x) := ⟨_, rfl⟩
      rw [hk.out] at hc
      rw [hx.out] at htc
      have hptI : (pos : Int) < (tl : Int) := by omega
      have hltI : (j : Int) < (len : Int) := by omega
      by_cases k0 : k = 0
      · have hk0 : p.getD j 0 = 0 := by rw [hk.out]; exact k0
        have HF2 := (HF.out.any (by rw [hzp.out]; exact hlt) hk0)
        have hsz := sz_le HF2.2 (by rw [hz.out]; omega)
        have HE : Hid (endT false t pos = pos + szT false t pos) := by show _ = _; unfold endT; rw [HF2.2]
        have HF3 : Hid (FitI t p (at0 + szT false t at0) (j + 1) (pos + szT false t pos) m) := HF2.1
        have HG3 : Hid (Gath t p at0 (j + 1) (pos + szT false t pos) (hs ++ [pos])) := HG.out.any (by rw [hzp.out]; exact hlt) hk0
        obtain ⟨sp, hsp⟩ : ∃ sp, Hid (szT false t pos = sp) := ⟨_, rfl⟩
        rw [hsp.out] at hsz HE HF3 HG3
        have hsz2 := hsz.2
        rw [hz.out] at hsz2
        clear HF2 hsz
        subst k0
        go_wp2_with (first
          | (at_builtin; refine wpList_append_own _ rfl _ _ 22 rfl W.heap.size 3 i0 (.int .i64 0) 1 8 Try.underlying22 hi hz0 hz1 hz2 rfl (by decide) _ _ _ rfl (World.ownsRow.alloc HO.out _) ⟨wr.heap.size, 0, none⟩ 1 1 [.int .i64 (pos : Int)] rfl rfl ?c1 ?c2 ?c3 ?c4 ?c5 ?_)
          | fail)
        case c2 => rfl
        case c3 => rw [asI_len]; unfold maxLen; omega
        case c4 => rw [asI_len]; omega
        case c5 => omega
        intro v2 w2 hown hgrow _
        obtain ⟨o1, o2, o3⟩ := Own.snoc HO.out hws HB.out hown hgrow
        have HO2 : Hid (Own w2 W.heap.size v2 (asI (hs ++ [pos]))) := by rw [asI_snoc]; exact o1
        have HB2 : Hid (Below W.heap.size W w2) := o2
        clear hown hgrow o1 o2
        go_wp2_with fail
        refine (spec_end _ _ _ pos false t _ hz (by omega) (by omega) (h.out.kept HB2.out)).mono ?_
        rw [HE.out]
        rintro e w' ⟨rfl, hw'⟩
        rw [hw']
        clear hw' w'
        go_wp2
        go_roundw
        case rel => exact ⟨j + 1, pos + sp, m, hs ++ [pos], v2, by omega, by go_num, rfl, rfl, by omega, by simp; omega, HF3, HG3, HO2, HB2⟩
        case measure => simp [intOf]; omega
      · have hk0 : p.getD j 0 ≠ 0 := by rw [hk.out]; exact k0
        have d0 : (k == 0) = false := by simpa using k0
        by_cases hxk : x = k
        · have hxe : t.getD pos 0 = p.getD j 0 := by rw [hx.out, hk.out]; exact hxk
          obtain ⟨n2, hF2⟩ := HF.out.kind (by rw [hzp.out]; exact hlt) hk0 hxe
          have HF2 : Hid (FitI t p (at0 + szT false t at0) (j + 1) (pos + 1) n2) := hF2
          have HG2 : Hid (Gath t p at0 (j + 1) (pos + 1) hs) := HG.out.kind (by rw [hzp.out]; exact hlt) hk0 hxe
          subst hxk
          clear hF2 hxe hk0
          go_wp2
          go_roundw
          case rel => exact ⟨j + 1, pos + 1, n2, hs, v, by omega, by go_num, by go_num, rfl, by omega, by omega, HF2, HG2, HO, HB⟩
          case measure => simp [intOf]; omega
        · have HN : Hid (fitL t p at0 = none) := HG.out.none (by rw [hzp.out]; exact hlt) hk0 (by rw [hx.out, hk.out]; exact hxk)
          have d1 : (x == k) = false := by simpa using hxk
          have d2 : decide (x = k) = false := decide_eq_false hxk
          clear hk0
          go_wp2
          go_ret2
          exact ⟨Or.inl ⟨HN.out, rfl⟩, HB.out⟩
    · have hjl : j = p.length := by rw [hzp.out]; omega
      have HD : Hid (fitL t p at0 = some hs) := by
        have := HG.out
        rw [hjl] at this
        exact this.done
      clear hjl
      go_wp2
      go_ret2
      exact ⟨Or.inr ⟨hs, v, HD.out, rfl, HO.out⟩, HB.out⟩
end Go.Proofs.Ytapbfoooflpejaa.walks
