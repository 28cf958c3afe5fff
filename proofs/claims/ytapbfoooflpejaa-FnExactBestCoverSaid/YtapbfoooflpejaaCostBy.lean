/-
  What the program's costBy answers: the least costs with one pattern at a place, by what is known of the places behind it.
-/
import Derived.Test.YtapbfoooflpejaaProg
import Derived.Test.YtapbfoooflpejaaBestMath
import Derived.Test.YtapbfoooflpejaaCoverImpl
namespace Go.Proofs.Ytapbfoooflpejaa.walks
open Go.RowKit Go.Proofs.Ytapbfoooflpejaa.math Go.Proofs.Ytapbfoooflpejaa.ints
set_option linter.unusedVariables false
set_option maxRecDepth 100000

/-- What is known, in memory. -/
def LeastIn (w : World) (lg n : Nat) (s : Bs) : Prop := lg < w.heap.size ∧ ∀ i, i < n → w.cell? ⟨lg, i * 2, none⟩ = some (.int .i64 ((s i).1 : Int)) ∧ w.cell? ⟨lg, i * 2 + 1, none⟩ = some (.int .i64 (s i).2)
theorem LeastIn.kept {w w' : World} {lg n : Nat} {s : Bs} (h : LeastIn w lg n s) (hb : Below w.heap.size w w') : LeastIn w' lg n s := ⟨Nat.lt_of_lt_of_le h.1 hb.size, fun i hi => ⟨(hb.cell (p := ⟨lg, i * 2, none⟩) h.1).trans (h.2 i hi).1, (hb.cell (p := ⟨lg, i * 2 + 1, none⟩) h.1).trans (h.2 i hi).2⟩⟩
/-- What a call of costBy answers. -/
def CbAns (o : Option Int) (W : World) (e : Ending) (W' : World) : Prop := e = .returned (.tuple #[.int .i64 (o.getD 0), .bool o.isSome]) ∧ Below W.heap.size W W'
theorem drop_nat {hs : List Nat} {j : Nat} (h : j < hs.length) : hs.drop j = hs.getD j 0 :: hs.drop (j + 1) := by
  rw [List.drop_eq_getElem_cons h]
  simp [List.getD, h]
set_option maxHeartbeats 8000000 in
theorem impl_costby (t : List Int) (tl tb to tc sb : Nat) (gv : Option Addr) (n gc : Nat) (f : Nat → Pv) (G : Nat → Nat) (k at0 lg : Nat) (s : Bs) (W : World) (hz : Hid (t.length = tl)) (ht : Hid (TreeIn W t tb to tc sb 0 t.length)) (hT : Hid (TilesM W gv n f G)) (hg : Hid (GoodPs f n)) (hn : n ≤ 12) (hk : k < n) (hat : at0 < tl) (hL : Hid (LeastIn W lg tl s)) (hbd : Hid (Bnd t s)) :
    Calls Try.prog 40 #[.agg #[.slice (some ⟨tb, to, none⟩) tl tc, .slice (some ⟨sb, 0, none⟩) tl tl, .slice gv n gc], .int .i64 (k : Int), .int .i64 (at0 : Int), .slice (some ⟨lg, 0, none⟩) tl tl] W fun e W' => CbAns (costB t f s k at0) W e W' := by
  have hw := ht.out.whole
  have ht40 : tl ≤ 40 := by have := ht.out.le; have := hz.out; omega
  obtain ⟨gl, gz, gw, gc0, gc1⟩ := hg.out k hk
  obtain ⟨w1, hw1⟩ : ∃ w1, Hid (W.alloc (.cells #[.slice (some ⟨tb, to, none⟩) tl tc, .slice (some ⟨sb, 0, none⟩) tl tl, .slice gv n gc] 56) = w1) := ⟨_, rfl⟩
  have HB1 : Hid (Below W.heap.size W w1) := by show Below _ _ _; rw [← hw1.out]; repeat (first | exact Below.refl _ _ | refine Below.drew ?_ | refine Below.setCell ?_ (by simp; try omega) _ | refine Below.alloc ?_ (by simp; try omega) _)
  have hs1 : w1.heap.size = W.heap.size + 1 := by rw [← hw1.out]; simp
  have b0 : w1.cell? ⟨W.heap.size, 0, none⟩ = some (.slice (some ⟨tb, to, none⟩) tl tc) := by rw [← hw1.out]; go_simp
  have b1 : w1.cell? ⟨W.heap.size, 1, none⟩ = some (.slice (some ⟨sb, 0, none⟩) tl tl) := by rw [← hw1.out]; go_simp
  have b2 : w1.cell? ⟨W.heap.size, 2, none⟩ = some (.slice gv n gc) := by rw [← hw1.out]; go_simp
  obtain ⟨gb, hgv, hgb, hgc⟩ := (hT.out.kept HB1.out).row (by omega)
  subst hgv
  obtain ⟨t0, t1, t2⟩ := hgc k hk
  obtain ⟨hGl, ka, kc, hbox, hIk⟩ := (hT.out.kept HB1.out).box k hk
  have HTI : Hid (TreeIn w1 t tb to tc sb 0 t.length) := ht.out.kept HB1.out
  have HIK : Hid (Ints w1 ka (f k).zs) := hIk
  have HLI : Hid (LeastIn w1 lg tl s) := hL.out.kept HB1.out
  have hknI : (k : Int) < (n : Int) := by omega
  have hatI : (at0 : Int) < (tl : Int) := by omega
  have HCB : Hid (∀ o, fitL t (f k).zs at0 = o → costB t f s k at0 = o.bind fun hs => sumW s hs (f k).c) := fun o ho => by unfold costB; rw [ho]
  obtain ⟨nm, hnm⟩ : ∃ nm : Int, Hid ((namedTo (f k).zs (f k).zs.length : Int) = nm) := ⟨_, rfl⟩
  obtain ⟨ck, hck⟩ : ∃ ck : Int, Hid ((f k).c = ck) := ⟨_, rfl⟩
  rw [hnm.out] at t2
  rw [hck.out] at t1 gc0 gc1 HCB
  clear hgc hIk
  have HTD : Hid (TreeIn w1.drew t tb to tc sb 0 tl) := by have := HTI.out.kept (Below.refl _ _).drew; rw [hz.out] at this; exact this
  have HID : Hid (Ints w1.drew ka (f k).zs) := HIK.out.kept (Below.refl _ _).drew
  have HBD : Hid (w1.drew.cell? ⟨G k, 0, none⟩ = some (.slice ka (f k).zs.length kc)) := hbox
  have q1 := And.intro (And.intro b0 (And.intro b1 b2)) (And.intro t0 (And.intro t1 t2))
  have q2 : ((fun w' => (w'.cell? ⟨W.heap.size, 0, none⟩ = some (.slice (some ⟨tb, to, none⟩) tl tc) ∧ w'.cell? ⟨W.heap.size, 1, none⟩ = some (.slice (some ⟨sb, 0, none⟩) tl tl) ∧ w'.cell? ⟨W.heap.size, 2, none⟩ = some (.slice (some ⟨gb, 0, none⟩) n gc)) ∧ (w'.cell? ⟨gb, k * 3, none⟩ = some (.func (.func 54) #[] #[.pointer (some ⟨G k, 0, none⟩)]) ∧ w'.cell? ⟨gb, k * 3 + 1, none⟩ = some (.int .i64 ck) ∧ w'.cell? ⟨gb, k * 3 + 2, none⟩ = some (.int .i64 nm))) w1.drew : Prop) := q1
  clear hbox
  cases hf : fitL t (f k).zs at0 with
  | none =>
    have HE : Hid (costB t f s k at0 = none) := HCB.out _ hf
    go_enter Try.func40, Try.ntmps40
    go_wp2_with fail
    rw [hw1.out]
    go_region_held3 (fun w' => (w'.cell? ⟨W.heap.size, 0, none⟩ = some (.slice (some ⟨tb, to, none⟩) tl tc) ∧ w'.cell? ⟨W.heap.size, 1, none⟩ = some (.slice (some ⟨sb, 0, none⟩) tl tl) ∧ w'.cell? ⟨W.heap.size, 2, none⟩ = some (.slice (some ⟨gb, 0, none⟩) n gc)) ∧ (w'.cell? ⟨gb, k * 3, none⟩ = some (.func (.func 54) #[] #[.pointer (some ⟨G k, 0, none⟩)]) ∧ w'.cell? ⟨gb, k * 3 + 1, none⟩ = some (.int .i64 ck) ∧ w'.cell? ⟨gb, k * 3 + 2, none⟩ = some (.int .i64 nm))) (first | assumption | exact q1 | exact q2 | exact q3 | go_keep) (first
      | (go_at_call 41; refine (holes_none hf tb to tc sb 0 tl tl (G k) ck nm ka (f k).zs.length kc _ HTD hz hat hGl HBD.out HID rfl gl gw).mono ?_; rintro e w2 ⟨rfl, hB⟩; have q3 := And.intro (And.intro ((hB.cell (p := ⟨W.heap.size, 0, none⟩) (by show W.heap.size < w1.heap.size; omega)).trans b0) (And.intro ((hB.cell (p := ⟨W.heap.size, 1, none⟩) (by show W.heap.size < w1.heap.size; omega)).trans b1) ((hB.cell (p := ⟨W.heap.size, 2, none⟩) (by show W.heap.size < w1.heap.size; omega)).trans b2))) (And.intro ((hB.cell (p := ⟨gb, k * 3, none⟩) hgb).trans t0) (And.intro ((hB.cell (p := ⟨gb, k * 3 + 1, none⟩) hgb).trans t1) ((hB.cell (p := ⟨gb, k * 3 + 2, none⟩) hgb).trans t2))); have HB2 : Hid (Below W.heap.size W w2) := HB1.out.drew.trans (hB.mono (by show W.heap.size ≤ w1.heap.size; omega)); clear hB))
    go_wp2
    go_ret2
    exact ⟨by rw [HE.out]; rfl, HB2.out⟩
  | some hs =>
    have HE : Hid (costB t f s k at0 = sumW s hs ck) := HCB.out _ hf
    have hin := fit_behind hw gw (by rw [hz.out]; exact hat) gz hf
    have hless := fit_less hw gw (by rw [hz.out]; exact hat) gz hf
    have hsa := (sz_le (whole_each hw (by rw [hz.out]; exact hat)) (by rw [hz.out]; exact Nat.le_of_lt hat)).2
    have HSZ : Hid (szS t hs ≤ 40) := by show _ ≤ _; have := hz.out; omega
    have HIN : Hid (∀ h ∈ hs, h < tl) := fun x hx => by have := (hin x hx).2.2; rw [hz.out] at this; exact this
    have hhl := open_len hw hs (fun x hx => (hin x hx).2.2)
    have hh40 : hs.length ≤ 40 := by have := HSZ.out; omega
    clear hin hless hsa hhl
    obtain ⟨m, hm⟩ : ∃ m, Hid (hs.length = m) := ⟨_, rfl⟩
    rw [hm.out] at hh40
    go_enter Try.func40, Try.ntmps40
    go_wp2_with fail
    rw [hw1.out]
    go_region_held3 (fun w' => (w'.cell? ⟨W.heap.size, 0, none⟩ = some (.slice (some ⟨tb, to, none⟩) tl tc) ∧ w'.cell? ⟨W.heap.size, 1, none⟩ = some (.slice (some ⟨sb, 0, none⟩) tl tl) ∧ w'.cell? ⟨W.heap.size, 2, none⟩ = some (.slice (some ⟨gb, 0, none⟩) n gc)) ∧ (w'.cell? ⟨gb, k * 3, none⟩ = some (.func (.func 54) #[] #[.pointer (some ⟨G k, 0, none⟩)]) ∧ w'.cell? ⟨gb, k * 3 + 1, none⟩ = some (.int .i64 ck) ∧ w'.cell? ⟨gb, k * 3 + 2, none⟩ = some (.int .i64 nm))) (first | assumption | exact q1 | exact q2 | exact q3 | go_keep) (first
      | (go_at_call 41; refine (holes_some hf tb to tc sb 0 tl tl (G k) ck nm ka (f k).zs.length kc _ HTD hz hat hGl HBD.out HID rfl gl gw).mono ?_; rw [hm.out]; rintro e w2 ⟨ha, hcp, rfl, hMh, hB⟩; have HLL : Hid (LeastIn w2 lg tl s) := HLI.out.kept ((Below.refl _ _).drew.trans hB); have HMH : Hid (Ints w2 ha (asI hs)) := hMh.ints; clear hMh; have q3 := And.intro (And.intro ((hB.cell (p := ⟨W.heap.size, 0, none⟩) (by show W.heap.size < w1.heap.size; omega)).trans b0) (And.intro ((hB.cell (p := ⟨W.heap.size, 1, none⟩) (by show W.heap.size < w1.heap.size; omega)).trans b1) ((hB.cell (p := ⟨W.heap.size, 2, none⟩) (by show W.heap.size < w1.heap.size; omega)).trans b2))) (And.intro ((hB.cell (p := ⟨gb, k * 3, none⟩) hgb).trans t0) (And.intro ((hB.cell (p := ⟨gb, k * 3 + 1, none⟩) hgb).trans t1) ((hB.cell (p := ⟨gb, k * 3 + 2, none⟩) hgb).trans t2))); have HB2 : Hid (Below W.heap.size W w2) := HB1.out.drew.trans (hB.mono (by show W.heap.size ≤ w1.heap.size; omega)); clear hB))
    have b2' := q3.1.2.2
    have t1' := q3.2.2.1
    clear q1 q2 q3 b0 b1 b2 t0 t1 t2
    go_wp2
    go_loop [12, 37] (fun vc vj => ∃ (j : Nat) (c : Int), j ≤ m ∧ vj = .int .i64 (j : Int) ∧ vc = .int .i64 c ∧ Hid (sumW s hs ck = sumW s (hs.drop j) c) ∧ 0 ≤ c ∧ c + 100 * (szS t (hs.drop j) : Int) ≤ 10000) (fun _ vj => m - (intOf vj).toNat)
    case atStart => exact ⟨0, ck, Nat.zero_le _, rfl, rfl, rfl, by omega, by have := HSZ.out; rw [List.drop_zero]; omega⟩
    case round =>
      obtain ⟨j, c, hj, rfl, rfl, HSW, c0, c1⟩ := hrel
      by_cases hjm : j < m
      rotate_left
      · have HF : Hid (costB t f s k at0 = some c) := by show _ = _; rw [HE.out, HSW.out, List.drop_of_length_le (by rw [hm.out]; omega)]; rfl
        clear c1
        go_wp2
        go_ret2
        exact ⟨by rw [HF.out]; rfl, HB2.out⟩
      have hjI : (j : Int) < (m : Int) := by omega
      have hd := drop_nat (hs := hs) (j := j) (by rw [hm.out]; exact hjm)
      obtain ⟨ab, ao, hae, cH⟩ := HMH.out.at (Below.refl _ _) (k := j) (by rw [asI_len, hm.out]; exact hjm)
      subst hae
      rw [asI_get hs j (by rw [hm.out]; exact hjm)] at cH
      have hmem : hs.getD j 0 ∈ hs := by
        have e : hs.getD j 0 = hs[j]'(by rw [hm.out]; exact hjm) := by simp [List.getD, show j < hs.length by rw [hm.out]; exact hjm]
        rw [e]; exact List.getElem_mem _
      have hxl := HIN.out _ hmem
      obtain ⟨x, hx⟩ : ∃ x, Hid (hs.getD j 0 = x) := ⟨_, rfl⟩
      rw [hx.out] at cH hxl hd
      rw [hd] at HSW c1
      rw [szS_cons] at c1
      have hxI : (x : Int) < (tl : Int) := by omega
      have hbx := hbd.out x (by rw [hz.out]; exact hxl)
      have cL := (HLL.out.2 x hxl).2
      have HN0 : Hid ((s x).2 = 0 → costB t f s k at0 = none) := fun q => by rw [HE.out, HSW.out]; simp only [sumW]; rw [if_pos q]
      have HN1 : Hid ((s x).2 ≠ 0 → sumW s hs ck = sumW s (hs.drop (j + 1)) (c + (s x).2)) := fun q => by rw [HSW.out]; simp only [sumW]; rw [if_neg q]
      obtain ⟨sx, hsx⟩ : ∃ sx, Hid ((s x).2 = sx) := ⟨_, rfl⟩
      rw [hsx.out] at hbx cL HN0 HN1
      obtain ⟨x0, x1⟩ := hbx
      obtain ⟨rest, hrest⟩ : ∃ rest : Nat, Hid (szS t (hs.drop (j + 1)) = rest) := ⟨_, rfl⟩
      obtain ⟨zx, hzx⟩ : ∃ zx : Nat, Hid (szT false t x = zx) := ⟨_, rfl⟩
      rw [hrest.out, hzx.out] at c1
      rw [hzx.out] at x1
      have hcs : c + sx ≤ 10000 := by omega
      by_cases e : sx = 0
      · have HF : Hid (costB t f s k at0 = none) := HN0.out e
        subst e
        clear c1 x1 hcs
        go_wp2
        go_ret2
        exact ⟨by rw [HF.out]; rfl, HB2.out⟩
      · have HF := HN1.out e
        have HF2 : Hid (sumW s hs ck = sumW s (hs.drop (j + 1)) (c + sx)) := HF
        have e1 : (sx == 0) = false := by simpa using e
        have e2 : decide (sx = 0) = false := decide_eq_false e
        have HC1 : Hid (c + sx + 100 * (rest : Int) ≤ 10000) := by show _ ≤ _; omega
        clear HF c1 x1
        go_wp2
        go_round
        case rel => exact ⟨j + 1, c + sx, by omega, by go_num, rfl, HF2, by omega, by rw [hrest.out]; exact HC1.out⟩
        case measure => simp [intOf]; omega
end Go.Proofs.Ytapbfoooflpejaa.walks
