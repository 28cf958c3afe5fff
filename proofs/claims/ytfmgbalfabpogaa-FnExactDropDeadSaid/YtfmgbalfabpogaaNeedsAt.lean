/-
  The program's names needed ahead of the blocks of a flow, in memory: the blocks, and a set ahead of each (or none yet); what is needed behind a block.
-/
import Derived.Test.YtfmgbalfabpogaaProg
import Derived.Test.YtfmgbalfabpogaaLiveMath
import Derived.Test.YtfmgbalfabpogaaSetCopy
import Derived.Test.YtfmgbalfabpogaaBackOps
import Derived.Test.YtfmgbalfabpogaaFlowBlocks
import Derived.WalkKit
import Derived.WalkSpells
import Derived.Below
import Derived.Handy
namespace Go.Proofs.Ytfmgbalfabpogaa.walks
open Go.RowKit Go.Proofs.Ytfmgbalfabpogaa.math Go.Proofs.Ytfmgbalfabpogaa.ints
set_option linter.unusedVariables false
set_option maxRecDepth 100000

/-- The blocks of a flow as the program holds them. -/
structure BlocksAt (w : World) (bb n : Nat) (A S : Nat → Option Addr × Nat) (f : Nat → Bv) : Prop where
  lt : bb < w.heap.size
  cell : ∀ i, i < n * 5 → w.cell? ⟨bb, i, none⟩ = some (cell5 A S f i)
  step : ∀ j, j < n → Steps w (S j).1 (f j).zs (f j).len
theorem BlocksAt.kept {w w' : World} {bb n : Nat} {A S : Nat → Option Addr × Nat} {f : Nat → Bv} (h : BlocksAt w bb n A S f) (hb : Below w.heap.size w w') : BlocksAt w' bb n A S f :=
  ⟨Nat.lt_of_lt_of_le h.lt hb.size, fun i hi => (hb.cell (p := ⟨bb, i, none⟩) h.lt).trans (h.cell i hi), fun j hj => (h.step j hj).kept hb⟩
/-- A set, or none: then it has no member. -/
def SetOr (w : World) (m : Option Nat) (x : Nat → Bool) : Prop := (m = none ∧ ∀ i, i < 64 → x i = false) ∨ ∃ b, m = some b ∧ SetIs w b x
theorem SetOr.kept {w w' : World} {m : Option Nat} {x : Nat → Bool} (h : SetOr w m x) (hb : Below w.heap.size w w') : SetOr w' m x := by
  rcases h with h | ⟨b, rfl, h⟩
  · exact Or.inl h
  · exact Or.inr ⟨b, rfl, h.kept hb⟩
theorem SetOr.far {w w' : World} {m : Option Nat} {x : Nat → Bool} {row : Option Nat} (h : SetOr w m x) (hg : w.grownBy w' row) (hr : ∀ r, row = some r → m ≠ some r) : SetOr w' m x := by
  rcases h with h | ⟨b, rfl, h⟩
  · exact Or.inl h
  · exact Or.inr ⟨b, rfl, h.far hg (fun e => hr b e.symm rfl)⟩
/-- The box of a flowNeeds. -/
structure NeedsAt (w : World) (nb bb n cap : Nat) (M : Nat → Option Nat) (s : Ls) : Prop where
  lt : nb < w.heap.size
  blk : w.cell? ⟨nb, 0, none⟩ = some (.slice (some ⟨bb, 0, none⟩) n cap)
  cell : ∀ k, k < 8 → w.cell? ⟨nb, 1 + k, none⟩ = some (.map (M k)) ∧ w.frozen? ⟨nb, 1 + k, none⟩ = false
  set : ∀ k, k < n → SetOr w (M k) (s k)
theorem NeedsAt.kept {w w' : World} {nb bb n cap : Nat} {M : Nat → Option Nat} {s : Ls} (h : NeedsAt w nb bb n cap M s) (hb : Below w.heap.size w w') : NeedsAt w' nb bb n cap M s :=
  ⟨Nat.lt_of_lt_of_le h.lt hb.size, (hb.cell (p := ⟨nb, 0, none⟩) h.lt).trans h.blk, fun k hk => ⟨(hb.cell (p := ⟨nb, 1 + k, none⟩) h.lt).trans (h.cell k hk).1, (hb.frozen (p := ⟨nb, 1 + k, none⟩) h.lt).trans (h.cell k hk).2⟩, fun k hk => (h.set k hk).kept hb⟩
/-- What has come from the first j of the two ways. -/
def wayS (s : Ls) (th el : Int) : Nat → Nat → Bool
  | 0, _ => false
  | 1, i => nextL s th i
  | _, i => nextL s th i || nextL s el i
def BehindAns (x : Nat → Bool) (W : World) (e : Ending) (W' : World) : Prop := ∃ mb, e = .returned (.map (some mb)) ∧ W.heap.size ≤ mb ∧ SetIs W' mb x ∧ Below W.heap.size W W'
/-- What lay in X, but for block mb, lies as it lay. -/
structure KeepBut0 (X w : World) (mb : Nat) : Prop where
  g : X.grownBy w (some mb)
theorem KeepBut0.refl (X : World) (mb : Nat) : KeepBut0 X X mb := ⟨grow_same _ _⟩
theorem KeepBut0.size {X w : World} {mb : Nat} (h : KeepBut0 X w mb) : X.heap.size ≤ w.heap.size := h.g.size
theorem KeepBut0.cell {X w : World} {mb : Nat} (h : KeepBut0 X w mb) {p : Addr} (hp : p.block < X.heap.size) (hne : p.block ≠ mb) : w.cell? p = X.cell? p := World.cell?_of_block (h.g.block _ hp (by simpa using hne))
theorem KeepBut0.frozen {X w : World} {mb : Nat} (h : KeepBut0 X w mb) {p : Addr} (hp : p.block < X.heap.size) (hne : p.block ≠ mb) : w.frozen? p = X.frozen? p := World.frozen?_of_block (h.g.block _ hp (by simpa using hne))
theorem KeepBut0.below {X w : World} {mb B : Nat} (h : KeepBut0 X w mb) (hB : B ≤ mb) (hX : B ≤ X.heap.size) : Below B X w := ⟨h.g.os, h.g.tape, h.g.output, h.g.size, fun k hk => h.g.block k (by omega) (by simp; omega)⟩
theorem NeedsAt.but {X w : World} {nb bb n cap mb : Nat} {M : Nat → Option Nat} {s : Ls} (h : NeedsAt X nb bb n cap M s) (hk : KeepBut0 X w mb) (hnb : nb ≠ mb) (hm : ∀ k, k < n → M k ≠ some mb) : NeedsAt w nb bb n cap M s :=
  ⟨Nat.lt_of_lt_of_le h.lt hk.size, (hk.cell (p := ⟨nb, 0, none⟩) h.lt hnb).trans h.blk, fun k h8 => ⟨(hk.cell (p := ⟨nb, 1 + k, none⟩) h.lt hnb).trans (h.cell k h8).1, (hk.frozen (p := ⟨nb, 1 + k, none⟩) h.lt hnb).trans (h.cell k h8).2⟩, fun k hkn => (h.set k hkn).far hk.g (fun r e => by cases e; exact hm k hkn)⟩
theorem NeedsAt.old {X : World} {nb bb n cap k b : Nat} {M : Nat → Option Nat} {s : Ls} (h : NeedsAt X nb bb n cap M s) (hk : k < n) (e : M k = some b) : b < X.heap.size := by
  rcases h.set k hk with ⟨q, _⟩ | ⟨b', q, hs⟩
  · rw [q] at e; cases e
  · rw [q] at e; cases e; exact hs.lt
theorem one_bd' {x : Int} (h : 0 ≤ x ∧ x < 64) : ∀ j, j < 1 → 0 ≤ [x].getD j 0 ∧ [x].getD j 0 < 64 := fun j hj => by
  have : j = 0 := by omega
  subst this
  simpa using h
theorem int_ne {x : Int} (h : 0 ≤ x) : ((x : Int) == (-1)) = false := by simp; omega

set_option maxHeartbeats 8000000 in
theorem impl_behind (nb bb n cap k : Nat) (A S : Nat → Option Addr × Nat) (f : Nat → Bv) (M : Nat → Option Nat) (s : Ls) (W : World) (hf : Hid (flowB f n = true)) (hk : k < n) (hb : Hid (BlocksAt W bb n A S f)) (h : Hid (NeedsAt W nb bb n cap M s)) :
    Calls Try.prog 46 #[.pointer (some ⟨nb, 0, none⟩), .int .i64 (k : Int)] W fun e W' => BehindAns (behindL (f k) s) W e W' := by
  have hmm := @run_makeMap Try.prog
  have hn8 : n ≤ 8 := (flow_out hf.out).1.2
  have hkI : (k : Int) < (n : Int) := by omega
  have hblk := (flow_out hf.out).2 k hk
  simp only [blockB, Bool.and_eq_true] at hblk
  have ht := inR_out hblk.1.1.2
  have hth := inR_out hblk.1.2
  have hel := inR_out hblk.2
  have K : ∀ i, i < 5 → W.cell? ⟨bb, k * 5 + i, none⟩ = some (cell5 A S f (k * 5 + i)) := fun i hi => hb.out.cell _ (by omega)
  have c0 := K 0 (by omega)
  have c1 := K 1 (by omega)
  have c2 := K 2 (by omega)
  have c3 := K 3 (by omega)
  have c4 := K 4 (by omega)
  rw [Nat.add_zero, cell5_0] at c0
  rw [cell5_1] at c1
  rw [cell5_2] at c2
  rw [cell5_3] at c3
  rw [cell5_4] at c4
  have HBD : Hid (∀ i, behindL (f k) s i = ((nextL s (f k).th i || nextL s (f k).el i) || (!((f k).th == (f k).el) && i == (f k).t.toNat))) := fun i => rfl
  obtain ⟨bz, hbz⟩ : ∃ bz, Hid (behindL (f k) s = bz) := ⟨_, rfl⟩
  rw [hbz.out] at HBD ⊢
  generalize (A k).1 = ca at c0
  generalize (A k).2 = cc at c0
  generalize (S k).1 = sa at c4
  generalize (S k).2 = sc at c4
  generalize (f k).len = len at c0 c4
  generalize (f k).t = t at c1 ht HBD
  generalize (f k).th = th at c2 hth HBD
  generalize (f k).el = el at c3 hel HBD
  have d0 := h.out.blk
  clear K hblk
  obtain ⟨tn, rfl⟩ := Int.eq_ofNat_of_zero_le ht.1
  have ht8 : tn < 64 := by omega
  go_enter Try.func46, Try.ntmps46
  go_wp2
  clear hmm
  obtain ⟨X, hX⟩ : ∃ X, Hid ((((W.alloc (.map #[] 0)).alloc (.cells #[.slice ca len cc, .int .i64 (tn : Int), .int .i64 th, .int .i64 el, .slice sa len sc] 87)).alloc (.cells #[.int .i64 th, .int .i64 el] 3)) = X) := ⟨_, rfl⟩
  have HBX : Hid (Below W.heap.size W X) := by rw [← hX.out]; exact (((Below.refl _ W).alloc (Nat.le_refl _) _).alloc (by simp) _).alloc (by simp; omega) _
  have hXs : X.heap.size = W.heap.size + 1 + 1 + 1 := by rw [← hX.out]; simp
  have HXX : Hid ((X.cell? ⟨W.heap.size + 1, 1, none⟩ = some (.int .i64 (tn : Int)) ∧ X.cell? ⟨W.heap.size + 1, 2, none⟩ = some (.int .i64 th) ∧ X.cell? ⟨W.heap.size + 1, 3, none⟩ = some (.int .i64 el)) ∧ X.cell? ⟨W.heap.size + 1 + 1, 0, none⟩ = some (.int .i64 th) ∧ X.cell? ⟨W.heap.size + 1 + 1, 1, none⟩ = some (.int .i64 el)) := by
    show _ ∧ _
    rw [← hX.out]
    have e1 : (W.alloc (.map #[] 0)).heap.size = W.heap.size + 1 := by simp
    have e2 : ((W.alloc (.map #[] 0)).alloc (.cells #[.slice ca len cc, .int .i64 (tn : Int), .int .i64 th, .int .i64 el, .slice sa len sc] 87)).heap.size = W.heap.size + 1 + 1 := by simp
    have p1 := fun i => World.cell?_alloc_new (w := W.alloc (.map #[] 0)) #[.slice ca len cc, .int .i64 (tn : Int), .int .i64 th, .int .i64 el, .slice sa len sc] 87 i
    have p2 := fun i => World.cell?_alloc_new (w := (W.alloc (.map #[] 0)).alloc (.cells #[.slice ca len cc, .int .i64 (tn : Int), .int .i64 th, .int .i64 el, .slice sa len sc] 87)) #[.int .i64 th, .int .i64 el] 3 i
    rw [e1] at p1
    rw [e2] at p2
    have p3 : ∀ i, (((W.alloc (.map #[] 0)).alloc (.cells #[.slice ca len cc, .int .i64 (tn : Int), .int .i64 th, .int .i64 el, .slice sa len sc] 87)).alloc (.cells #[.int .i64 th, .int .i64 el] 3)).cell? ⟨W.heap.size + 1, i, none⟩ = ((W.alloc (.map #[] 0)).alloc (.cells #[.slice ca len cc, .int .i64 (tn : Int), .int .i64 th, .int .i64 el, .slice sa len sc] 87)).cell? ⟨W.heap.size + 1, i, none⟩ := fun i => ((Below.refl _ _).alloc (Nat.le_refl _) _).cell (p := ⟨W.heap.size + 1, i, none⟩) (by show W.heap.size + 1 < _; rw [e2]; omega)
    refine ⟨⟨?_, ?_, ?_⟩, ?_, ?_⟩
    · rw [p3, p1]; rfl
    · rw [p3, p1]; rfl
    · rw [p3, p1]; rfl
    · rw [p2]; rfl
    · rw [p2]; rfl
  have HNA : Hid (NeedsAt X nb bb n cap M s) := h.out.kept HBX.out
  have HO0 : Hid (SetIs X W.heap.size (wayS s th el 0)) := by
    show SetIs _ _ _
    rw [← hX.out]
    exact (((set_made W).kept ((Below.refl _ _).alloc (Nat.le_refl _) _)).kept ((Below.refl _ _).alloc (Nat.le_refl _) _)).same (fun i _ => rfl)
  obtain ⟨mb, hmb⟩ : ∃ mb, Hid (W.heap.size = mb) := ⟨_, rfl⟩
  rw [hX.out]
  rw [hmb.out] at HXX hXs HO0 ⊢
  clear c0 c1 c2 c3 c4 d0
  have hmbX : mb < X.heap.size := by omega
  have hnbm : nb ≠ mb := by have := h.out.lt; rw [hmb.out] at this; omega
  have HMM : Hid (∀ j, j < n → M j ≠ some mb) := fun j hj e => by have := h.out.old hj e; rw [hmb.out] at this; omega
  go_loopw [25] (fun vi wr => ∃ j : Nat, j ≤ 2 ∧ vi = .int .i64 j ∧ Hid (SetIs wr mb (wayS s th el j)) ∧ Hid (KeepBut0 X wr mb)) (fun vi _ => 2 - (intOf vi).toNat)
  case atStart => exact ⟨0, by omega, rfl, HO0, KeepBut0.refl _ _⟩
  case round =>
    obtain ⟨j, hj, rfl, HO, HB⟩ := hrel
    have hwx := HB.out.size
    by_cases hlt : j < 2
    · obtain rfl | rfl : j = 0 ∨ j = 1 := by omega
      · rw [show ((0 : Nat) : Int) = (0 : Int) from rfl]
        have y0 : wr.cell? ⟨mb + 1 + 1, 0, none⟩ = some (.int .i64 th) := (HB.out.cell (p := ⟨mb + 1 + 1, 0, none⟩) (by show mb + 1 + 1 < _; omega) (by show mb + 1 + 1 ≠ _; omega)).trans HXX.out.2.1
        by_cases hneg : th = -1
        · have HE : Hid (∀ i, i < 64 → wayS s th el 0 i = wayS s th el 1 i) := fun i _ => by simp [wayS, nextL, hneg]
          rw [hneg] at y0
          have HNG : Hid (th = -1) := hneg
          clear hneg
          go_wp2
          go_roundw
          case rel => exact ⟨0 + 1, by omega, by go_num, HO.out.same HE.out, HB⟩
          case measure => simp [intOf]
        · have hpos : 0 ≤ th := by omega
          obtain ⟨xn, hxn⟩ := Int.eq_ofNat_of_zero_le hpos
          have hxl : xn < n := by omega
          have hx8 : xn < 8 := by omega
          have hxI : (xn : Int) < 8 := by omega
          have q1 : ((xn : Int) == (-1)) = false := by simp
          have q2 : decide ((xn : Int) = -1) = false := decide_eq_false (by omega)
          have HE : Hid (∀ i, i < 64 → (wayS s th el 0 i || s xn i) = wayS s th el 1 i) := fun i _ => by
            have e1 : ¬ (th < 0) := by omega
            have e2 : th.toNat = xn := by omega
            simp [wayS, nextL, e1, e2]
          rw [hxn] at y0
          have HXN : Hid (th = (xn : Int)) := hxn
          have HN2 := HNA.out.but HB.out hnbm HMM.out
          have ca1 := (HN2.cell xn hx8).1
          have HSX : Hid (SetOr wr (M xn) (s xn)) := HN2.set xn hxl
          clear HN2 hneg hxn hpos
          rcases HSX.out with ⟨hm, hz⟩ | ⟨sb, hm, hs⟩
          · have HE2 : Hid (∀ i, i < 64 → wayS s th el 0 i = wayS s th el 1 i) := fun i hi => by rw [← HE.out i hi, hz i hi]; simp
            rw [hm] at ca1
            clear hz
            go_wp2_with fail
            refine (impl_copy_nil mb _ _ HO).mono ?_
            rintro e w' ⟨rfl, hS', hG'⟩
            have HO2 : Hid (SetIs w' mb (wayS s th el 1)) := hS'.same HE2.out
            have HB2 : Hid (KeepBut0 X w' mb) := ⟨grow_to HB.out.g hG'⟩
            clear hS' hG'
            go_wp2
            go_roundw
            case rel => exact ⟨0 + 1, by omega, by go_num, HO2, HB2⟩
            case measure => simp [intOf]
          · have hsb : sb ≠ mb := fun q => HMM.out xn hxl (by rw [hm, q])
            rw [hm] at ca1
            have HSB : Hid (SetIs wr sb (s xn)) := hs
            clear hs
            go_wp2_with fail
            refine (impl_copy mb sb _ _ _ (Ne.symm hsb) HO HSB).mono ?_
            rintro e w' ⟨rfl, hS', hG'⟩
            have HO2 : Hid (SetIs w' mb (wayS s th el 1)) := hS'.same HE.out
            have HB2 : Hid (KeepBut0 X w' mb) := ⟨grow_to HB.out.g hG'⟩
            clear hS' hG'
            go_wp2
            go_roundw
            case rel => exact ⟨0 + 1, by omega, by go_num, HO2, HB2⟩
            case measure => simp [intOf]
      · rw [show ((1 : Nat) : Int) = (1 : Int) from rfl]
        have y1 : wr.cell? ⟨mb + 1 + 1, 1, none⟩ = some (.int .i64 el) := (HB.out.cell (p := ⟨mb + 1 + 1, 1, none⟩) (by show mb + 1 + 1 < _; omega) (by show mb + 1 + 1 ≠ _; omega)).trans HXX.out.2.2
        by_cases hneg : el = -1
        · have HE : Hid (∀ i, i < 64 → wayS s th el 1 i = wayS s th el 2 i) := fun i _ => by simp [wayS, nextL, hneg]
          rw [hneg] at y1
          have HNG : Hid (el = -1) := hneg
          clear hneg
          go_wp2
          go_roundw
          case rel => exact ⟨1 + 1, by omega, by go_num, HO.out.same HE.out, HB⟩
          case measure => simp [intOf]
        · have hpos : 0 ≤ el := by omega
          obtain ⟨xn, hxn⟩ := Int.eq_ofNat_of_zero_le hpos
          have hxl : xn < n := by omega
          have hx8 : xn < 8 := by omega
          have hxI : (xn : Int) < 8 := by omega
          have q1 : ((xn : Int) == (-1)) = false := by simp
          have q2 : decide ((xn : Int) = -1) = false := decide_eq_false (by omega)
          have HE : Hid (∀ i, i < 64 → (wayS s th el 1 i || s xn i) = wayS s th el 2 i) := fun i _ => by
            have e1 : ¬ (el < 0) := by omega
            have e2 : el.toNat = xn := by omega
            simp [wayS, nextL, e1, e2]
          rw [hxn] at y1
          have HXN : Hid (el = (xn : Int)) := hxn
          have HN2 := HNA.out.but HB.out hnbm HMM.out
          have ca1 := (HN2.cell xn hx8).1
          have HSX : Hid (SetOr wr (M xn) (s xn)) := HN2.set xn hxl
          clear HN2 hneg hxn hpos
          rcases HSX.out with ⟨hm, hz⟩ | ⟨sb, hm, hs⟩
          · have HE2 : Hid (∀ i, i < 64 → wayS s th el 1 i = wayS s th el 2 i) := fun i hi => by rw [← HE.out i hi, hz i hi]; simp
            rw [hm] at ca1
            clear hz
            go_wp2_with fail
            refine (impl_copy_nil mb _ _ HO).mono ?_
            rintro e w' ⟨rfl, hS', hG'⟩
            have HO2 : Hid (SetIs w' mb (wayS s th el 2)) := hS'.same HE2.out
            have HB2 : Hid (KeepBut0 X w' mb) := ⟨grow_to HB.out.g hG'⟩
            clear hS' hG'
            go_wp2
            go_roundw
            case rel => exact ⟨1 + 1, by omega, by go_num, HO2, HB2⟩
            case measure => simp [intOf]
          · have hsb : sb ≠ mb := fun q => HMM.out xn hxl (by rw [hm, q])
            rw [hm] at ca1
            have HSB : Hid (SetIs wr sb (s xn)) := hs
            clear hs
            go_wp2_with fail
            refine (impl_copy mb sb _ _ _ (Ne.symm hsb) HO HSB).mono ?_
            rintro e w' ⟨rfl, hS', hG'⟩
            have HO2 : Hid (SetIs w' mb (wayS s th el 2)) := hS'.same HE.out
            have HB2 : Hid (KeepBut0 X w' mb) := ⟨grow_to HB.out.g hG'⟩
            clear hS' hG'
            go_wp2
            go_roundw
            case rel => exact ⟨1 + 1, by omega, by go_num, HO2, HB2⟩
            case measure => simp [intOf]
    · obtain rfl : j = 2 := by omega
      have x1 : wr.cell? ⟨mb + 1, 1, none⟩ = some (.int .i64 (tn : Int)) := (HB.out.cell (p := ⟨mb + 1, 1, none⟩) (by show mb + 1 < _; omega) (by show mb + 1 ≠ _; omega)).trans HXX.out.1.1
      have x2 : wr.cell? ⟨mb + 1, 2, none⟩ = some (.int .i64 th) := (HB.out.cell (p := ⟨mb + 1, 2, none⟩) (by show mb + 1 < _; omega) (by show mb + 1 ≠ _; omega)).trans HXX.out.1.2.1
      have x3 : wr.cell? ⟨mb + 1, 3, none⟩ = some (.int .i64 el) := (HB.out.cell (p := ⟨mb + 1, 3, none⟩) (by show mb + 1 < _; omega) (by show mb + 1 ≠ _; omega)).trans HXX.out.1.2.2
      have HBW : Hid (Below W.heap.size W wr) := HBX.out.trans (HB.out.below (by rw [hmb.out]; exact Nat.le_refl _) HBX.out.size)
      have hwW := HBW.out.size
      by_cases heq : th = el
      · have HR : Hid (BehindAns bz W (.returned (.map (some mb))) wr) := ⟨mb, rfl, by rw [hmb.out]; exact Nat.le_refl _, HO.out.same (fun i hi => by rw [HBD.out i]; simp [wayS, heq]), HBW.out⟩
        have HEQ : Hid (th = el) := heq
        rw [heq] at x2
        clear heq
        go_wp2
        go_ret
        exact HR.out
      · have s1 : (th == el) = false := by simpa using heq
        have s2 : decide (th = el) = false := decide_eq_false heq
        have HEV : Hid (∀ i, i < 64 → addS (wayS s th el 2) [(tn : Int)] i = bz i) := fun i hi => by
          rw [HBD.out i, s1]
          by_cases e : i = tn
          · subst e; simp [wayS, addS]
          · have e' : ¬ (i : Int) = (tn : Int) := by omega
            simp [wayS, addS, e, e']
        clear heq
        go_wp2_with fail
        refine (impl_add mb _ _ 1 1 [(tn : Int)] _ rfl (by omega) (ints_new1 wr _ _ rfl) (one_bd' (by omega)) (HO.out.kept ((Below.refl _ _).alloc (Nat.le_refl _) _))).mono ?_
        rintro e w' ⟨rfl, hS', hG'⟩
        have HR : Hid (BehindAns bz W (.returned (.map (some mb))) w') := ⟨mb, rfl, by rw [hmb.out]; exact Nat.le_refl _, hS'.same HEV.out, (HBW.out.alloc hwW _).grown hG' (by simp; omega) (fun q hq => by cases hq; rw [hmb.out]; exact Nat.le_refl _)⟩
        clear hS' hG'
        go_wp2
        go_ret
        exact HR.out
end Go.Proofs.Ytfmgbalfabpogaa.walks
