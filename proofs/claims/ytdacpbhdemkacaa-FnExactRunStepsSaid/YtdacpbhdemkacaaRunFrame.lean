/-
  A frame at work, in memory of its own: what takeOff, put, take and uppermost do to it.
-/
import Derived.Test.YtdacpbhdemkacaaProg
import Derived.Test.YtdacpbhdemkacaaMagMath
import Derived.Test.YtdacpbhdemkacaaDepths
import Derived.Test.YtdacpbhdemkacaaInts
import Derived.Test.YtdacpbhdemkacaaOwnInts
import Derived.Test.YtdacpbhdemkacaaDeep
import Derived.Test.YtdacpbhdemkacaaDeepRow
import Derived.WalkKit
import Derived.WalkSpells
import Derived.Below
import Derived.Handy
import Derived.Deep.DeepFit
import Derived.Deep.OwnRows
import Derived.Deep.QuietTactic
import Derived.BigQuiet
import Derived.WalkSmall
import Derived.Laws.OwnMore
namespace Go.Proofs.Ytdacpbhdemkacaa.walks
open Go.RowKit Go.Proofs.Ytdacpbhdemkacaa.math Go.Proofs.Ytdacpbhdemkacaa.ints Go.Proofs.Ytdacpbhdemkacaa.deep
set_option linter.unusedVariables false
set_option maxRecDepth 100000

theorem own_form13 {w : World} {B : Nat} {v : Value} {zs : List Int} (h : Own w B v zs) (h0 : 0 < zs.length) : ∃ g cap, v = .slice (some ⟨g, 0, none⟩) zs.length cap ∧ B ≤ g ∧ g < w.heap.size ∧ zs.length ≤ cap ∧ cap ≤ maxLen := by
  rcases h.2 with ⟨rfl, hn⟩ | ⟨g, cap, cur, rfl, hg, hw, h1, h2, _, hcur⟩
  · omega
  · exact ⟨g, cap, rfl, hg, (World.ownsRow.lt h g rfl).2, h1, h2⟩
theorem own_cell13 {w : World} {B g cap : Nat} {zs : List Int} (h : Own w B (.slice (some ⟨g, 0, none⟩) zs.length cap) zs) {k : Nat} (hk : k < zs.length) : w.cell? ⟨g, k, none⟩ = some (.int .i64 (zs.getD k 0)) := by
  have q := World.ownsRow.cellAt h k (by simpa using hk)
  rw [q]; simp [List.getD, hk]
theorem own_apart {w : World} {B g n : Nat} {v : Value} {zs : List Int} {t : TypeId} {f : Nat → Value} (h : Own w B v zs) (q : w.rowIs g t n f) (ht : t ≠ 3) : v.ownBlock ≠ some g := by
  intro e
  rcases h.2 with ⟨rfl, _⟩ | ⟨g', c, cur, rfl, _, hb, _⟩
  · cases e
  · simp [Value.ownBlock] at e
    subst e
    obtain ⟨c', e', _⟩ := q
    rw [hb] at e'
    simp at e'
    exact ht e'.2.symm
theorem own_pop13 {w : World} {B g n cap : Nat} {ss : List Int} {x : Int} (hn : ss.length = n) (h : Own w B (.slice (some ⟨g, 0, none⟩) (n + 1) cap) (ss ++ [x])) : Own w B (.slice (some ⟨g, 0, none⟩) n cap) ss := by
  subst hn
  have q := h
  unfold Own at q
  rw [List.map_append, List.length_append] at q
  exact ownsRow_pop (by simp) q
theorem own_drew {w : World} {B : Nat} {v : Value} {zs : List Int} (h : Own w B v zs) : ∀ q, Own (w.drewN q) B v zs
  | 0 => h
  | q + 1 => World.ownsRow.drew (own_drew h q)
theorem below_drewN {B : Nat} {W w : World} (h : Below B W w) : ∀ q, Below B W (w.drewN q)
  | 0 => h
  | q + 1 => (below_drewN h q).drew
set_option maxHeartbeats 4000000 in
theorem impl_takeoff (B : Nat) (v : Value) (ss : List Int) (x : Int) (W : World) (hl : ss.length ≤ 1000) (h : Hid (Own W B v (ss ++ [x]))) :
    Calls Try.prog 61 #[v] W fun e W' => ∃ v', e = .returned (.tuple #[.int .i64 x, v']) ∧ Own W' B v' ss ∧ v'.ownBlock = v.ownBlock ∧ Below W.heap.size W W' := by
  obtain ⟨g, cap, e, hg, hgl, hc, hm⟩ := own_form13 h.out (by simp)
  rw [List.length_append] at e hc
  subst e
  obtain ⟨n, hn⟩ : ∃ n, Hid (ss.length = n) := ⟨_, rfl⟩
  have c0 : W.cell? ⟨g, n, none⟩ = some (.int .i64 x) := by
    have q := own_cell13 (k := n) (w := W) (B := B) (g := g) (cap := cap) (zs := ss ++ [x]) (by rw [List.length_append]; exact h.out) (by rw [List.length_append, hn.out]; exact Nat.lt_succ_self _)
    rw [q]; simp [List.getD, ← hn.out]
  rw [hn.out] at hl hc ⊢
  have HP : Hid (Own W B (.slice (some ⟨g, 0, none⟩) n cap) ss) := own_pop13 hn.out (by have q := h.out; rw [hn.out] at q; exact q)
  have hc' : n + 1 ≤ cap := hc
  have hcI : (n : Int) ≤ (cap : Int) := by omega
  have hnI : (n : Int) < (n : Int) + 1 := by omega
  unfold maxLen at hm
  show Calls _ _ #[.slice (some ⟨g, 0, none⟩) (n + 1) cap] _ _
  clear h hc
  go_enter Try.func61, Try.ntmps61
  go_wp2
  go_quiet (fail)
  go_wp2
  go_ret2
  exact ⟨_, rfl, own_drew HP.out _, rfl, below_drewN (Below.refl _ _) _⟩
/-- The frame at work at p: its three lists, each in a block of its own from B on. -/
def FrameAt (w : World) (B p : Nat) (ls ss ts : List Int) : Prop := ∃ vl vs vt, w.rowIs p 65 3 (rowF [vl, vs, vt]) ∧ Own w B vl ls ∧ Own w B vs ss ∧ Own w B vt ts ∧ (∀ x, vl.ownBlock = some x → vs.ownBlock ≠ some x) ∧ (∀ x, vl.ownBlock = some x → vt.ownBlock ≠ some x) ∧ (∀ x, vs.ownBlock = some x → vt.ownBlock ≠ some x) ∧ B ≤ p
theorem FrameAt.kept {w w' : World} {B p : Nat} {ls ss ts : List Int} (h : FrameAt w B p ls ss ts) (hb : Below w.heap.size w w') : FrameAt w' B p ls ss ts := by
  obtain ⟨vl, vs, vt, h1, h2, h3, h4, r⟩ := h
  exact ⟨vl, vs, vt, h1.of_block (hb.block _ h1.lt), row_below h2 hb, row_below h3 hb, row_below h4 hb, r⟩
theorem FrameAt.lt {w : World} {B p : Nat} {ls ss ts : List Int} (h : FrameAt w B p ls ss ts) : p < w.heap.size := by
  obtain ⟨vl, vs, vt, h1, _⟩ := h
  exact h1.lt
/-- Another list than the one that has grown is as it was. -/
theorem own_grown {w w' : World} {B : Nat} {v u : Value} {zs : List Int} (h : Own w B v zs) (hg : w.grownBy w' u.ownBlock) (hd : ∀ x, v.ownBlock = some x → u.ownBlock ≠ some x) : Own w' B v zs := by
  refine World.ownsRow.kept h hg ?_
  cases e : v.ownBlock with
  | none => exact Or.inl rfl
  | some g => exact Or.inr (fun q => hd g e q.symm)
theorem own_set13 {w : World} {B g n i : Nat} {v u : Value} {zs : List Int} {t : TypeId} {f : Nat → Value} (h : Own w B v zs) (q : w.rowIs g t n f) (ht : t ≠ 3) : Own (w.setCell ⟨g, i, none⟩ u) B v zs :=
  World.ownsRow.kept h (row := some g) ⟨rfl, rfl, rfl, by simp [World.setCell], fun k hk hne => Below.heap_setCell _ _ _ _ (by simpa using hne)⟩ (Or.inr (own_apart h q ht))
/-- Rows of another type than int stay, but the frame itself. -/
def Stays (W W' : World) (p : Nat) : Prop := ∀ (k : Nat) (T : TypeId) (n : Nat) (f : Nat → Value), T ≠ 3 → k ≠ p → W.rowIs k T n f → W'.rowIs k T n f
theorem Stays.trans {W W' W'' : World} {p : Nat} (h : Stays W W' p) (g : Stays W' W'' p) : Stays W W'' p := fun k T n f h1 h2 q => g k T n f h1 h2 (h k T n f h1 h2 q)
theorem Stays.set {W W' : World} {p i : Nat} (h : Stays W W' p) (u : Value) : Stays W (W'.setCell ⟨p, i, none⟩ u) p := fun k T n f h1 h2 q => (h k T n f h1 h2 q).setOther (by simpa using h2) u
theorem stays_below {W W' : World} {p : Nat} (h : Below W.heap.size W W') : Stays W W' p := fun k T n f h1 h2 q => q.of_block (h.block _ q.lt)
theorem rowF_set {a b c u : Value} : ∀ i, i < 3 → (if i = 1 then u else rowF [a, b, c] i) = rowF [a, u, c] i
  | 0, _ => rfl
  | 1, _ => rfl
  | 2, _ => rfl
theorem rowF_set2 {a b c u : Value} : ∀ i, i < 3 → (if i = 2 then u else rowF [a, b, c] i) = rowF [a, b, u] i
  | 0, _ => rfl
  | 1, _ => rfl
  | 2, _ => rfl
set_option maxHeartbeats 4000000 in
theorem impl_put (B p : Nat) (ls ss ts : List Int) (x : Int) (W : World) (hB : B ≤ W.heap.size) (hl : ss.length ≤ 1000) (h : Hid (FrameAt W B p ls ss ts)) :
    Calls Try.prog 54 #[.pointer (some ⟨p, 0, none⟩), .int .i64 x] W fun e W' => e = .returned (.tuple #[]) ∧ FrameAt W' B p ls (ss ++ [x]) ts ∧ Below B W W' ∧ B ≤ W'.heap.size ∧ Stays W W' p := by
  obtain ⟨i0, hi, hz0, hz1, hz2⟩ := parts_of (P := Try.prog) (e := 3) (z := .int .i64 0) (a := 1) (b := 8) (by kernel_rfl)
  obtain ⟨vl, vs, vt, h1, h2, h3, h4, D1, D2, D3, hp⟩ := h.out
  have HR : Hid (W.rowIs p 65 3 (rowF [vl, vs, vt])) := h1
  have HL : Hid (Own W B vl ls) := h2
  have HS : Hid (Own W B vs ss) := h3
  have HT : Hid (Own W B vt ts) := h4
  have HD : Hid ((∀ x, vl.ownBlock = some x → vs.ownBlock ≠ some x) ∧ (∀ x, vl.ownBlock = some x → vt.ownBlock ≠ some x) ∧ (∀ x, vs.ownBlock = some x → vt.ownBlock ≠ some x)) := ⟨D1, D2, D3⟩
  have HN : Hid (∀ x, vl.ownBlock = some x → x < W.heap.size) := fun x q => (World.ownsRow.lt h2 x q).2
  have HN2 : Hid (∀ x, vt.ownBlock = some x → x < W.heap.size) := fun x q => (World.ownsRow.lt h4 x q).2
  have c1 : W.cell? ⟨p, 1, none⟩ = some vs := h1.cell (i := 1) (by decide)
  have pl := h1.lt
  clear h h1 h2 h3 h4 D1 D2 D3
  go_enter Try.func54, Try.ntmps54
  go_wp2_with (first
    | (at_builtin; refine wpList_append_own_at _ rfl _ _ 29 rfl B 3 i0 (.int .i64 0) 1 8 Try.underlying29 hi hz0 hz1 hz2 rfl (by decide) _ _ _ rfl (World.ownsRow.alloc HS.out _) ⟨W.heap.size, 0, none⟩ 1 1 [.int .i64 x] rfl rfl (new_one W x _) (one_of x) ?c3 ?c4 ?c5 ?_)
    | fail)
  case c3 => unfold maxLen; omega
  case c4 => omega
  case c5 => simp; omega
  intro v2 w2 hown hgrow _ hat
  have HO2 : Hid (Own w2 B v2 (ss ++ [x])) := by show Own _ _ _ _; unfold Own; simpa using hown
  have HB2 : Hid (Below B W w2) := ((Below.refl B W).alloc hB _).grown hgrow (by simp; omega) (fun j hj => (World.ownsRow.lt HS.out j hj).1)
  have HR2 : Hid (w2.rowIs p 65 3 (rowF [vl, vs, vt])) := (HR.out.alloc _).of_block (hgrow.block _ (by simp; omega) (fun q => own_apart HS.out HR.out (by decide) q.symm))
  have HL2 : Hid (Own w2 B vl ls) := own_grown (World.ownsRow.alloc HL.out _) hgrow HD.out.1
  have HT2 : Hid (Own w2 B vt ts) := own_grown (World.ownsRow.alloc HT.out _) hgrow (fun x q r => HD.out.2.2 x r q)
  have HS2 : Hid (B ≤ w2.heap.size) := Nat.le_trans hB HB2.out.size
  have HST : Hid (Stays W w2 p) := fun k T n f hT hk q => (q.alloc _).of_block (hgrow.block _ (by have := q.lt; simp; omega) (fun r => own_apart HS.out q hT r.symm))
  have HA2 : Hid (∀ x, v2.ownBlock = some x → vs.ownBlock = some x ∨ W.heap.size < x) := fun x q => by
    rcases hat with r | r
    · exact Or.inl (r ▸ q)
    · rw [r] at q; simp at q; exact Or.inr (by omega)
  have c2 : w2.cell? ⟨p, 1, none⟩ = some vs := HR2.out.cell (i := 1) (by decide)
  have f2 := HR2.out.frozen 1
  have pl2 := HR2.out.lt
  clear hown hgrow hat c1 hi hz0 hz1 hz2
  obtain ⟨a2, n2, k2, e2⟩ : ∃ a n k, v2 = .slice a n k := by obtain ⟨a, k, e, _⟩ := HO2.out.mine; exact ⟨a, _, k, e⟩
  subst e2
  go_wp2
  exact bodyPost_end (v := .tuple #[]) (by simp [results, Try.results54, go_sem]) rfl ⟨rfl, ⟨vl, _, vt, (HR2.out.set 1 _).congr rowF_set, own_set13 HL2.out HR2.out (by decide), own_set13 HO2.out HR2.out (by decide), own_set13 HT2.out HR2.out (by decide), fun x q r => by
    rcases HA2.out x r with s | s
    · exact HD.out.1 x q s
    · have := HN.out x q; omega, HD.out.2.1, fun x q r => by
    rcases HA2.out x q with s | s
    · exact HD.out.2.2 x s r
    · have := HN2.out x r; omega, hp⟩, HB2.out.setCell (by simpa using hp) _, by simpa [World.setCell] using HS2.out, HST.out.set _⟩
set_option maxHeartbeats 4000000 in
theorem impl_take (B p : Nat) (ls ss ts : List Int) (x : Int) (W : World) (hB : B ≤ W.heap.size) (hl : ss.length ≤ 1000) (h : Hid (FrameAt W B p ls (ss ++ [x]) ts)) :
    Calls Try.prog 55 #[.pointer (some ⟨p, 0, none⟩)] W fun e W' => e = .returned (.int .i64 x) ∧ FrameAt W' B p ls ss ts ∧ Below B W W' ∧ B ≤ W'.heap.size ∧ Stays W W' p ∧ W'.cell? ⟨p, 0, none⟩ = W.cell? ⟨p, 0, none⟩ := by
  obtain ⟨vl, vs, vt, h1, h2, h3, h4, D1, D2, D3, hp⟩ := h.out
  have HR : Hid (W.rowIs p 65 3 (rowF [vl, vs, vt])) := h1
  have HL : Hid (Own W B vl ls) := h2
  have HS : Hid (Own W B vs (ss ++ [x])) := h3
  have HT : Hid (Own W B vt ts) := h4
  have HD : Hid ((∀ x, vl.ownBlock = some x → vs.ownBlock ≠ some x) ∧ (∀ x, vl.ownBlock = some x → vt.ownBlock ≠ some x) ∧ (∀ x, vs.ownBlock = some x → vt.ownBlock ≠ some x)) := ⟨D1, D2, D3⟩
  have c1 : W.cell? ⟨p, 1, none⟩ = some vs := h1.cell (i := 1) (by decide)
  have pl := h1.lt
  clear h h1 h2 h3 h4 D1 D2 D3
  go_enter Try.func55, Try.ntmps55
  go_wp2_with fail
  refine (impl_takeoff B _ ss x _ hl HS).mono ?_
  rintro e w2 ⟨v2, rfl, hO, hown, hB2⟩
  have HO2 : Hid (Own w2 B v2 ss) := hO
  have HR2 : Hid (w2.rowIs p 65 3 (rowF [vl, vs, vt])) := HR.out.of_block (hB2.block _ pl)
  have HL2 : Hid (Own w2 B vl ls) := row_below HL.out hB2
  have HT2 : Hid (Own w2 B vt ts) := row_below HT.out hB2
  have HB2 : Hid (Below B W w2) := hB2.mono hB
  have HS2 : Hid (B ≤ w2.heap.size) := Nat.le_trans hB hB2.size
  have HA2 : Hid (v2.ownBlock = vs.ownBlock) := hown
  have HST : Hid (Stays W w2 p) := stays_below hB2
  have c2 : w2.cell? ⟨p, 1, none⟩ = some vs := HR2.out.cell (i := 1) (by decide)
  have f2 := HR2.out.frozen 1
  have pl2 := HR2.out.lt
  clear hO hown hB2 c1
  obtain ⟨a2, n2, k2, e2⟩ : ∃ a n k, v2 = .slice a n k := by obtain ⟨a, k, e, _⟩ := HO2.out.mine; exact ⟨a, _, k, e⟩
  subst e2
  go_wp2
  go_ret
  exact ⟨rfl, ⟨vl, _, vt, (HR2.out.set 1 _).congr rowF_set, own_set13 HL2.out HR2.out (by decide), own_set13 HO2.out HR2.out (by decide), own_set13 HT2.out HR2.out (by decide), by rw [HA2.out]; exact HD.out.1, HD.out.2.1, by rw [HA2.out]; exact HD.out.2.2, hp⟩, HB2.out.setCell (by simpa using hp) _, by simpa [World.setCell] using HS2.out, HST.out.set _, (((HR2.out.set 1 _).congr rowF_set).cell (i := 0) (by decide)).trans (HR.out.cell (i := 0) (by decide)).symm⟩
set_option maxHeartbeats 4000000 in
theorem impl_uppermost (B p : Nat) (ls ss ts : List Int) (x : Int) (W : World) (hl : ss.length ≤ 1000) (h : Hid (FrameAt W B p ls (ss ++ [x]) ts)) :
    Calls Try.prog 58 #[.pointer (some ⟨p, 0, none⟩)] W fun e W' => e = .returned (.int .i64 x) ∧ Below W.heap.size W W' := by
  obtain ⟨vl, vs, vt, h1, h2, h3, h4, D1, D2, D3, hp⟩ := h.out
  have HS : Hid (Own W B vs (ss ++ [x])) := h3
  have c1 : W.cell? ⟨p, 1, none⟩ = some vs := h1.cell (i := 1) (by decide)
  have pl := h1.lt
  clear h h1 h2 h3 h4 D1 D2 D3
  go_enter Try.func58, Try.ntmps58
  go_wp2_with fail
  refine (impl_takeoff B _ ss x _ hl HS).mono ?_
  rintro e w2 ⟨v2, rfl, hO, hown, hB2⟩
  have HB2 : Hid (Below W.heap.size W w2) := hB2
  clear hO hown hB2 c1
  go_wp2
  go_ret
  exact ⟨rfl, HB2.out⟩
/-- A local is stored to. -/
theorem FrameAt.store {w : World} {B p gl cl k : Nat} {ls ss ts : List Int} (h : FrameAt w B p ls ss ts) (hc : w.cell? ⟨p, 0, none⟩ = some (.slice (some ⟨gl, 0, none⟩) 3 cl)) (h3 : ls.length = 3) (hk : k < 3) (x : Int) : FrameAt (w.setCell ⟨gl, k, none⟩ (.int .i64 x)) B p (ls.set k x) ss ts ∧ B ≤ gl ∧ gl < w.heap.size ∧ w.cell? ⟨gl, k, none⟩ = some (.int .i64 (ls.getD k 0)) ∧ w.frozen? ⟨gl, k, none⟩ = false := by
  obtain ⟨vl, vs, vt, r1, r2, r3, r4, D1, D2, D3, hp⟩ := h
  have e : vl = .slice (some ⟨gl, 0, none⟩) 3 cl := by
    have q := r1.cell (i := 0) (by decide)
    rw [hc] at q
    exact (Option.some.inj q).symm
  subst e
  have hb := World.ownsRow.lt r2 gl rfl
  have hpg : p ≠ gl := fun q => own_apart r2 r1 (by decide) (by rw [q]; rfl)
  have r2' : w.ownsRow B 3 1 (.slice (some ⟨gl, 0, none⟩) 3 cl) 3 (ls.map (Value.int .i64)) := by have q := r2; unfold Own at q; rw [h3] at q; exact q
  refine ⟨⟨_, vs, vt, r1.setOther (by simpa using hpg) _, ?_, ?_, ?_, D1, D2, D3, hp⟩, hb.1, hb.2, ?_, World.ownsRow.frozenAt r2' k⟩
  · have q := World.ownsRow.stored r2' k (.int .i64 x)
    unfold Own
    rw [List.length_set, h3, List.map_set]
    exact q.1
  · exact World.ownsRow.kept r3 (row := some gl) ⟨rfl, rfl, rfl, by simp [World.setCell], fun k hk hne => Below.heap_setCell _ _ _ _ (by simpa using hne)⟩ (Or.inr (D1 gl rfl))
  · exact World.ownsRow.kept r4 (row := some gl) ⟨rfl, rfl, rfl, by simp [World.setCell], fun k hk hne => Below.heap_setCell _ _ _ _ (by simpa using hne)⟩ (Or.inr (D2 gl rfl))
  · rw [World.ownsRow.cellAt r2' k (by omega)]
    simp [List.getD, h3, hk]
end Go.Proofs.Ytdacpbhdemkacaa.walks
