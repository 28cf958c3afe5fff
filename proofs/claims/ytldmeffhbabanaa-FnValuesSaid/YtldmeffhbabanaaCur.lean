/-
  What the specification's reader of choices answers, wherever it stands: a number within bounds; it writes into its own three cells alone.
-/
import Derived.Test.YtldmeffhbabanaaProg
import Derived.Laws.BitsAllLaws
import Derived.WalkKit
import Derived.WalkSpells
namespace Go.Proofs.Ytldmeffhbabanaa.cur
open Go.RowKit

/-- The text that is read: it lies below block b. -/
def Src (b : Nat) (a : Option Addr) (len : Nat) (w : World) : Prop :=
  len = 0 ∨ ∃ x off, a = some ⟨x, off, none⟩ ∧ x < b ∧ x < w.heap.size ∧ ∀ i, i < len → ∃ z : Int, 0 ≤ z ∧ z ≤ 255 ∧ w.cell? ⟨x, off + i, none⟩ = some (.int .u8 z)
/-- The reader in block b: it has gone on at most n places. -/
def Cur (b : Nat) (a : Option Addr) (len cap n : Nat) (w : World) : Prop :=
  Src b a len w ∧ ∃ (k : Nat) (s : Int), k ≤ n ∧ 0 ≤ s ∧ s < 18446744073709551616 ∧ w.cell? ⟨b, 0, none⟩ = some (.slice a len cap) ∧ w.cell? ⟨b, 1, none⟩ = some (.int .i64 (k : Int)) ∧ w.cell? ⟨b, 2, none⟩ = some (.int .u64 s) ∧
    w.frozen? ⟨b, 1, none⟩ = false ∧ w.frozen? ⟨b, 2, none⟩ = false

theorem Src.kept {b len : Nat} {a : Option Addr} {w w' : World} (h : Src b a len w) (hg : w.grownBy w' (some b)) : Src b a len w' := by
  rcases h with h | ⟨x, off, rfl, hx, hs, h⟩
  · exact Or.inl h
  · refine Or.inr ⟨x, off, rfl, hx, Nat.lt_of_lt_of_le hs hg.size, fun i hi => ?_⟩
    obtain ⟨z, h0, h1, hz⟩ := h i hi
    exact ⟨z, h0, h1, hg.cell hz (by simp; omega)⟩
theorem grown_set {w w' : World} {b : Nat} (h : w.grownBy w' (some b)) (i : Nat) (v : Value) : w.grownBy (w'.setCell ⟨b, i, none⟩ v) (some b) :=
  ⟨h.os, h.tape, h.output, by simpa [World.setCell] using h.size, fun k hk hne => (Below.heap_setCell _ _ _ _ (by simpa using hne)).trans (h.block k hk hne)⟩
theorem grown_drew {w w' : World} {row : Option Nat} (h : w.grownBy w' row) : w.grownBy w'.drew row := ⟨h.os, h.tape, h.output, h.size, h.block⟩
theorem grown_refl (w : World) (row : Option Nat) : w.grownBy w row := ⟨rfl, rfl, rfl, Nat.le_refl _, fun _ _ _ => rfl⟩
theorem grown_trans {a w w' : World} {row : Option Nat} (h : a.grownBy w row) (k : w.grownBy w' row) : a.grownBy w' row :=
  ⟨k.os.trans h.os, k.tape.trans h.tape, k.output.trans h.output, Nat.le_trans h.size k.size, fun i hi hne => (k.block i (Nat.lt_of_lt_of_le hi h.size) hne).trans (h.block i hi hne)⟩
theorem grown_alloc {a w : World} {row : Option Nat} (h : a.grownBy w row) (o : Obj) : a.grownBy (w.alloc o) row :=
  ⟨h.os, h.tape, h.output, by have := h.size; simp; omega, fun i hi hne => (Below.heap_alloc _ _ _ (by have := h.size; omega)).trans (h.block i hi hne)⟩
theorem Cur.up {b len cap n m : Nat} {a : Option Addr} {w : World} (h : Cur b a len cap n w) (hn : n ≤ m) : Cur b a len cap m w := by
  obtain ⟨hc, k, s, hk, hr⟩ := h
  exact ⟨hc, k, s, by omega, hr⟩
/-- Behind a step that left the reader's block alone. -/
theorem Cur.far {b len cap n : Nat} {a : Option Addr} {w w' : World} (h : Cur b a len cap n w) (hg : w.grownBy w' none) : Cur b a len cap n w' := by
  obtain ⟨hc, k, s, hk, h0, h1, c0, c1, c2, f1, f2⟩ := h
  have hb : b < w.heap.size := World.block_lt_of_cell? w _ c0
  have ef : ∀ o, w'.frozen? ⟨b, o, none⟩ = w.frozen? ⟨b, o, none⟩ := fun o => World.frozen?_of_block (hg.block b hb (by simp))
  refine ⟨hc.kept ⟨hg.os, hg.tape, hg.output, hg.size, fun i hi _ => hg.block i hi (by simp)⟩, k, s, hk, h0, h1, hg.cell c0 (by simp), hg.cell c1 (by simp), hg.cell c2 (by simp), (ef 1).trans f1, (ef 2).trans f2⟩
/-- Its two stores. -/
theorem cur_stored {b len cap n k : Nat} {a : Option Addr} {w : World} {s s' : Int} (hc : Src b a len w) (hk : k ≤ n) (h0 : 0 ≤ s') (h1 : s' < 18446744073709551616) (c0 : w.cell? ⟨b, 0, none⟩ = some (.slice a len cap)) (c1 : w.cell? ⟨b, 1, none⟩ = some (.int .i64 (k : Int))) (c2 : w.cell? ⟨b, 2, none⟩ = some (.int .u64 s))
    (f1 : w.frozen? ⟨b, 1, none⟩ = false) (f2 : w.frozen? ⟨b, 2, none⟩ = false) :
    Cur b a len cap (n + 1) ((w.setCell ⟨b, 1, none⟩ (.int .i64 ((k : Int) + 1))).setCell ⟨b, 2, none⟩ (.int .u64 s')) := by
  have g : w.grownBy ((w.setCell ⟨b, 1, none⟩ (.int .i64 ((k : Int) + 1))).setCell ⟨b, 2, none⟩ (.int .u64 s')) (some b) := grown_set (grown_set (grown_refl _ _) _ _) _ _
  have e2 : (w.setCell ⟨b, 1, none⟩ (.int .i64 ((k : Int) + 1))).cell? ⟨b, 2, none⟩ = some (.int .u64 s) := (World.cell?_setCell_other _ _ _ _ (by simp)).trans c2
  refine ⟨hc.kept g, k + 1, s', by omega, h0, h1, ?_, ?_, World.cell?_setCell_same _ _ _ e2, by simpa using f1, by simpa using f2⟩
  · rw [World.cell?_setCell_other _ _ _ _ (by simp), World.cell?_setCell_other _ _ _ _ (by simp)]; exact c0
  · rw [World.cell?_setCell_other _ _ _ _ (by simp)]; exact (World.cell?_setCell_same _ _ _ c1).trans (by simp)
theorem Cur.drew {b len cap n : Nat} {a : Option Addr} {w : World} (h : Cur b a len cap n w) : Cur b a len cap n w.drew := h.far (grown_drew (grown_refl _ _))

theorem u64_wrap (n : Int) : 0 ≤ IntKind.u64.wrap n ∧ IntKind.u64.wrap n < 18446744073709551616 := by
  rw [IntKind.wrap_u64]; omega
theorem u64_and255 (y : Int) (h0 : 0 ≤ y) (h1 : y < 18446744073709551616) : bits .and .u64 y 255 = y % 256 := by
  rw [u64_and y 255 h0 h1 (by decide) (by decide), show (255 : Int).toNat = 255 from rfl, nat_mask8]; omega

theorem byte_out (n : Int) : 0 ≤ wrap64 (bits .and .u64 (IntKind.u64.wrap n / 1099511627776) 255) ∧ wrap64 (bits .and .u64 (IntKind.u64.wrap n / 1099511627776) 255) ≤ 255 := by
  have h := u64_wrap n
  rw [u64_and255 _ (by omega) (by omega), IntWalk.wrap64_in _ ⟨by omega, by omega⟩]
  omega

/-- What a step of the reader leaves. -/
def Step (b : Nat) (a : Option Addr) (len cap n m : Nat) (w : World) (lo hi : Int) (e : Ending) (w' : World) : Prop :=
  ∃ r : Int, lo ≤ r ∧ r ≤ hi ∧ e = .returned (.int .i64 r) ∧ Cur b a len cap (n + m) w' ∧ w.grownBy w' (some b)

set_option maxHeartbeats 400000 in
theorem next_in (b x off len cap n k : Nat) (s z : Int) (w : World) (hk : k < len) (hlen : len ≤ 1048576) (hkn : k ≤ n) (hcode : Hid (Src b (some ⟨x, off, none⟩) len w)) (hz0 : 0 ≤ z) (hz1 : z ≤ 255)
    (h0 : w.cell? ⟨b, 0, none⟩ = some (.slice (some ⟨x, off, none⟩) len cap)) (h1 : w.cell? ⟨b, 1, none⟩ = some (.int .i64 (k : Int))) (h2 : w.cell? ⟨b, 2, none⟩ = some (.int .u64 s))
    (f1 : w.frozen? ⟨b, 1, none⟩ = false) (f2 : w.frozen? ⟨b, 2, none⟩ = false) (hc : w.cell? ⟨x, off + k, none⟩ = some (.int .u8 z)) :
    Calls Try.prog 60 #[.pointer (some ⟨b, 0, none⟩)] w (Step b (some ⟨x, off, none⟩) len cap n 1 w 0 255) := by
  go_enter Try.func60, Try.ntmps60
  go_wp2
  go_region
  go_wp2
  go_region
  go_wp2
  go_region
  go_wp2
  go_ret
  exact ⟨z, hz0, hz1, rfl, ((cur_stored hcode.out hkn (u64_wrap _).1 (u64_wrap _).2 h0 h1 h2 f1 f2).drew).drew.drew, grown_drew (grown_drew (grown_drew (grown_set (grown_set (grown_refl _ _) _ _) _ _)))⟩

set_option maxHeartbeats 400000 in
theorem next_out (b len cap n k : Nat) (a : Option Addr) (s : Int) (w : World) (hk : len ≤ k) (_hlen : len ≤ 1048576) (hkn : k ≤ n) (hn : n ≤ 1099511627776) (hcode : Hid (Src b a len w))
    (h0 : w.cell? ⟨b, 0, none⟩ = some (.slice a len cap)) (h1 : w.cell? ⟨b, 1, none⟩ = some (.int .i64 (k : Int))) (h2 : w.cell? ⟨b, 2, none⟩ = some (.int .u64 s))
    (f1 : w.frozen? ⟨b, 1, none⟩ = false) (f2 : w.frozen? ⟨b, 2, none⟩ = false) :
    Calls Try.prog 60 #[.pointer (some ⟨b, 0, none⟩)] w (Step b a len cap n 1 w 0 255) := by
  go_enter Try.func60, Try.ntmps60
  go_wp2
  go_region
  go_wp2
  go_region
  go_wp2
  go_ret
  exact ⟨_, (byte_out _).1, (byte_out _).2, rfl, ((cur_stored hcode.out hkn (u64_wrap _).1 (u64_wrap _).2 h0 h1 h2 f1 f2).drew).drew, grown_drew (grown_drew (grown_set (grown_set (grown_refl _ _) _ _) _ _))⟩

/-- A STEP OF THE READER: a number from 0 to 255. -/
theorem next_any {b len cap n : Nat} {a : Option Addr} {w : World} (h : Cur b a len cap n w) (hlen : len ≤ 1048576) (hn : n ≤ 1099511627776) :
    Calls Try.prog 60 #[.pointer (some ⟨b, 0, none⟩)] w (Step b a len cap n 1 w 0 255) := by
  obtain ⟨hc, k, s, hk, h0, h1, c0, c1, c2, f1, f2⟩ := h
  by_cases hlt : k < len
  · have hc' := hc
    rcases hc with hz | ⟨x, off, rfl, hx, hs, hb⟩
    · omega
    · obtain ⟨z, z0, z1, hz⟩ := hb k hlt
      exact next_in b x off len cap n k s z w hlt hlen hk hc' z0 z1 c0 c1 c2 f1 f2 hz
  · exact next_out b len cap n k a s w (by omega) hlen hk hn hc c0 c1 c2 f1 f2

set_option maxHeartbeats 400000 in
/-- A NUMBER BELOW m. -/
theorem pick_any {b len cap n : Nat} {a : Option Addr} {w : World} (m : Int) (h : Cur b a len cap n w) (hlen : len ≤ 1048576) (hn : n ≤ 1099511627770) (hm : 1 ≤ m) :
    Calls Try.prog 44 #[.pointer (some ⟨b, 0, none⟩), .int .i64 m] w (Step b a len cap n 2 w 0 (m - 1)) := by
  have H : Hid (Cur b a len cap n w) := h
  clear h
  by_cases h1 : m ≤ 1
  · go_enter Try.func44, Try.ntmps44
    go_wp2
    go_ret
    exact ⟨0, by omega, by omega, rfl, H.out.up (by omega), grown_refl _ _⟩
  · have h1' : 1 < m := by omega
    clear h1
    by_cases h2 : 200 < m
    · go_enter Try.func44, Try.ntmps44
      go_wp2_with fail
      refine (next_any H.out hlen (by omega)).mono ?_
      rintro e w1 ⟨r, r0, r1, rfl, HC, HG⟩
      have H1 : Hid (Cur b a len cap (n + 1) w1) := HC
      have G1 : Hid (w.grownBy w1 (some b)) := HG
      clear HC HG H
      go_wp2_with fail
      refine (next_any H1.out hlen (by omega)).mono ?_
      rintro e w2 ⟨q, q0, q1, rfl, HC, HG⟩
      have H2 : Hid (Cur b a len cap (n + 1 + 1) w2) := HC
      have G2 : Hid (w1.grownBy w2 (some b)) := HG
      clear HC HG H1
      have e1 : 0 ≤ (r * 256 + q) % m := Int.emod_nonneg _ (by omega)
      have e2 : (r * 256 + q) % m < m := Int.emod_lt_of_pos _ (by omega)
      go_wp2
      go_ret
      exact ⟨_, e1, by omega, rfl, H2.out.up (by omega), grown_trans G1.out G2.out⟩
    · have h2' : m ≤ 200 := by omega
      clear h2
      go_enter Try.func44, Try.ntmps44
      go_wp2_with fail
      refine (next_any H.out hlen (by omega)).mono ?_
      rintro e w1 ⟨r, r0, r1, rfl, HC, HG⟩
      have H1 : Hid (Cur b a len cap (n + 1) w1) := HC
      have G1 : Hid (w.grownBy w1 (some b)) := HG
      clear HC HG H
      have e1 : 0 ≤ r % m := Int.emod_nonneg _ (by omega)
      have e2 : r % m < m := Int.emod_lt_of_pos _ (by omega)
      go_wp2
      go_ret
      exact ⟨_, e1, by omega, rfl, H1.out.up (by omega), G1.out⟩

/-- YES OR NO. -/
theorem one_any {b len cap n : Nat} {a : Option Addr} {w : World} (m : Int) (h : Cur b a len cap n w) (hlen : len ≤ 1048576) (hn : n ≤ 1099511627770) (hm : 1 ≤ m) :
    Calls Try.prog 47 #[.pointer (some ⟨b, 0, none⟩), .int .i64 m] w fun e w' => ∃ y : Bool, e = .returned (.bool y) ∧ Cur b a len cap (n + 2) w' ∧ w.grownBy w' (some b) := by
  have H : Hid (Cur b a len cap n w) := h
  clear h
  go_enter Try.func47, Try.ntmps47
  go_wp2_with fail
  refine (pick_any m H.out hlen hn hm).mono ?_
  rintro e w1 ⟨r, r0, r1, rfl, HC, HG⟩
  have H1 : Hid (Cur b a len cap (n + 2) w1) := HC
  have G1 : Hid (w.grownBy w1 (some b)) := HG
  clear HC HG H
  go_wp2
  go_ret
  exact ⟨_, rfl, H1.out, G1.out⟩

/-- A reader that has just been laid. -/
theorem cur_new {a : Option Addr} {len cap : Nat} {w : World} (t : TypeId) (h : Src w.heap.size a len w) : Cur w.heap.size a len cap 0 (w.alloc (.cells #[.slice a len cap, .int .i64 0, .int .u64 0] t)) := by
  refine ⟨h.kept (grown_alloc (grown_refl _ _) _), 0, 0, Nat.le_refl _, by decide, by decide, ?_, ?_, ?_, ?_, ?_⟩
  · simp
  · simp
  · simp
  · simp
  · simp
theorem below_of_grown {w w1 w' : World} {b : Nat} (hb : Below b w w1) (hz : b ≤ w1.heap.size) (hg : w1.grownBy w' (some b)) : Below b w w' := hb.grown hg hz (fun k hk => by cases hk; exact Nat.le_refl _)

/-- The list that 'among' is handed: a row of its own, each number within bounds. -/
def Listed (b : Nat) (y m : Nat) (lo hi : Int) (w : World) : Prop := y ≠ b ∧ y < w.heap.size ∧ ∀ i, i < m → ∃ z : Int, lo ≤ z ∧ z ≤ hi ∧ w.cell? ⟨y, i, none⟩ = some (.int .i64 z)
theorem Listed.kept {b y m : Nat} {lo hi : Int} {w w' : World} (h : Listed b y m lo hi w) (hg : w.grownBy w' (some b)) : Listed b y m lo hi w' := by
  obtain ⟨h0, h1, h2⟩ := h
  refine ⟨h0, Nat.lt_of_lt_of_le h1 hg.size, fun i hi => ?_⟩
  obtain ⟨z, a, c, hz⟩ := h2 i hi
  exact ⟨z, a, c, hg.cell hz (by simp; omega)⟩

/-- A list that has just been laid. -/
theorem listed_new {b len cap n : Nat} {a : Option Addr} {lo hi : Int} {w : World} (h : Cur b a len cap n w) (t : TypeId) (zs : List Int) (hz : ∀ z ∈ zs, lo ≤ z ∧ z ≤ hi) :
    Listed b w.heap.size zs.length lo hi (w.alloc (.cells (zs.map (Value.int .i64)).toArray t)) := by
  have hb : b < w.heap.size := by
    obtain ⟨_, _, _, _, _, _, c0, _⟩ := h
    exact World.block_lt_of_cell? w _ c0
  refine ⟨by omega, by simp, fun i hi => ?_⟩
  refine ⟨zs[i], (hz _ (List.getElem_mem hi)).1, (hz _ (List.getElem_mem hi)).2, ?_⟩
  rw [World.cell?_alloc_new]
  simp [hi]
theorem Cur.alloc {b len cap n : Nat} {a : Option Addr} {w : World} (h : Cur b a len cap n w) (o : Obj) : Cur b a len cap n (w.alloc o) := h.far (grown_alloc (grown_refl _ _) o)

set_option maxHeartbeats 400000 in
theorem among_any {b len cap n y m cp : Nat} {a : Option Addr} {lo hi : Int} {w : World} (h : Cur b a len cap n w) (hL : Listed b y m lo hi w) (hm : 1 ≤ m) (hm' : m ≤ 1000) (hlen : len ≤ 1048576) (hn : n ≤ 1099511627770) :
    Calls Try.prog 49 #[.pointer (some ⟨b, 0, none⟩), .slice (some ⟨y, 0, none⟩) m cp] w (Step b a len cap n 2 w lo hi) := by
  have H : Hid (Cur b a len cap n w) := h
  have L : Hid (Listed b y m lo hi w) := hL
  clear h hL
  go_enter Try.func49, Try.ntmps49
  go_wp2_with fail
  refine (pick_any (m : Int) H.out hlen hn (by omega)).mono ?_
  rintro e w1 ⟨r, r0, r1, rfl, HC, HG⟩
  have H1 : Hid (Cur b a len cap (n + 2) w1) := HC
  have G1 : Hid (w.grownBy w1 (some b)) := HG
  have L1 : Hid (Listed b y m lo hi w1) := L.out.kept HG
  clear HC HG H L
  obtain ⟨i, rfl⟩ := Int.eq_ofNat_of_zero_le r0
  have hi' : i < m := by omega
  obtain ⟨z, z0, z1, hz⟩ := L1.out.2.2 i hi'
  have Z0 : Hid (lo ≤ z) := z0
  have Z1 : Hid (z ≤ hi) := z1
  clear z0 z1 r0 r1
  go_wp2
  go_ret
  exact ⟨z, Z0.out, Z1.out, rfl, H1.out, G1.out⟩
end Go.Proofs.Ytldmeffhbabanaa.cur
