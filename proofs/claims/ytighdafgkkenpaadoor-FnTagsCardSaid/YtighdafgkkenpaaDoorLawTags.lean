/-
  Whatever bytes are handed in: numbers come back from their words, and words with the lowest bit 0 are addresses, for the words that the specification draws from them, where the program's table wordBits holds what its own text lays there (tied by the card).
-/
import Derived.Test.YtighdafgkkenpaaDoorCards
import Derived.Test.YtighdafgkkenpaaDoorTie
import Derived.Test.YtighdafgkkenpaaDoorLoops
import Derived.Test.YtighdafgkkenpaaDoorTagsAll
import Derived.Test.YtighdafgkkenpaaDoorCurTags
import Derived.SizedLaws
import Derived.WalkKit
import Derived.ProofKit
import Derived.OpenShut
import Derived.OpenVars
import Derived.ChangeOld
import Derived.Below
import Derived.Deep.DeepHandedRow
import Derived.Lib.LaidTab
namespace Go.Proofs.YtighdafgkkenpaaDoor.fnTags
open Go.ChangeShapes Go.WideShapes Go.ChangeAt Go.RowKit
open Go.Proofs.YtighdafgkkenpaaDoor.math
open Go.Proofs.YtighdafgkkenpaaDoor.walks
open Go.Proofs.YtighdafgkkenpaaDoor.tags
open Go.Proofs.YtighdafgkkenpaaDoor.cur
set_option linter.unusedVariables false

theorem own : ownKnob Tryd.prog.godebug = none := by kernel_rfl
theorem laidOut : laidOutB Tryd.prog = true := by kernel_rfl
theorem rowed : varsRowed Tryd.prog Rows.fnTagsSpec.vars = true := by kernel_rfl
theorem g0 : Tryd.prog.globalNamed "loop.example/g00350/impl.wordBits" = some 0 := by kernel_rfl
theorem gt0 : (Tryd.prog.globals[0]?).map (·.type) = some 37 := by kernel_rfl
theorem gc0 : Tryd.prog.cellsOf 37 = 16 := by kernel_rfl
theorem ge0 : Tryd.prog.cellsOf 3 = 1 := by kernel_rfl
theorem table {W : World} (h : laidMetH Tryd.prog Rows.fnTagsRow.laid W) : Lib.TabIs Tryd.prog W "loop.example/g00350/impl.wordBits" .i64 [1, 2, 4, 8, 16, 32, 64, 128, 256, 512, 1024, 2048, 4096, 8192, 16384, 32768] :=
  Lib.tabIs_of_head (rest := []) g0 gt0 Tryd.underlying37 Tryd.underlying3 ge0 gc0 h

/-- What the walk is told of a slice of bytes that came in. -/
def IsRow (k : IntKind) (w : World) (a : Option Addr) (len cap : Nat) (zs : List Int) : Prop :=
  (a = none ∧ len = 0 ∧ cap = 0 ∧ zs = []) ∨
  ∃ x, a = some x ∧ len ≤ cap ∧ cap ≤ maxLen ∧ zs.length = cap ∧ (∀ i, i < zs.length → w.cell? (x.add i) = some (.int k (zs.getD i 0))) ∧ ∀ n ∈ zs, (Lit.int k n).wf = true

theorem code_of {w : World} {a : Option Addr} {len cap : Nat} {zs : List Int} (h : IsRow .u8 w a len cap zs) : Src w.heap.size a len w := by
  rcases h with ⟨_, rfl, _, _⟩ | ⟨x, rfl, hl, hm, hz, hcell, hwz⟩
  · exact Or.inl rfl
  · obtain ⟨b, off, spot⟩ := x
    by_cases h0 : len = 0
    · exact Or.inl h0
    · have hc := hcell 0 (by omega)
      have hspot : spot = none := by simpa [Addr.add] using World.cell?_spot hc
      subst hspot
      have hb : b < w.heap.size := by simpa [Addr.add] using World.block_lt_of_cell? w _ hc
      refine Or.inr ⟨b, off, rfl, hb, hb, fun i hi => ?_⟩
      have hi' : i < zs.length := by omega
      have e : zs.getD i 0 = zs[i] := by simp [List.getD, hi']
      have hbd := bounds_u8 (hwz zs[i] (List.getElem_mem hi'))
      have ha : (⟨b, off, none⟩ : Addr).add i = ⟨b, off + i, none⟩ := by
        unfold Addr.add
        split
        · rename_i h; subst h; rfl
        · rfl
      have hc1 := hcell i hi'
      rw [e, ha] at hc1
      exact ⟨zs[i], by omega, by omega, hc1⟩
theorem row_len {w : World} {a : Option Addr} {len cap : Nat} {zs : List Int} (h : IsRow .u8 w a len cap zs) : len ≤ cap := by
  rcases h with ⟨_, rfl, rfl, _⟩ | ⟨x, _, hl, _⟩
  · exact Nat.le_refl _
  · exact hl
theorem src_later {a : Option Addr} {len : Nat} {W w : World} (h : Src W.heap.size a len W) (hb : Below W.heap.size W w) : Src w.heap.size a len w := by
  rcases h with h | ⟨x, off, rfl, hx, hs, h⟩
  · exact Or.inl h
  · have := hb.size
    refine Or.inr ⟨x, off, rfl, by omega, by omega, fun i hi => ?_⟩
    obtain ⟨z, h0, h1, hz⟩ := h i hi
    exact ⟨z, h0, h1, (hb.cell (p := ⟨x, off + i, none⟩) hx).trans hz⟩
theorem powers : ∀ k : Nat, k < 16 → ([1, 2, 4, 8, 16, 32, 64, 128, 256, 512, 1024, 2048, 4096, 8192, 16384, 32768] : List Int).getD k 0 = ((2 ^ k : Nat) : Int) := by decide
theorem table_of {W : World} (h : Lib.TabIs Tryd.prog W "loop.example/g00350/impl.wordBits" .i64 [1, 2, 4, 8, 16, 32, 64, 128, 256, 512, 1024, 2048, 4096, 8192, 16384, 32768]) : Table W := by
  intro k hk
  have h1 := h.cell g0 k (by simpa using hk)
  rw [powers k hk] at h1
  exact h1
theorem table_later {W w : World} (h : Table W) (hb : Below W.heap.size W w) : Table w := by
  intro k hk
  have h0 := h k hk
  exact (hb.cell (p := ⟨0, k, none⟩) (World.block_lt_of_cell? W _ h0)).trans h0
theorem pow_cast (j : Nat) : ((2 ^ j : Nat) : Int) = (2 : Int) ^ j := by simp
theorem shl_less {a j : Nat} (ha : a ≤ 65535) (h : Low a j) : wrap64 ((a : Int) - wrap64 ((2 : Int) ^ j)) = ((a - 2 ^ j : Nat) : Int) := by
  have h1 := low_le h
  have h0 := Nat.two_pow_pos j
  have e : wrap64 ((2 ^ j : Nat) : Int) = ((2 ^ j : Nat) : Int) := IntWalk.wrap64_in _ ⟨by omega, by omega⟩
  rw [← pow_cast, e, IntWalk.wrap64_in _ ⟨by omega, by omega⟩]
  omega
theorem shr_one {a j : Nat} (h : Low a j) : bits .and .i64 ((a : Int) / (2 : Int) ^ j) 1 = 1 := by
  rw [and_one, ← pow_cast]
  have h2 := h.2
  have h3 : (a : Int) / ((2 ^ j : Nat) : Int) = ((a / 2 ^ j : Nat) : Int) := by simp
  rw [h3]
  omega

set_option maxRecDepth 100000 in
theorem walk_big (a0 : Option Addr) (len0 cap0 : Nat) (a1 : Option Addr) (len1 cap1 : Nat) (w : World) (h0 : len0 ≤ 140737488355328) (h1 : len1 ≤ 140737488355328) (hb : (1048576 : Int) < (len0 : Int) + (len1 : Int)) :
    Calls Tryd.prog 3 #[.slice a0 len0 cap0, .slice a1 len1 cap1] w fun e w' => e = .returned (.bool true) ∧ Below w.heap.size w w' := by
  go_enter Tryd.func3, Tryd.ntmps3
  go_wp2
  go_ret
  exact ⟨rfl, Below.refl _ _⟩

set_option maxRecDepth 100000 in
set_option maxHeartbeats 4000000 in
theorem walk (a0 : Option Addr) (len0 cap0 : Nat) (z0 : List Int) (a1 : Option Addr) (len1 cap1 : Nat) (z1 : List Int) (w : World) (w0 : IsRow .u8 w a0 len0 cap0 z0) (b0 : cap0 ≤ 140737488355328) (w1 : IsRow .u8 w a1 len1 cap1 z1) (b1 : cap1 ≤ 140737488355328)
    (tab : Lib.TabIs Tryd.prog w "loop.example/g00350/impl.wordBits" .i64 [1, 2, 4, 8, 16, 32, 64, 128, 256, 512, 1024, 2048, 4096, 8192, 16384, 32768]) :
    Calls Tryd.prog 3 #[.slice a0 len0 cap0, .slice a1 len1 cap1] w fun e w' => e = .returned (.bool true) ∧ Below w.heap.size w w' := by
  have l0 := row_len w0
  have l1 := row_len w1
  by_cases hbig : 1048576 < len0 + len1
  · exact walk_big a0 len0 cap0 a1 len1 cap1 w (by omega) (by omega) (by omega)
  have hs : (len0 : Int) + (len1 : Int) ≤ 1048576 := by omega
  have hlen0 : len0 ≤ 1048576 := by omega
  have hlen1 : len1 ≤ 1048576 := by omega
  have S0 : Hid (Src w.heap.size a0 len0 w) := code_of w0
  have S1 : Hid (Src w.heap.size a1 len1 w) := code_of w1
  have T : Hid (Table w) := table_of tab
  clear hbig w0 w1 tab l0 l1 b0 b1
  go_enter Tryd.func3, Tryd.ntmps3
  go_wp2_with fail
  refine (drawTag_any S0.out hlen0).mono ?_
  rintro e w1 ⟨n, rfl, HG⟩
  have G1 : Hid (Below w.heap.size w w1) := HG
  clear HG S0
  have nn : inB n = false ∨ (inB n = true ∧ smallB (tagW n) = true ∧ unt (tagW n) = n ∧ addrB (tagW n) = false) := by
    cases h : inB n
    · exact Or.inl rfl
    · exact Or.inr ⟨rfl, (tag_back h).1, (tag_back h).2, small_not_addr (tag_back h).1⟩
  rcases nn with n0 | ⟨n0, n1, n2, n3⟩
  all_goals
    go_wp2_with (first | (go_at_call 5; refine (impl_tagSmall _ _).mono ?_; rintro e w' ⟨rfl, rfl⟩) | (go_at_call 6; refine (spec_tagSmall _ _).mono ?_; rintro e w' ⟨rfl, rfl⟩) | (go_at_call 7; refine (impl_untagSmall _ _).mono ?_; rintro e w' ⟨rfl, rfl⟩) | (go_at_call 11; refine (spec_untagSmall _ _).mono ?_; rintro e w' ⟨rfl, rfl⟩) | (go_at_call 8; refine (impl_untagAddr _ _).mono ?_; rintro e w' ⟨rfl, rfl⟩) | (go_at_call 12; refine (spec_untagAddr _ _).mono ?_; rintro e w' ⟨rfl, rfl⟩) | (go_at_call 9; refine (impl_isSmall _ _).mono ?_; rintro e w' ⟨rfl, rfl⟩) | (go_at_call 13; refine (impl_tagAddr _ _).mono ?_; rintro e w' ⟨rfl, rfl⟩) | (go_at_call 19; refine (spec_tagAddr _ _).mono ?_; rintro e w' ⟨rfl, rfl⟩))
    refine (drawWord_any (src_later S1.out G1.out) hlen1).mono ?_
    rintro e w2 ⟨v, rfl, HG⟩
    have G : Hid (Below w.heap.size w w2) := G1.out.trans (HG.mono G1.out.size)
    clear HG G1
    by_cases hv : v < 0 ∨ 65535 < v
    · have NW : Hid (v < 0 ∨ 65535 < v) := hv
      have v0 : smallB v = false := by rcases hv with h | h; exact smallB_lt h; exact smallB_gt h
      have v1 : addrB v = false := by rcases hv with h | h; exact addrB_lt h; exact addrB_gt h
      have NZ : Hid (v < 0 ∨ 65535 < v ∨ v = 0) := by show v < 0 ∨ 65535 < v ∨ v = 0; omega
      clear hv
      go_wp2_with (first | (go_at_call 5; refine (impl_tagSmall _ _).mono ?_; rintro e w' ⟨rfl, rfl⟩) | (go_at_call 6; refine (spec_tagSmall _ _).mono ?_; rintro e w' ⟨rfl, rfl⟩) | (go_at_call 7; refine (impl_untagSmall _ _).mono ?_; rintro e w' ⟨rfl, rfl⟩) | (go_at_call 11; refine (spec_untagSmall _ _).mono ?_; rintro e w' ⟨rfl, rfl⟩) | (go_at_call 8; refine (impl_untagAddr _ _).mono ?_; rintro e w' ⟨rfl, rfl⟩) | (go_at_call 12; refine (spec_untagAddr _ _).mono ?_; rintro e w' ⟨rfl, rfl⟩) | (go_at_call 9; refine (impl_isSmall _ _).mono ?_; rintro e w' ⟨rfl, rfl⟩) | (go_at_call 13; refine (impl_tagAddr _ _).mono ?_; rintro e w' ⟨rfl, rfl⟩) | (go_at_call 19; refine (spec_tagAddr _ _).mono ?_; rintro e w' ⟨rfl, rfl⟩) | (go_at_call 14; refine (impl_count_no _ NW.out _).mono ?_; rintro e w' ⟨rfl, rfl⟩) | (go_at_call 15; refine (spec_count_no _ NW.out _).mono ?_; rintro e w' ⟨rfl, rfl⟩) | (go_at_call 16; refine (impl_low_no _ NW.out _).mono ?_; rintro e w' ⟨rfl, rfl⟩) | (go_at_call 17; refine (spec_low_no _ NZ.out _).mono ?_; rintro e w' ⟨rfl, rfl⟩))
      refine (drawAddr_any (src_later S1.out G.out) hlen1).mono ?_
      rintro e w3 ⟨c, rfl, HG⟩
      have G3 : Hid (Below w.heap.size w w3) := G.out.trans (HG.mono G.out.size)
      clear HG G
      go_wp2_with (first | (go_at_call 5; refine (impl_tagSmall _ _).mono ?_; rintro e w' ⟨rfl, rfl⟩) | (go_at_call 6; refine (spec_tagSmall _ _).mono ?_; rintro e w' ⟨rfl, rfl⟩) | (go_at_call 7; refine (impl_untagSmall _ _).mono ?_; rintro e w' ⟨rfl, rfl⟩) | (go_at_call 11; refine (spec_untagSmall _ _).mono ?_; rintro e w' ⟨rfl, rfl⟩) | (go_at_call 8; refine (impl_untagAddr _ _).mono ?_; rintro e w' ⟨rfl, rfl⟩) | (go_at_call 12; refine (spec_untagAddr _ _).mono ?_; rintro e w' ⟨rfl, rfl⟩) | (go_at_call 9; refine (impl_isSmall _ _).mono ?_; rintro e w' ⟨rfl, rfl⟩) | (go_at_call 13; refine (impl_tagAddr _ _).mono ?_; rintro e w' ⟨rfl, rfl⟩) | (go_at_call 19; refine (spec_tagAddr _ _).mono ?_; rintro e w' ⟨rfl, rfl⟩))
      go_ret
      exact ⟨rfl, G3.out⟩
    obtain ⟨a, rfl⟩ := Int.eq_ofNat_of_zero_le (show 0 ≤ v by omega)
    have ha : a ≤ 65535 := by omega
    clear hv
    have vv : (smallB (a : Int) = false ∧ addrB (a : Int) = true ∧ atB (adr (a : Int)) = true ∧ atW (adr (a : Int)) = a) ∨ (smallB (a : Int) = true ∧ addrB (a : Int) = false ∧ inB (unt (a : Int)) = true ∧ tagW (unt (a : Int)) = a) := by
      by_cases h : (a : Int) % 2 = 0
      · have h1 : addrB (a : Int) = true := addrB_mk (by omega) (by omega) h
        exact Or.inl ⟨addr_not_small h1, h1, (unaddr_back h1).1, (unaddr_back h1).2⟩
      · have h1 : smallB (a : Int) = true := smallB_mk (by omega) (by omega) (by omega)
        exact Or.inr ⟨h1, small_not_addr h1, (untag_back h1).1, (untag_back h1).2⟩
    rcases vv with ⟨v0, v1, v2, v3⟩ | ⟨v0, v1, v2, v3⟩
    all_goals
      go_wp2_with (first | (go_at_call 5; refine (impl_tagSmall _ _).mono ?_; rintro e w' ⟨rfl, rfl⟩) | (go_at_call 6; refine (spec_tagSmall _ _).mono ?_; rintro e w' ⟨rfl, rfl⟩) | (go_at_call 7; refine (impl_untagSmall _ _).mono ?_; rintro e w' ⟨rfl, rfl⟩) | (go_at_call 11; refine (spec_untagSmall _ _).mono ?_; rintro e w' ⟨rfl, rfl⟩) | (go_at_call 8; refine (impl_untagAddr _ _).mono ?_; rintro e w' ⟨rfl, rfl⟩) | (go_at_call 12; refine (spec_untagAddr _ _).mono ?_; rintro e w' ⟨rfl, rfl⟩) | (go_at_call 9; refine (impl_isSmall _ _).mono ?_; rintro e w' ⟨rfl, rfl⟩) | (go_at_call 13; refine (impl_tagAddr _ _).mono ?_; rintro e w' ⟨rfl, rfl⟩) | (go_at_call 19; refine (spec_tagAddr _ _).mono ?_; rintro e w' ⟨rfl, rfl⟩))
      refine (impl_count a ha _ (table_later T.out G.out)).mono ?_
      rintro e _ ⟨rfl, rfl⟩
      go_wp2_with fail
      refine (spec_count a ha _).mono ?_
      rintro e _ ⟨rfl, rfl⟩
      go_wp2_with fail
      refine (impl_low a ha _ (table_later T.out G.out)).mono ?_
      rintro e _ ⟨hh, rfl⟩
      have HH : Hid ((0 < a ∧ ∃ j : Nat, Low a j ∧ e = .returned (.tuple #[.int .i64 (j : Int), .bool true])) ∨ (a = 0 ∧ e = .returned (.tuple #[.int .i64 0, .bool false]))) := hh
      clear hh
      by_cases hz : a = 0
      · obtain rfl : e = .returned (.tuple #[.int .i64 0, .bool false]) := by
          rcases HH.out with ⟨h, _⟩ | ⟨_, h⟩
          · omega
          · exact h
        have ZN : Hid ((a : Int) < 0 ∨ 65535 < (a : Int) ∨ (a : Int) = 0) := Or.inr (Or.inr (by omega))
        clear HH hz
        go_wp2_with fail
        refine (spec_low_no _ ZN.out _).mono ?_
        rintro e _ ⟨rfl, rfl⟩
        go_wp2_with fail
        refine (drawAddr_any (src_later S1.out G.out) hlen1).mono ?_
        rintro e w3 ⟨c, rfl, HG⟩
        have G3 : Hid (Below w.heap.size w w3) := G.out.trans (HG.mono G.out.size)
        clear HG G
        go_wp2_with (first | (go_at_call 5; refine (impl_tagSmall _ _).mono ?_; rintro e w' ⟨rfl, rfl⟩) | (go_at_call 6; refine (spec_tagSmall _ _).mono ?_; rintro e w' ⟨rfl, rfl⟩) | (go_at_call 7; refine (impl_untagSmall _ _).mono ?_; rintro e w' ⟨rfl, rfl⟩) | (go_at_call 11; refine (spec_untagSmall _ _).mono ?_; rintro e w' ⟨rfl, rfl⟩) | (go_at_call 8; refine (impl_untagAddr _ _).mono ?_; rintro e w' ⟨rfl, rfl⟩) | (go_at_call 12; refine (spec_untagAddr _ _).mono ?_; rintro e w' ⟨rfl, rfl⟩) | (go_at_call 9; refine (impl_isSmall _ _).mono ?_; rintro e w' ⟨rfl, rfl⟩) | (go_at_call 13; refine (impl_tagAddr _ _).mono ?_; rintro e w' ⟨rfl, rfl⟩) | (go_at_call 19; refine (spec_tagAddr _ _).mono ?_; rintro e w' ⟨rfl, rfl⟩))
        go_ret
        exact ⟨rfl, G3.out⟩
      · have hp : 0 < a := by omega
        obtain ⟨j, HJ, rfl⟩ : ∃ j : Nat, Hid (Low a j) ∧ e = .returned (.tuple #[.int .i64 (j : Int), .bool true]) := by
          rcases HH.out with ⟨_, h⟩ | ⟨h, _⟩
          · exact h
          · omega
        clear HH hz
        have hj : j < 16 := low_lt ha HJ.out
        go_wp2_with fail
        refine (spec_low a ha hp _).mono ?_
        rintro e _ ⟨i, HI, he, rfl⟩
        obtain rfl : e = .returned (.tuple #[.int .i64 (j : Int), .bool true]) := by rw [he, low_one HI HJ.out]
        clear HI he
        have e1 := shl_less ha HJ.out
        have hle : a - 2 ^ j ≤ 65535 := Nat.le_trans (Nat.sub_le _ _) ha
        have hL : ((pcN 16 (a - 2 ^ j) : Nat) : Int) = ((pcN 16 a : Nat) : Int) - 1 := by have := pcN_less ha HJ.out; omega
        have hp1 : (1 : Int) ≤ ((pcN 16 a : Nat) : Int) := by have := pcN_less ha HJ.out; omega
        have hp2 : ((pcN 16 a : Nat) : Int) ≤ 16 := by have := pcN_le a 16; omega
        have hB := shr_one HJ.out
        have E1 : Hid (wrap64 ((a : Int) - wrap64 (2 ^ j)) = ((a - 2 ^ j : Nat) : Int)) := e1
        clear e1
        go_wp2_with fail
        rw [E1.out]
        refine (impl_count (a - 2 ^ j) hle _ (table_later T.out G.out)).mono ?_
        rintro e _ ⟨rfl, rfl⟩
        go_wp2_with fail
        refine (drawAddr_any (src_later S1.out G.out) hlen1).mono ?_
        rintro e w3 ⟨c, rfl, HG⟩
        have G3 : Hid (Below w.heap.size w w3) := G.out.trans (HG.mono G.out.size)
        clear HG G
        go_wp2_with (first | (go_at_call 5; refine (impl_tagSmall _ _).mono ?_; rintro e w' ⟨rfl, rfl⟩) | (go_at_call 6; refine (spec_tagSmall _ _).mono ?_; rintro e w' ⟨rfl, rfl⟩) | (go_at_call 7; refine (impl_untagSmall _ _).mono ?_; rintro e w' ⟨rfl, rfl⟩) | (go_at_call 11; refine (spec_untagSmall _ _).mono ?_; rintro e w' ⟨rfl, rfl⟩) | (go_at_call 8; refine (impl_untagAddr _ _).mono ?_; rintro e w' ⟨rfl, rfl⟩) | (go_at_call 12; refine (spec_untagAddr _ _).mono ?_; rintro e w' ⟨rfl, rfl⟩) | (go_at_call 9; refine (impl_isSmall _ _).mono ?_; rintro e w' ⟨rfl, rfl⟩) | (go_at_call 13; refine (impl_tagAddr _ _).mono ?_; rintro e w' ⟨rfl, rfl⟩) | (go_at_call 19; refine (spec_tagAddr _ _).mono ?_; rintro e w' ⟨rfl, rfl⟩))
        go_ret
        exact ⟨rfl, G3.out⟩

theorem contract (H : Type) (enc : TypeId × Value → H) (W : World) (base : Nat) (args : Array Value) (ds gs : List (DataW H)) (before : List MemPlace)
    (hval : ∀ (j : Nat) t v, Tryd.f3.params[j]? = some t → args[j]? = some v → Value.okWide Tryd.prog W .any base t v)
    (hW : DataW.Whole enc Tryd.prog Tryd.f3.params.toList Rows.fnTagsSpec.vars false W args.toList ds gs before) (hsz0 : (DataW.weightsEach Tryd.prog (Tryd.f3.params.toList ++ (OpenSpec.ofChange Rows.fnTagsSpec).bare.plain.varTypes Tryd.prog) (ds ++ gs)).all (· ≤ reachBytes) = true) (hL : laidMetH Tryd.prog Rows.fnTagsRow.laid W) :
    Calls Tryd.prog 3 args W fun e W' => ∃ v, e = .returned v ∧ Rows.fnTagsSpec.post enc Tryd.prog Tryd.f3 false true false false W args v W' := by
  have hW' := hW
  obtain ⟨p, q, hA0, hV, rfl, hfz, hnd⟩ := hW
  have hA : DataW.TrodAll enc Tryd.prog W 0 (fun _ => true) true Tryd.f3.params.toList args.toList ds p := hA0
  have hsz := hsz0
  rw [Tryd.params3] at hA hval hsz
  obtain ⟨g, t, cs, fuel, g1, pg, rfl, _, _, _, _, _⟩ := trodVars_one hV
  obtain ⟨v0, vs0, d0, ds0, p0, q0, hargs, rfl, rfl, h0, r0⟩ := trodAll_cons hA
  obtain ⟨v1, vs1, d1, ds1, p1, q1, rfl, rfl, rfl, h1, r1⟩ := trodAll_cons r0
  obtain ⟨rfl, rfl, rfl⟩ := trodAll_nil r1
  obtain rfl : args = #[v0, v1] := by cases args; simp_all
  obtain ⟨a0, len0, cap0, rfl⟩ := okWide_slice Tryd.underlying22 (hval 0 22 v0 rfl rfl)
  have k0 := h0
  have lt0 : ∀ x ∈ p0, x.block < W.heap.size := by obtain ⟨m, hm⟩ := k0; exact DataW.trod_lt m _ _ _ hm
  obtain ⟨z0, w0, b0⟩ : ∃ zs, IsRow .u8 W a0 len0 cap0 zs ∧ cap0 ≤ 140737488355328 := by
    obtain ⟨fuel, hf⟩ := h0
    rcases open_ints Tryd.underlying22 Tryd.underlying5 (by kernel_rfl) hf with ⟨hcs, _⟩ | ⟨x, l, c, zs, hcs, _, hl, hm, hz, hx, hcell, hwz⟩
    · simp [Value.cells] at hcs
      obtain ⟨rfl, rfl, rfl⟩ := hcs
      exact ⟨[], .inl ⟨rfl, rfl, rfl, rfl⟩, by omega⟩
    · simp [Value.cells] at hcs
      obtain ⟨rfl, rfl, rfl⟩ := hcs
      have hz' : zs.length = cap0 := by simpa using hz
      have hd : d0 = .slice (lits .u8 (zs.take len0)) (lits .u8 (zs.drop len0)) := congrArg Prod.fst hx
      have hs := sized_slice hsz (j := 0) (t := 22) (e := 5) rfl (by rw [hd]; rfl) Tryd.underlying22
      rw [show Tryd.prog.bytesOf 5 = 1 by kernel_rfl] at hs
      simp only [lits, List.length_map, List.length_take, List.length_drop] at hs
      have hr := reachBytes_lt
      exact ⟨zs, .inr ⟨_, rfl, hl, hm, hz', hcell, hwz⟩, by omega⟩
  obtain ⟨a1, len1, cap1, rfl⟩ := okWide_slice Tryd.underlying22 (hval 1 22 v1 rfl rfl)
  have k1 := h1
  have lt1 : ∀ x ∈ p1, x.block < W.heap.size := by obtain ⟨m, hm⟩ := k1; exact DataW.trod_lt m _ _ _ hm
  obtain ⟨z1, w1, b1⟩ : ∃ zs, IsRow .u8 W a1 len1 cap1 zs ∧ cap1 ≤ 140737488355328 := by
    obtain ⟨fuel, hf⟩ := h1
    rcases open_ints Tryd.underlying22 Tryd.underlying5 (by kernel_rfl) hf with ⟨hcs, _⟩ | ⟨x, l, c, zs, hcs, _, hl, hm, hz, hx, hcell, hwz⟩
    · simp [Value.cells] at hcs
      obtain ⟨rfl, rfl, rfl⟩ := hcs
      exact ⟨[], .inl ⟨rfl, rfl, rfl, rfl⟩, by omega⟩
    · simp [Value.cells] at hcs
      obtain ⟨rfl, rfl, rfl⟩ := hcs
      have hz' : zs.length = cap1 := by simpa using hz
      have hd : d1 = .slice (lits .u8 (zs.take len1)) (lits .u8 (zs.drop len1)) := congrArg Prod.fst hx
      have hs := sized_slice hsz (j := 1) (t := 22) (e := 5) rfl (by rw [hd]; rfl) Tryd.underlying22
      rw [show Tryd.prog.bytesOf 5 = 1 by kernel_rfl] at hs
      simp only [lits, List.length_map, List.length_take, List.length_drop] at hs
      have hr := reachBytes_lt
      exact ⟨zs, .inr ⟨_, rfl, hl, hm, hz', hcell, hwz⟩, by omega⟩
  clear hA0
  have e1 : Rows.fnTagsSpec.fn H ([d0, d1] ++ [g1]) = { results := [.lit (.bool true)], args := [d0, d1], vars := [g1] } := rfl
  refine (walk a0 len0 cap0 z0 a1 len1 cap1 z1 W w0 b0 w1 b1 (table hL)).mono fun e W' ⟨he, bel⟩ => ?_
  subst he
  refine ⟨_, rfl, _, _, _, [], (p0 ++ (p1 ++ [])), q, hW', ?_, ?_, ?_, bel.frame _, fun h => by cases h⟩
  · rw [e1]; exact trodAll_cons_mk (shut_bool Tryd.underlying4 _) trodAll_mk0
  · rw [e1]; exact (trodAll_cons_mk (Below.trod laidOut (by kernel_rfl) (of_decide_eq_true (by kernel_rfl)) k0 bel lt0) (trodAll_cons_mk (Below.trod laidOut (by kernel_rfl) (of_decide_eq_true (by kernel_rfl)) k1 bel lt1) trodAll_mk0))
  · rw [e1]; exact Below.trodVars laidOut bel rowed hV

/-- A world with the table laid into its block: for the witness. -/
def relaid (w : World) : World :=
  { w with heap := w.heap.modify 0 fun
      | .cells _ t frozen => .cells #[.int .i64 1, .int .i64 2, .int .i64 4, .int .i64 8, .int .i64 16, .int .i64 32, .int .i64 64, .int .i64 128, .int .i64 256, .int .i64 512, .int .i64 1024, .int .i64 2048, .int .i64 4096, .int .i64 8192, .int .i64 16384, .int .i64 32768] t frozen
      | o => o }
theorem laid_met (os : Os) : laidMet Tryd.prog Rows.fnTagsRow.laid ((relaid (World.holding Tryd.prog os ⟨#[], #[], []⟩)).forCall (fun _ _ => 0) ⟨#[], #[.slice none 0 0, .slice none 0 0], []⟩).memory :=
  laidMet_of_run' 8 (by kernel_rfl) (by kernel_rfl)
theorem reads (os : Os) {H : Type} (enc : TypeId × Value → H) : ∃ places, DataW.whole enc Tryd.prog ((relaid (World.holding Tryd.prog os ⟨#[], #[], []⟩)).forCall (fun _ _ => 0) ⟨#[], #[.slice none 0 0, .slice none 0 0], []⟩).memory Tryd.f3.params.toList Rows.fnTagsSpec.vars false #[Value.slice none 0 0, Value.slice none 0 0].toList 8 = some ([.nil, .nil], [Rows.laid_loop_example_g00350_impl_wordBits], places) :=
  ⟨MemPlace.row ⟨0, 0, none⟩ 16, by kernel_rfl⟩

set_option maxRecDepth 100000 in
theorem lifted (os : Os) (started : os.Started) (H : Type) (enc : TypeId × Value → H) (F : Stop.Interp) :
    ReturnsInHanded {} Tryd.checked os 3 .any ((OpenSpec.ofChange Rows.fnTagsSpec).preRow enc Tryd.prog Tryd.f3 Rows.fnTagsRow.domain false Rows.fnTagsRow.laid) (((OpenSpec.ofChange Rows.fnTagsSpec).at F).post enc Tryd.prog Tryd.f3 false true false false) := by
  obtain ⟨places, hx⟩ := reads os enc
  refine returnsInHanded_of_row (C := Tryd.checked) (s := OpenSpec.ofChange Rows.fnTagsSpec) own started (by kernel_rfl) Tryd.func3
    (witness_row_at (enc := enc) (C := Tryd.checked) false (relaid (World.holding Tryd.prog os ⟨#[], #[], []⟩)) #[.slice none 0 0, .slice none 0 0] rfl (by kernel_rfl) (by kernel_rfl) (by kernel_rfl)
      (OpenSpec.preRow_of_cond 8 hx (by kernel_rfl) (fun k hk => by cases hk) (by kernel_rfl) (laid_met os))) ?_
  intro W base args ds gs before hval hW _ _ hsz hL _ _
  exact contract H enc W base args ds gs before hval hW hsz hL

theorem said : Rows.FnTagsSaid :=
  OpenClaim.holds_of_cond 3 Tryd.f3 rfl rfl rfl rfl rfl rfl rfl ⟨rfl, rfl, rfl, rfl, rfl⟩ rfl rfl rfl rfl rfl (by kernel_rfl) Tryd.func3 (by kernel_rfl)
    (of_decide_eq_true (by kernel_rfl)) (by unfold Func.isWrapper; first | (rw [if_pos (by decide +kernel)]; kernel_rfl) | (rw [if_neg (by decide +kernel)]; exact ⟨rfl, rfl⟩))
    (fun os started H enc _ F => by rw [OpenClaim.pre_eq_preRow]; exact lifted os started H enc F)

theorem plain (f : FuncId) (fn : Func) (hf : Tryd.pinned.checked.prog.funcNamed "loop.example/g00350/laws.FnTags" = some f) (hfn : Tryd.pinned.checked.prog.funcs[f]? = some fn) :
    false = Tryd.pinned.checked.prog.looks [] ∧ ∀ (j : Nat) t, fn.params[j]? = some t → Tryd.pinned.checked.prog.wantsStandIn t = false := by
  obtain rfl : f = 3 := Option.some.inj ((show Tryd.prog.funcNamed "loop.example/g00350/laws.FnTags" = some 3 by kernel_rfl).symm.trans hf) |>.symm
  obtain rfl : fn = Tryd.f3 := (Option.some.inj (Tryd.func3.symm.trans hfn)).symm
  refine ⟨by kernel_rfl, fun j t ht => ?_⟩
  rw [Tryd.params3] at ht
  obtain rfl : t = 22 := by simpa using Array.mem_of_getElem? ht
  exact (show Tryd.prog.wantsStandIn 22 = false by kernel_rfl)

theorem card : Rows.FnTagsCardSaid :=
  Claim7.holds_tied_plain_at .later [] _ _ _ _ said (fun _ h => by cases h) (by kernel_rfl) (fun _ h => by cases h) fnTags_row_tie rfl ⟨rfl, rfl⟩ (by kernel_rfl) rfl plain (by kernel_rfl)
#print axioms card
end Go.Proofs.YtighdafgkkenpaaDoor.fnTags
