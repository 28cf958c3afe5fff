/-
  Flows and lists of lists as deep data.
-/
import Derived.Test.YtemlhhogcdgofaaDeep
import Derived.Test.YtemlhhogcdgofaaDeepRow
import Derived.Test.YtemlhhogcdgofaaDeepB
import Derived.Test.YtemlhhogcdgofaaDeepBS
import Derived.Test.YtemlhhogcdgofaaFlow
namespace Go.Proofs.Ytemlhhogcdgofaa.deep
open Go.RowKit Go.Proofs.Ytemlhhogcdgofaa.ints Go.Proofs.Ytemlhhogcdgofaa.math Go.Proofs.Ytemlhhogcdgofaa.walks
set_option linter.unusedVariables false

/-- The numbers of a flat list. -/
def zsD (sz : Nat) (d : Dv) : List Int := intsOf d.at (d.len * sz)
theorem zsD_len (sz : Nat) (d : Dv) : (zsD sz d).length = d.len * sz := intsOf_len _ _
theorem flat_in {w : World} {c : Bool} {d : Dv} {v : Value} {sz : Nat} {e : Nat → Sh} (h : Holds w c d v) (hf : Fits (.l sz e) d) (he : ∀ i, e i = .n) : ∃ a cap, v = .slice a d.len cap ∧ Ints w a (zsD sz d) := by
  obtain ⟨len, es, rfl, hq⟩ := hf.list
  obtain ⟨a, cap, rfl, _⟩ := h.slice
  exact ⟨a, cap, rfl, holds_ints h (fun i hi => by have := hq i hi; rw [he] at this; exact this.int)⟩
/-- A flow as plain data. -/
def bvD (cs : Nat → Dv) (k : Nat) : Bv := ⟨zsD 5 (cs (k * 4)), (cs (k * 4)).len, (cs (k * 4 + 1)).int, (cs (k * 4 + 2)).int, (cs (k * 4 + 3)).int⟩
theorem instr_fit (i : Nat) : (match i with | 0 => Sh.n | 1 => .n | 2 => .n | 3 => .n | _ => .n) = Sh.n := by
  match i with
  | 0 => rfl
  | 1 => rfl
  | 2 => rfl
  | 3 => rfl
  | i + 4 => rfl
theorem int_is {d : Dv} (h : Fits .n d) : d = .n d.int := by obtain ⟨x, rfl⟩ := h.int; rfl
theorem Holds.flow {W : World} {c : Bool} {n : Nat} {cs : Nat → Dv} {a : Option Addr} {cap : Nat} (h : Holds W c (.l n 4 cs) (.slice a n cap)) (hf : Fits shBlockS (.l n 4 cs)) : Flow W a n (bvD cs) := by
  by_cases h0 : n = 0
  · exact Or.inl h0
  obtain ⟨b, o, ea, hl, hq⟩ := h.cells (Below.refl _ _) (by omega)
  have key : ∀ k, ∃ p : Option Addr × Nat, k < n → W.cell? ⟨b, o + k * 4, none⟩ = some (.slice p.1 (bvD cs k).len p.2) ∧ Ints W p.1 (bvD cs k).zs := fun k => by
    by_cases hk : k < n
    · obtain ⟨u, h1, h2⟩ := hq (k * 4) (by omega)
      obtain ⟨a', cap', rfl, hI⟩ := flat_in h2 (hf.cell (k := k) (c := 0) hk (by decide)) instr_fit
      exact ⟨(a', cap'), fun _ => ⟨h1, hI⟩⟩
    · exact ⟨(none, 0), fun q => absurd q hk⟩
  obtain ⟨A, hA⟩ := Classical.axiomOfChoice key
  refine Or.inr ⟨b, o, A, ea, hl, fun i hi => ?_, fun k hk => ⟨(hA k hk).2, zsD_len _ _⟩⟩
  have hk : i / 4 < n := by omega
  have num : ∀ c, c < 4 → (∃ _ : 1 ≤ c, True) → ∃ x, cs (i / 4 * 4 + c) = .n x := fun c h4 ⟨h1, _⟩ => by
    have q := hf.cell (k := i / 4) (c := c) hk h4
    match c, h1, h4, q with
    | 1, _, _, q => exact ⟨_, int_is q⟩
    | 2, _, _, q => exact ⟨_, int_is q⟩
    | 3, _, _, q => exact ⟨_, int_is q⟩
  have val : ∀ c, c < 4 → 1 ≤ c → W.cell? ⟨b, o + (i / 4 * 4 + c), none⟩ = some (.int .i64 (cs (i / 4 * 4 + c)).int) := fun c h4 h1 => by
    obtain ⟨u, g1, g2⟩ := hq (i / 4 * 4 + c) (by omega)
    obtain ⟨x, hx⟩ := num c h4 ⟨h1, trivial⟩
    rw [hx] at g2 ⊢
    rw [g1, show u = .int .i64 x from g2]; rfl
  have h4 : i % 4 < 4 := Nat.mod_lt _ (by decide)
  have e : i = i / 4 * 4 + i % 4 := by omega
  rcases (show i % 4 = 0 ∨ i % 4 = 1 ∨ i % 4 = 2 ∨ i % 4 = 3 by omega) with r | r | r | r <;> rw [e, r]
  · rw [Nat.add_zero, cellB_0, (hA _ hk).1]
  · rw [cellB_1, val 1 (by decide) (by decide)]; rfl
  · rw [cellB_2, val 2 (by decide) (by decide)]; rfl
  · rw [cellB_3, val 3 (by decide) (by decide)]; rfl
theorem flow_sizes {n : Nat} {cs : Nat → Dv} (h : szD (.l n 4 cs) ≤ 1048576) (hf : Fits shBlockS (.l n 4 cs)) : n ≤ 1048576 ∧ ∀ k, k < n → (bvD cs k).len ≤ 1048576 := by
  refine ⟨Nat.le_trans (Nat.le_add_right _ _) h, fun k hk => ?_⟩
  have h1 := sz_at (sz := 4) (cs := cs) (show k * 4 < n * 4 by omega)
  obtain ⟨len, es, e, _⟩ := (hf.cell (k := k) (c := 0) hk (by decide)).list
  rw [Nat.add_zero] at e
  rw [e] at h1
  have h2 : len ≤ szD (.l len 5 es) := Nat.le_add_right _ _
  show (cs (k * 4)).len ≤ _
  rw [e]
  show len ≤ _
  omega
/-- A list of lists of ints, one of its rows. -/
theorem Holds.row {W wr : World} {c : Bool} {n : Nat} {cs : Nat → Dv} {a : Option Addr} {cap : Nat} (h : Holds W c (.l n 1 cs) (.slice a n cap)) (hf : Fits shIntSS (.l n 1 cs)) (hB : Below W.heap.size W wr) {k : Nat} (hk : k < n) : ∃ b o a' cap', a = some ⟨b, o, none⟩ ∧ b < W.heap.size ∧ wr.cell? ⟨b, o + k, none⟩ = some (.slice a' (cs k).len cap') ∧ Ints wr a' (zsD 1 (cs k)) := by
  obtain ⟨b, o, u, ea, hl, h1, h2⟩ := h.cell hB (i := k) (by omega)
  have q := hf.cell (k := k) (c := 0) hk (by decide)
  rw [Nat.mul_one, Nat.add_zero] at q
  obtain ⟨a', cap', rfl, hI⟩ := flat_in h2 q (fun _ => rfl)
  exact ⟨b, o, a', cap', ea, hl, h1, hI⟩
theorem rows_sizes {n : Nat} {cs : Nat → Dv} (h : szD (.l n 1 cs) ≤ 1048576) (hf : Fits shIntSS (.l n 1 cs)) : n ≤ 1048576 ∧ ∀ k, k < n → (cs k).len ≤ 1048576 := by
  refine ⟨Nat.le_trans (Nat.le_add_right _ _) h, fun k hk => ?_⟩
  have h1 := sz_at (sz := 1) (cs := cs) (show k < n * 1 by omega)
  have q := hf.cell (k := k) (c := 0) hk (by decide)
  rw [Nat.mul_one, Nat.add_zero] at q
  obtain ⟨len, es, e, _⟩ := q.list
  rw [e] at h1 ⊢
  have h2 : len ≤ szD (.l len 1 es) := Nat.le_add_right _ _
  show len ≤ _
  omega
end Go.Proofs.Ytemlhhogcdgofaa.deep
