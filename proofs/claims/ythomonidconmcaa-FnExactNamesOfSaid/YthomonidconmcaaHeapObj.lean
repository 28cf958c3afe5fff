/-
  A heap at work and the heap that came in: when the one is good, the other is.
-/
import Derived.Test.YthomonidconmcaaProg
import Derived.Test.YthomonidconmcaaInts
import Derived.Test.YthomonidconmcaaOwnInts
import Derived.Test.YthomonidconmcaaDeep
import Derived.Test.YthomonidconmcaaDeepOpen
import Derived.Test.YthomonidconmcaaDeepRow
import Derived.Test.YthomonidconmcaaDeepH
import Derived.Test.YthomonidconmcaaHeapMath
import Derived.Test.YthomonidconmcaaHeapSpec
import Derived.Test.YthomonidconmcaaPtrMap
import Derived.Test.YthomonidconmcaaRiseImpl
import Derived.Test.YthomonidconmcaaHeapAdd
import Derived.Test.YthomonidconmcaaHeapRun
import Derived.Test.YthomonidconmcaaHeapLeads
import Derived.Test.YthomonidconmcaaHeapNoted
import Derived.Test.YthomonidconmcaaHasIn
import Derived.OwnWalk
import Derived.Laws.CopyOwn
import Derived.Carry
import Derived.Deep.RegionLaw
import Derived.Deep.RegionHeld3
import Derived.Deep.OwnRows
import Derived.Deep.DeepCutAuto
import Derived.WalkKit
import Derived.WalkSpells
import Derived.Below
import Derived.Handy
namespace Go.Proofs.Ythomonidconmcaa.walks
open Go.RowKit Go.Proofs.Ythomonidconmcaa.math Go.Proofs.Ythomonidconmcaa.ints Go.Proofs.Ythomonidconmcaa.deep
set_option linter.unusedVariables false
set_option maxRecDepth 100000

/-- The first k objects, found by their names. -/
def objF (cs : Nat → Dv) : Nat → Int → Option (Bool × Int × Int)
  | 0, _ => none
  | k + 1, y => if y = hnm cs k then some (hod cs k, (hls cs k).getD 0 0, (hls cs k).getD 1 0) else objF cs k y
theorem objF_some {cs : Nat → Dv} {y : Int} {o : Bool × Int × Int} : ∀ {k : Nat}, objF cs k y = some o → ∃ j, j < k ∧ hnm cs j = y ∧ o = (hod cs j, (hls cs j).getD 0 0, (hls cs j).getD 1 0)
  | 0, h => by cases h
  | k + 1, h => by
    simp only [objF] at h
    by_cases q : y = hnm cs k
    · rw [if_pos q] at h
      exact ⟨k, by omega, q.symm, (Option.some.inj h).symm⟩
    · rw [if_neg q] at h
      obtain ⟨j, hj, r⟩ := objF_some h
      exact ⟨j, by omega, r⟩
theorem objF_none {cs : Nat → Dv} {y : Int} : ∀ {k : Nat}, (∀ j, j < k → hnm cs j ≠ y) → objF cs k y = none
  | 0, _ => rfl
  | k + 1, h => by
    simp only [objF]
    rw [if_neg (fun e => h k (by omega) e.symm)]
    exact objF_none (fun j hj => h j (by omega))
def zeros6 : List Int := [0, 0, 0, 0, 0, 0]
def stK (cs : Nat → Dv) (k : Nat) (nx : Int) : Hst := ⟨objF cs k, zeros6, fun _ => false, nx⟩
theorem map_rows {w : World} {mp n g k : Nat} {T : TypeId} {p : Int → Option Nat} {F : Nat → Value} (h : PtrIs w mp n p) (hr : w.rowIs g T k F) : g ≠ mp := by
  rintro rfl
  obtain ⟨es, clock, hb⟩ := h.isMap
  obtain ⟨c, hc, _⟩ := hr
  rw [hb] at hc; cases hc
/-- One object more. -/
theorem RunAt.add {w w' : World} {B rp mp sp n m g : Nat} {p : Int → Option Nat} {s : Hst} {x : Int} {o : Bool × Int × Int} (h : RunAt w B rp mp sp n m p s) (hx : okZ x) (hp : p x = Option.none) (hm : PtrIs w' mp (n + 1) (fun y => if y = x then Option.some g else p y)) (hr : w'.rowIs g 75 3 (rowF [.bool o.1, .int .i64 o.2.1, .int .i64 o.2.2])) (hg : w.heap.size ≤ g) (hB : B ≤ w.heap.size)
    (hb : ∀ b, b < w.heap.size → b ≠ mp → w'.heap[b]? = w.heap[b]?) : RunAt w' B rp mp sp (n + 1) m (fun y => if y = x then Option.some g else p y) ⟨fun y => if y = x then Option.some o else s.at_ y, s.rs, s.nt, s.nx⟩ := by
  refine ⟨h.row.of_block (hb _ h.row.lt (map_rows h.map h.row)), h.len, hm, fun y g' e => ?_, fun y e => ?_, fun y g' e => ?_, fun y z g' e1 e2 => ?_, h.set.of_block (hb _ h.set.lt h.dif), ⟨h.low.1, h.low.2.1, h.low.2.2.1, fun y g' e => ?_⟩, h.dif⟩
  · by_cases q : y = x
    · simp only [if_pos q] at e ⊢
      cases e
      exact ⟨o, rfl, hr⟩
    · simp only [if_neg q] at e ⊢
      obtain ⟨o', e', r⟩ := h.obj y g' e
      exact ⟨o', e', r.of_block (hb _ r.lt (map_rows h.map r))⟩
  · by_cases q : y = x
    · simp only [if_pos q] at e; cases e
    · simp only [if_neg q] at e ⊢
      exact h.none y e
  · by_cases q : y = x
    · rw [q]; exact hx
    · simp only [if_neg q] at e; exact h.ok y g' e
  · by_cases q : y = x
    · by_cases r : z = x
      · rw [q, r]
      · simp only [if_pos q] at e1
        simp only [if_neg r] at e2
        cases e1
        obtain ⟨_, _, rr⟩ := h.obj z g e2
        have := rr.lt; omega
    · by_cases r : z = x
      · simp only [if_neg q] at e1
        simp only [if_pos r] at e2
        cases e2
        obtain ⟨_, _, rr⟩ := h.obj y g e1
        have := rr.lt; omega
      · simp only [if_neg q] at e1
        simp only [if_neg r] at e2
        exact h.inj y z g' e1 e2
  · by_cases q : y = x
    · simp only [if_pos q] at e; cases e; omega
    · simp only [if_neg q] at e; exact h.low.2.2.2 y g' e
theorem row3_heap {w : World} {g : Nat} {T : TypeId} {v0 v1 v2 : Value} (h : w.rowIs g T 3 (rowF [v0, v1, v2])) : w.heap[g]? = some (.cells [v0, v1, v2].toArray T (0, 0)) := by
  obtain ⟨c, hb, hs, hc⟩ := h
  rw [hb]
  have e : c = #[v0, v1, v2] := by
    apply Array.ext_getElem?
    intro i
    by_cases hi : i < 3
    · rw [hc i hi]
      match i, hi with
      | 0, _ => rfl
      | 1, _ => rfl
      | 2, _ => rfl
    · rw [Array.getElem?_eq_none (by omega), Array.getElem?_eq_none (by simp; omega)]
  rw [e]
theorem ints_one14 (zs : List Int) : ∀ u ∈ zs.map (Value.int .i64), u.oneCell' = true := by
  intro u hu
  obtain ⟨x, _, rfl⟩ := List.mem_map.1 hu
  rfl
/-- The roots put in. -/
theorem RunAt.roots {w w' : World} {B rp mp sp n m : Nat} {p : Int → Option Nat} {s : Hst} {rs : List Int} (h : RunAt w B rp mp sp n m p s) (hr : w'.rowIs rp 71 9 (runF mp sp rs s.nx)) (hl : rs.length = 6) (hb : ∀ b, b < w.heap.size → b ≠ rp → w'.heap[b]? = w.heap[b]?) : RunAt w' B rp mp sp n m p ⟨s.at_, rs, s.nt, s.nx⟩ := by
  refine ⟨hr, hl, h.map.of_block (hb _ h.map.lt (Ne.symm (map_rows h.map h.row))), fun y g e => ?_, h.none, h.ok, h.inj, h.set.of_block (hb _ h.set.lt ?_), h.low, h.dif⟩
  · obtain ⟨o, e', r⟩ := h.obj y g e
    refine ⟨o, e', r.of_block (hb _ r.lt (fun q => ?_))⟩
    subst q
    obtain ⟨c1, a1, _⟩ := r
    obtain ⟨c2, a2, _⟩ := h.row
    rw [a1] at a2
    simp at a2
  · intro q
    obtain ⟨es, clock, hm⟩ := h.set.isMap
    obtain ⟨c2, a2, _⟩ := h.row
    rw [q, a2] at hm; cases hm
theorem set_rows {w : World} {sp n g k : Nat} {T : TypeId} {f : Int → Bool} {F : Nat → Value} (h : SetZ w sp n f) (hr : w.rowIs g T k F) : g ≠ sp := by
  rintro rfl
  obtain ⟨es, clock, hb⟩ := h.isMap
  obtain ⟨c, hc, _⟩ := hr
  rw [hb] at hc; cases hc
theorem run_set {w : World} {B rp mp sp n m : Nat} {p : Int → Option Nat} {s : Hst} {ns : List Int} (h : RunAt w B rp mp sp n m p ⟨s.at_, s.rs, fun y => (fun _ => false) y || decide (y ∈ ns), s.nx⟩) : RunAt w B rp mp sp n m p ⟨s.at_, s.rs, fun x => decide (x ∈ ns), s.nx⟩ := by
  have e : (fun y : Int => (fun _ => false) y || decide (y ∈ ns)) = fun x => decide (x ∈ ns) := by funext y; simp
  rw [e] at h
  exact h
/-- Those noted put in. -/
theorem RunAt.sets {w w' : World} {B rp mp sp n m m' : Nat} {p : Int → Option Nat} {s : Hst} {f : Int → Bool} (h : RunAt w B rp mp sp n m p s) (hs : SetZ w' sp m' f) (hb : ∀ b, b < w.heap.size → b ≠ sp → w'.heap[b]? = w.heap[b]?) : RunAt w' B rp mp sp n m' p ⟨s.at_, s.rs, f, s.nx⟩ := by
  have nr : ∀ {g k : Nat} {T : TypeId} {F : Nat → Value}, w.rowIs g T k F → g ≠ sp := fun hr => by
    rintro rfl
    obtain ⟨es, clock, hm⟩ := h.set.isMap
    obtain ⟨c2, a2, _⟩ := hr
    rw [a2] at hm; cases hm
  refine ⟨h.row.of_block (hb _ h.row.lt (nr h.row)), h.len, h.map.of_block (hb _ h.map.lt (Ne.symm h.dif)), fun y g e => ?_, h.none, h.ok, h.inj, hs, h.low, h.dif⟩
  obtain ⟨o, e', r⟩ := h.obj y g e
  exact ⟨o, e', r.of_block (hb _ r.lt (nr r))⟩
theorem row_heap {w : World} {g n : Nat} {T : TypeId} {F : Nat → Value} (h : w.rowIs g T n F) : w.heap[g]? = some (.cells ((List.range n).map F).toArray T (0, 0)) := by
  obtain ⟨c, hb, hs, hc⟩ := h
  rw [hb]
  have e : c = ((List.range n).map F).toArray := by
    apply Array.ext_getElem?
    intro i
    by_cases hi : i < n
    · rw [hc i hi]; simp [hi]
    · rw [Array.getElem?_eq_none (by omega), Array.getElem?_eq_none (by simp; omega)]
  rw [e]
theorem roots_splice (mp sp : Nat) (rs : List Int) (nx : Int) (h : rs.length = 6) : splice ((List.range 9).map (runF mp sp zeros6 nx)) 1 (rs.map (Value.int .i64)) = (List.range 9).map (runF mp sp rs nx) := by
  match rs, h with
  | [a, b, c, d, e, f], _ => rfl
theorem step_copy_grown {P : Program} {ops : Array Oper} {o : Oper} {a : Act} {w : World} {K : Act → World → Prop} {Q : Exit → Act → World → Prop} {E : Prop} (hgd : o.guard = none) (d s : Operand) (dT sT : TypeId)
    (ho : o.op = .call { callee := .builtin .copy, args := #[d, s], argTypes := #[dT, sT] }) (elem : TypeId) (hu : P.underlying dT = some (.slice elem)) (hsz : (P.info? elem).map (·.size) = some 1)
    (ad : Addr) (dLen dCap sLen sCap : Nat) (g off : Nat) (hd : a.eval d = .slice (some ⟨g, off, none⟩) dLen dCap) (hs : a.eval s = .slice (some ad) sLen sCap)
    (cur : List Value) (t : TypeId) (hg : w.heap[g]? = some (.cells cur.toArray t (0, 0))) (cs : List Value) (hn : cs.length = Nat.min sLen dLen)
    (hsrc : ∀ j v, cs[j]? = some v → w.cell? (ad.add j) = some v)
    (hfit : off + cs.length ≤ cur.length) (h1 : ∀ v ∈ cs, v.oneCell' = true)
    (h : ∀ w', Hid (w'.heap[g]? = some (.cells (splice cur off cs).toArray t (0, 0))) → w.grownBy w' (some g) → K (a.put o.dst (goInt cs.length)) w') :
    if Region.wanted o (yielded ops a.tmps) = true then Oper.wp P o a w K Q else E := by
  have hw : Region.wanted o (yielded ops a.tmps) = true := by simp [Region.wanted, hgd]
  rw [if_pos hw]
  have hrun := run_copy_row (P := P) w dT sT o.type elem g off dLen dCap ad sLen sCap cur.toArray t cs hu hsz hg hn hsrc (by simpa using hfit) h1
  unfold Oper.wp
  simp [execOp, ho, resolve, invoke, builtin, hd, hs, hrun, Result.andThen]
  exact h _ (show _ = _ by simpa [splice] using setRow_heap w g _ _ t _ hg) ⟨rfl, rfl, rfl, by simp [World.setRow], fun i _ hi => setRow_other w g i _ (fun e => hi (by rw [e]))⟩
/-- By its name each object is found. -/
theorem objF_at {cs : Nat → Dv} {n : Nat} (h : ∀ k, k + 1 < n → hnm cs k < hnm cs (k + 1)) {j : Nat} : ∀ {k : Nat}, k ≤ n → j < k → objF cs k (hnm cs j) = some (hod cs j, (hls cs j).getD 0 0, (hls cs j).getD 1 0)
  | 0, _, hj => by omega
  | k + 1, hk, hj => by
    simp only [objF]
    by_cases q : j = k
    · subst q; rw [if_pos rfl]
    · rw [if_neg (fun e => q (names_one h (by omega) (by omega) e))]
      exact objF_at h (by omega) (by omega)
theorem hls_two {cs : Nat → Dv} {k : Nat} (h : hnl cs k = 2) {x : Int} : x ∈ hls cs k ↔ x = (hls cs k).getD 0 0 ∨ x = (hls cs k).getD 1 0 := by
  have hl := hls_len cs k
  rw [h] at hl
  generalize hls cs k = zs at hl
  match zs, hl with
  | [a, b], _ => simp
theorem run_ok {cs : Nat → Dv} {n : Nat} {rs ns : List Int} {nx : Int} (h0 : SizeOk n rs nx) (h1 : NamesOk cs n nx) (h2 : ∀ k, k < n → hnl cs k = 2) (h3 : RiseTo ns nx ns.length) : heapB cs n rs ns nx = (leadsS ⟨objF cs n, rs, fun x => decide (x ∈ ns), nx⟩ && notedS ⟨objF cs n, rs, fun x => decide (x ∈ ns), nx⟩) := by
  have at_ : ∀ {j}, j < n → objF cs n (hnm cs j) = some (hod cs j, (hls cs j).getD 0 0, (hls cs j).getD 1 0) := fun hj => objF_at h1.2 (Nat.le_refl _) hj
  have led : ∀ x, LedS ⟨objF cs n, rs, fun x => decide (x ∈ ns), nx⟩ x ↔ (x = -1 ∨ Has cs n x) := fun x => by
    unfold LedS
    constructor
    · rintro (q | q)
      · exact Or.inl q
      · obtain ⟨o, e⟩ := Option.isSome_iff_exists.1 q
        obtain ⟨j, hj, e2, _⟩ := objF_some e
        exact Or.inr ⟨j, hj, e2⟩
    · rintro (q | ⟨j, hj, e⟩)
      · exact Or.inl q
      · refine Or.inr ?_
        show (objF cs n x).isSome = true
        rw [← e, at_ hj]; rfl
  have yng : ∀ x, yngS ⟨objF cs n, rs, fun x => decide (x ∈ ns), nx⟩ x = true ↔ Yng cs n x := fun x => by
    constructor
    · intro q
      unfold yngS at q
      cases e : objF cs n x with
      | none => simp only [e] at q; cases q
      | some o =>
        simp only [e] at q
        obtain ⟨j, hj, e2, e3⟩ := objF_some e
        rw [e3] at q
        exact ⟨j, hj, e2, by simpa using q⟩
    · rintro ⟨j, hj, e, ho⟩
      unfold yngS
      rw [← e]
      simp only [at_ hj, ho]
      rfl
  have inn : ∀ x ∈ ns, 0 ≤ x ∧ x < nx := fun x hx => by
    obtain ⟨i, hi, e⟩ := mem_at.1 hx
    have := h3 i hi
    rw [e] at this
    exact ⟨this.1, this.2.1⟩
  have e1 : HeapOk cs n rs ns nx ↔ (LeadsS ⟨objF cs n, rs, fun x => decide (x ∈ ns), nx⟩ ∧ NotedS ⟨objF cs n, rs, fun x => decide (x ∈ ns), nx⟩) := by
    constructor
    · rintro ⟨_, _, _, a4, _, a6⟩
      refine ⟨⟨fun x hx => (led x).2 (a4.2 x hx), fun y o e => ?_⟩, fun x hx hn => ?_, fun y o e ho hy => ?_⟩
      · obtain ⟨j, hj, e2, e3⟩ := objF_some e
        rw [e3]
        exact ⟨(led _).2 (a4.1 j hj _ ((hls_two (h2 j hj)).2 (Or.inl rfl))), (led _).2 (a4.1 j hj _ ((hls_two (h2 j hj)).2 (Or.inr rfl)))⟩
      · have hn : x ∈ ns := of_decide_eq_true hn
        obtain ⟨k, hk, e, ho⟩ := a6.1 x hn
        exact ⟨_, by rw [← e]; exact at_ hk, ho⟩
      · obtain ⟨j, hj, e2, e3⟩ := objF_some e
        rw [e3] at ho hy
        rw [Bool.or_eq_true] at hy
        refine decide_eq_true ?_
        rw [← e2]
        rcases hy with q | q
        · exact a6.2 j hj ho _ ((hls_two (h2 j hj)).2 (Or.inl rfl)) ((yng _).1 q)
        · exact a6.2 j hj ho _ ((hls_two (h2 j hj)).2 (Or.inr rfl)) ((yng _).1 q)
    · rintro ⟨⟨b1, b2⟩, b3, b4⟩
      refine ⟨h0, h1, h2, ⟨fun k hk x hx => ?_, fun x hx => (led x).1 (b1 x hx)⟩, fun i hi => ?_, fun x hx => ?_, fun k hk ho x hx hy => ?_⟩
      · have q := b2 _ _ (at_ hk)
        rcases (hls_two (h2 k hk)).1 hx with r | r
        · rw [r]; exact (led _).1 q.1
        · rw [r]; exact (led _).1 q.2
      · have := (h3 (i + 1) hi).2.2 (by omega)
        simpa using this
      · have hb := inn x hx
        have hh := h0.2.2.2
        obtain ⟨o, e, ho⟩ := b3 x (okZ_of (by omega) (by omega)) (decide_eq_true hx)
        obtain ⟨j, hj, e2, e3⟩ := objF_some e
        exact ⟨j, hj, e2, by rw [e3] at ho; exact ho⟩
      · have hyb := (yng x).2 hy
        have q := b4 _ _ (at_ hk) ho (by
          rw [Bool.or_eq_true]
          rcases (hls_two (h2 k hk)).1 hx with r | r
          · left; rw [← r]; exact hyb
          · right; rw [← r]; exact hyb)
        exact of_decide_eq_true q
  by_cases q : HeapOk cs n rs ns nx
  · have r := e1.1 q
    rw [heap_yes q]
    unfold leadsS notedS
    rw [decide_eq_true r.1, decide_eq_true r.2]; rfl
  · rw [heap_no q]
    unfold leadsS notedS
    by_cases r : LeadsS ⟨objF cs n, rs, fun x => decide (x ∈ ns), nx⟩
    · rw [decide_eq_true r, decide_eq_false (fun t => q (e1.2 ⟨r, t⟩))]; rfl
    · rw [decide_eq_false r]; rfl
end Go.Proofs.Ythomonidconmcaa.walks
