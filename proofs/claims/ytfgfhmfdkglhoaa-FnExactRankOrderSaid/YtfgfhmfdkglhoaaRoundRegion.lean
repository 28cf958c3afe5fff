/-
  A region that draws its order of evaluation, inside a round of a loop over a function, by the laws for such a region outside of one: for regions that write, too.
-/
import Derived.RangeFuncCalls
import Derived.OwnWalkIn
import Derived.Deep.RegionHeld3
import Derived.Test.YtfgfhmfdkglhoaaProg
namespace Go.Proofs.Ytfgfhmfdkglhoaa.walks
set_option linter.unusedVariables false

/-- It ends as it should. -/
def Norm (Q : Exit → Act → World → Prop) : Exit → Act → World → Prop
  | .normal, a, w => Q .normal a w
  | _, _, _ => False
theorem Norm.normal {Q : Exit → Act → World → Prop} {a : Act} {w : World} (h : Q .normal a w) : Norm Q .normal a w := h
theorem Norm.imp {Q : Exit → Act → World → Prop} (e : Exit) (a : Act) (w : World) (h : Norm Q e a w) : Q e a w := by
  cases e <;> first | exact h | cases h
theorem Norm.letsOut {Q : Exit → Act → World → Prop} (h : LetsOut (Norm Q)) : False := by
  obtain ⟨_, _, h⟩ := h
  exact h
def noDeferR (ops : List Oper) : Bool := ops.all fun o => match o.op with
  | .defer _ => false
  | _ => true
theorem noDeferR_out {ls : List Oper} (h : noDeferR ls = true) : ∀ (i : Nat) o, ls.toArray[i]? = some o → ∀ c, o.op ≠ .defer c := by
  intro i o ho c hc
  have hm : o ∈ ls := by
    have : ls[i]? = some o := by simpa using ho
    exact List.mem_of_getElem? this
  have := List.all_eq_true.1 h o hm
  rw [hc] at this
  cases this
theorem op_wide {n : Nat} {P : Program} {o : Oper} {a : Act} {w : World} {K : Act → World → Prop} {Q : Exit → Act → World → Prop} (l : Nat) (hd : ∀ c, o.op ≠ .defer c)
    (h : o.wp P a w K Q) : o.wpIn (Fence.wide.inRound l) n P a w K Q := by
  unfold Oper.wp at h
  unfold Oper.wpIn
  refine ⟨fun f _ => trivial, ?_⟩
  rw [Oper.semAt_plain (Fence.wide.inRound l) _ _ hd]
  generalize (execOp a.eval o).run P w = r at *
  cases r with
  | ok x w' =>
    cases x <;> simp only [Oper.upon, Oper.uponIn] at h ⊢ <;> first
      | exact h
      | exact ⟨(fun q => by cases q), CallsIn.inRound l (callsIn_wide.2 h)⟩
      | exact ⟨(fun q => by cases q), ⟨fun _ _ => trivial, fun c cs _ => let ⟨v, w', r, s⟩ := h c cs; ⟨v, w', r, stepsIn_wide.2 s⟩⟩⟩
      | exact ⟨(fun q => by cases q), fun c cs _ => let ⟨v, w', r, s⟩ := h c cs; ⟨v, w', r, stepsIn_wide.2 s⟩⟩
  | halt x w' => cases x <;> simp only [Oper.upon, Oper.uponIn] at h ⊢ <;> exact h
theorem any_wide {n : Nat} {P : Program} {md : Region.Mode} {ops : Array Oper} {Q : Exit → Act → World → Prop} (l : Nat) (hd : ∀ (i : Nat) o, ops[i]? = some o → ∀ c, o.op ≠ .defer c) (hQ : LetsOut Q → False) :
    ∀ (fuel : Nat) (listed : Array Bool) (a : Act) (w : World), wpAny P md ops Q fuel listed a w → wpAnyIn (Fence.wide.inRound l) n P md ops Q fuel listed a w
  | 0, _, _, _, h => h
  | fuel + 1, listed, a, w, h => by
    refine ⟨h.1, fun i hi => ?_⟩
    have h := h.2 i hi
    unfold wpOp at h
    unfold wpOpIn
    cases ho : ops[i]? with
    | none =>
      simp only [ho] at h ⊢
      exact any_wide l hd hQ fuel _ _ _ h
    | some o =>
      simp only [ho] at h ⊢
      split
      · rename_i hw
        simp only [hw, if_true] at h
        rcases h with h | ⟨_, h⟩
        · exact Oper.wpIn_mono (fun a w q => any_wide l hd hQ fuel _ a w q) (op_wide l (hd i o ho) h)
        · exact (hQ h).elim
      · rename_i hw
        simp only [hw] at h
        exact ⟨fun f _ => trivial, any_wide l hd hQ fuel _ _ _ h⟩
theorem region_round {n : Nat} {P : Program} {id l : Nat} {S : World → Prop} {Q : Exit → Act → World → Prop} {a : Act} {w : World} {ls : List Oper} (hm : P.follows .mixedOrders = true) (hd : noDeferR ls = true) (hS : S w.drew)
    (h : S w.drew → wpAnyH P .any ls.toArray (Norm Q) S ls.toArray.size (Array.replicate ls.toArray.size false) a w.drew) : (Code.region id ls.toArray true).wpIn (Fence.wide.inRound l) n P Q a w :=
  wpIn_mono (wpIn_region_any hm (any_wide l (noDeferR_out hd) Norm.letsOut _ _ _ _ (wpAny_of_held _ _ _ _ (h hS)))) Norm.imp
end Go.Proofs.Ytfgfhmfdkglhoaa.walks
