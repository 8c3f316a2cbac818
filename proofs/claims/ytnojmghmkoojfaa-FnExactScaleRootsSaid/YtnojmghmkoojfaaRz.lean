/- Regions that draw their order inside a fence: operations that call nothing, by the orders of the plain walk. -/
import Derived.Test.YtnojmghmkoojfaaRx
import Derived.Test.YtnojmghmkoojfaaSu
namespace Go.Proofs.Ytnojmghmkoojfaa
open Go.RowKit Go.Shelf
set_option linter.unusedVariables false
set_option linter.unusedSimpArgs false
section
variable {P : Program} {ops : Array Oper} {Q : Exit → Act → World → Prop} {md : Region.Mode} {S : World → Prop} {L : Nat} {F : Fence} {nF : Nat}
/-- An operation that calls nothing. -/
def isV (o : Oper) : Bool := match o.op with
  | .move _ => true
  | .assign _ => true
  | .load _ _ => true
  | .store _ _ _ => true
  | .binOp _ _ _ _ _ => true
  | .indexAddr _ _ _ => true
  | _ => false
theorem up_in (hF : ∀ f, F.fn f) {o : Oper} (h : isV o = true) {a : Act} {w : World} {K : Act → World → Prop} (hw : Oper.wp P o a w K Q) : Oper.wpIn F nF P o a w K Q := by
  have hd : ∀ c, o.op ≠ .defer c := fun c e => by simp [isV, e] at h
  unfold Oper.wp at hw
  unfold Oper.wpIn
  refine ⟨fun f _ => hF f, ?_⟩
  rw [Oper.semAt_plain F _ _ hd]
  revert hw
  cases hop : o.op <;> (first | (simp [isV, hop] at h; done) | skip)
  all_goals
    simp only [execOp, hop]
    simp
    first
      | (intro hw; exact hw)
      | (generalize hr : Sem.run _ _ _ = r
         cases r with
         | ok v w' => simp [Result.andThen, Oper.upon, Oper.uponIn]
         | halt v w' => cases v <;> simp [Result.andThen, Oper.upon, Oper.uponIn])
      | (generalize Sem.run P (eqGuard _ _ _ _ _ _) w = r
         cases r with
         | halt v w' => cases v <;> simp [Result.andThen, Oper.upon, Oper.uponIn]
         | ok v w' =>
           simp only [Result.andThen]
           generalize Sem.run P (binOp _ _ _ _) w' = r2
           cases r2 with
           | ok v w' => simp [Oper.upon, Oper.uponIn]
           | halt v w' => cases v <;> simp [Oper.upon, Oper.uponIn])
/-- What is asked behind a region that ends in the usual way alone. -/
def onlyN (Q : Exit → Act → World → Prop) : Exit → Act → World → Prop
  | .normal, a, w => Q .normal a w
  | _, _, _ => False
theorem onlyN_le {e : Exit} {a : Act} {w : World} (h : onlyN Q e a w) : Q e a w := by
  cases e <;> first | exact h | exact False.elim h
theorem not_lets (h : LetsOut (onlyN Q)) : False := by
  obtain ⟨_, _, h⟩ := h
  exact h
theorem wpOp_in (hF : ∀ f, F.fn f) (hv : ops.all isV = true) {i : Nat} {a : Act} {w : World} {K : Act → World → Prop} (h : wpOp P ops (onlyN Q) i K a w) : wpOpIn F nF P ops Q i K a w := by
  unfold wpOp at h
  unfold wpOpIn
  cases ho : ops[i]? with
  | none => simp only [ho] at h ⊢; exact h
  | some o =>
    simp only [ho] at h ⊢
    have hvo : isV o = true := by
      rw [Array.all_eq_true] at hv
      obtain ⟨hi, he⟩ := Array.getElem?_eq_some_iff.1 ho
      rw [← he]
      exact hv i hi
    by_cases hw : Region.wanted o (yielded ops a.tmps) = true
    · simp only [hw, if_true] at h ⊢
      rcases h with h | ⟨_, h⟩
      · exact up_in hF hvo (Q := Q) (by
          unfold Oper.wp at h ⊢
          generalize (execOp a.eval o).run P w = r at h ⊢
          cases r with
          | ok x w' => cases x <;> simp only [Oper.upon] at h ⊢ <;> first | exact h | (refine Calls.mono h ?_; intro e w'' he; cases e <;> first | exact he | exact onlyN_le he | exact (not_lets he).elim)
          | halt x w' => cases x <;> simp only [Oper.upon] at h ⊢ <;> first | exact onlyN_le h | exact h)
      · exact (not_lets h).elim
    · simp only [hw] at h ⊢
      exact ⟨fun f _ => hF f, h⟩
theorem anyE_in (hF : ∀ f, F.fn f) (hv : ops.all isV = true) : ∀ (n : Nat) (done : Array Bool) (a : Act) (w : World), anyE P md ops (onlyN Q) S L n done a w → wpAnyIn F nF P md ops Q n done a w := by
  intro n
  induction n with
  | zero => intro _ _ _ h; exact h
  | succ n ih => intro _ _ _ h; exact ⟨h.1, fun i hi => wpOp_in hF hv (wpOp_mono (fun _ _ k => ih _ _ _ k.2) (h.2 i hi))⟩
theorem region_EI {id : Nat} {a : Act} {w : World} (S : World → Prop) (L : Nat) (hF : ∀ f, F.fn f) (hv : ops.all isV = true) (hm : P.follows .mixedOrders = true) (hS : S w.drew)
    (h : S w.drew → anyE P .any ops (onlyN Q) S L ops.size (Array.replicate ops.size false) a w.drew) : (Code.region id ops true).wpIn F nF P Q a w :=
  wpIn_region_any hm (anyE_in hF hv _ _ _ _ (h hS))
end
end Go.Proofs.Ytnojmghmkoojfaa
