/- Merged texts. -/
import Derived.Test.YtdjifjlgllohmaaDoorYDS29
import Derived.Test.YtdjifjlgllohmaaDoorYDS26
/- Regions that draw and call, inside the wide fence (in a round or not): what was proved of them outside serves there. -/
namespace Go.Proofs.YtdjifjlgllohmaaDoor
open Go.RowKit Go.Shelf
set_option linter.unusedVariables false
set_option linter.unusedSimpArgs false
/-- A fence in which plain contracts serve. -/
structure WideF (P : Program) (F : Fence) (nF : Nat) : Prop where
  fn : ∀ f, F.fn f
  depth : F.depth.isSome = true → 1 ≤ nF
  calls : ∀ f args w R, Calls P f args w R → CallsIn F (nF - 1) P f args w R
  rows : ∀ f args w R, Rows P f args w R → RowsIn F (nF - 1) P f args w R
theorem wideF_round (P : Program) (l nF : Nat) : WideF P (Fence.wide.inRound l) nF :=
  ⟨fun _ => trivial, fun h => by simp [Fence.wide] at h, fun f args w R h => CallsIn.inRound l (callsIn_wide.2 h), fun f args w R h c cs _ => let ⟨v, w', r, s⟩ := h c cs; ⟨v, w', r, stepsIn_wide.2 s⟩⟩
theorem wideF_plain (P : Program) (nF : Nat) : WideF P Fence.wide nF :=
  ⟨fun _ => trivial, fun h => by simp [Fence.wide] at h, fun f args w R h => callsIn_wide.2 h, fun f args w R h c cs _ => let ⟨v, w', r, s⟩ := h c cs; ⟨v, w', r, stepsIn_wide.2 s⟩⟩
def isC (o : Oper) : Bool := match o.op with
  | .defer _ => false
  | _ => true
section
variable {P : Program} {ops : Array Oper} {Q : Exit → Act → World → Prop} {md : Region.Mode} {S : World → Prop} {L : Nat} {F : Fence} {nF : Nat}
theorem up_inC (hF : WideF P F nF) {o : Oper} (h : isC o = true) {a : Act} {w : World} {K : Act → World → Prop} (hw : Oper.wp P o a w K Q) : Oper.wpIn F nF P o a w K Q := by
  have hd : ∀ c, o.op ≠ .defer c := fun c e => by simp [isC, e] at h
  unfold Oper.wp at hw
  unfold Oper.wpIn
  refine ⟨fun f _ => hF.fn f, ?_⟩
  rw [Oper.semAt_plain F _ _ hd]
  revert hw
  generalize (execOp a.eval o).run P w = r
  intro hw
  cases r with
  | ok x w' =>
    cases x with
    | value v => exact hw
    | skip => exact hw
    | defer d => exact hw
    | enter f args => exact ⟨hF.depth, hF.calls _ _ _ _ hw⟩
    | row row args => exact ⟨hF.depth, hF.rows _ _ _ _ hw⟩
    | _ => exact False.elim hw
  | halt x w' =>
    cases x <;> first | exact hw | exact False.elim hw
theorem wpOp_inC (hF : WideF P F nF) (hv : ops.all isC = true) {i : Nat} {a : Act} {w : World} {K : Act → World → Prop} (h : wpOp P ops (onlyN Q) i K a w) : wpOpIn F nF P ops Q i K a w := by
  unfold wpOp at h
  unfold wpOpIn
  cases ho : ops[i]? with
  | none => simp only [ho] at h ⊢; exact h
  | some o =>
    simp only [ho] at h ⊢
    have hvo : isC o = true := by
      rw [Array.all_eq_true] at hv
      obtain ⟨hi, he⟩ := Array.getElem?_eq_some_iff.1 ho
      rw [← he]
      exact hv i hi
    by_cases hw : Region.wanted o (yielded ops a.tmps) = true
    · simp only [hw, if_true] at h ⊢
      rcases h with h | ⟨_, h⟩
      · exact up_inC hF hvo (Q := Q) (by
          unfold Oper.wp at h ⊢
          generalize (execOp a.eval o).run P w = r at h ⊢
          cases r with
          | ok x w' => cases x <;> simp only [Oper.upon] at h ⊢ <;> first | exact h | (refine Calls.mono h ?_; intro e w'' he; cases e <;> first | exact he | exact onlyN_le he | exact (not_lets he).elim)
          | halt x w' => cases x <;> simp only [Oper.upon] at h ⊢ <;> first | exact onlyN_le h | exact h)
      · exact (not_lets h).elim
    · simp only [hw] at h ⊢
      exact ⟨fun f _ => hF.fn f, h⟩
theorem anyE_inC (hF : WideF P F nF) (hv : ops.all isC = true) : ∀ (n : Nat) (done : Array Bool) (a : Act) (w : World), anyE P md ops (onlyN Q) S L n done a w → wpAnyIn F nF P md ops Q n done a w := by
  intro n
  induction n with
  | zero => intro _ _ _ h; exact h
  | succ n ih => intro _ _ _ h; exact ⟨h.1, fun i hi => wpOp_inC hF hv (wpOp_mono (fun _ _ k => ih _ _ _ k.2) (h.2 i hi))⟩
theorem region_EC {id : Nat} {a : Act} {w : World} (S : World → Prop) (L : Nat) (hF : WideF P F nF) (hv : ops.all isC = true) (hm : P.follows .mixedOrders = true) (hS : S w.drew)
    (h : S w.drew → anyE P .any ops (onlyN Q) S L ops.size (Array.replicate ops.size false) a w.drew) : (Code.region id ops true).wpIn F nF P Q a w :=
  wpIn_region_any hm (anyE_inC hF hv _ _ _ _ (h hS))
end
end Go.Proofs.YtdjifjlgllohmaaDoor
/- 'for .. := range g { .. }' over an iterator that may panic, as Od, whose rounds know the loop's record. -/
namespace Go.Proofs.YtdjifjlgllohmaaDoor
open Go.RowKit
set_option linter.unusedVariables false
set_option linter.unusedSimpArgs false
/-- 'for .. := range g { .. }' over such an iterator. -/
theorem wpIn_rangeQ {α : Type} {P : Program} {g : Operand} {ps : Array Tmp} {assign body : Code} {Q : Exit → Act → World → Prop} {a : Act} {w w0 : World} {n gf : Nat} {lb : Array Value}
    (hg : a.eval g = .func (.func gf) #[] lb) (eg : ∀ args v, (callFunc gf args).run P v = .ok (.enter gf args) v)
    {encs : α → Array Value} {Hd : (Nat → Prop) → List α → α → World → Prop} {Fin Bx : List α → World → Prop} {ch : List PanicEntry} {Rs : Prop} (hit : IterC P gf lb encs Hd Fin Bx ch Rs w0) (hb0 : Below w0.heap.size w0 w) (hps : ∀ x, (encs x).size = ps.size)
    (I : List α → (Nat → Prop) → World → Prop)
    (hI : ∀ pre S A A', I pre S A → Agr (fun b => b < w.heap.size ∨ S b) A A' → I pre S A')
    (hBx : ∀ pre S A, I pre S A → Bx pre A)
    (hFin : ∀ pre A l o r, A.heap[l]? = some (.loop r) → Fin pre A → Fin pre (A.putObj l o))
    (h0 : I [] (fun _ => False) w)
    (hround : ∀ (l : Nat) (pre : List α) (S : Nat → Prop) (x : α) (A : World), w.heap.size < l → l < A.heap.size → (∀ b, S b → l < b ∧ b < A.heap.size) → I pre S A → Hd S pre x A → (∃ r, A.heap[l]? = some (.loop r)) → RoundR P ps assign body encs a.tmps w I l pre S x A)
    (hdone : ∀ (D : Nat) (pre : List α) (S : Nat → Prop) (A : World), w.heap.size ≤ D → I pre S A → Fin pre A → A.heap[D]? = some (.deferred (some [])) → Q .normal { a with defers := { target := .collected D, args := #[] } :: a.defers } A)
    (hpanic : ∀ (D : Nat) (pre : List α) (S : Nat → Prop) (A : World), w.heap.size ≤ D → Rs → I pre S A → A.heap[D]? = some (.deferred (some [])) → Q (.panic ch) { a with defers := { target := .collected D, args := #[] } :: a.defers } A) :
    (Code.rangeFunc g ps assign body).wpIn Fence.wide n P Q a w := by
  refine wpIn_rangeFunc fun fn _ => ?_
  -- the record l = B + 1, the block for deferred calls B
  obtain ⟨B, hB⟩ : ∃ B, w.heap.size = B := ⟨_, rfl⟩
  obtain ⟨rec, hrec⟩ : ∃ rec : LoopState → Option Code → Obj, rec = fun st pe => .loop { state := st, pending := pe, fn, tmps := a.tmps, params := ps, assign, body, defers := w.heap.size } := ⟨_, rfl⟩
  obtain ⟨W1, hW1⟩ : ∃ W1, (w.alloc (.deferred (some []))).alloc (rec .ready none) = W1 := ⟨_, rfl⟩
  have zW : W1.heap.size = B + 2 := by rw [← hW1, ← hB]; simp
  have b1 : Below w.heap.size w W1 := by rw [← hW1]; exact bl2 w _ _
  have hD1 : W1.heap[B]? = some (.deferred (some [])) := by
    rw [← hW1, ← hB]; exact (Below.heap_alloc _ _ _ (by simp)).trans (World.alloc_heap_new w _)
  have hL1 : W1.heap[B + 1]? = some (rec .ready none) := by
    rw [← hW1]; have := World.alloc_heap_new (w.alloc (.deferred (some []))) (rec .ready none); rwa [World.size_alloc, hB] at this
  have hcall := hit (B + 1) (fun pre S A => (I pre S A ∧ ∀ b, S b → B + 2 ≤ b ∧ b < A.heap.size) ∧ A.heap[B + 1]? = some (rec .ready none) ∧ A.heap[B]? = some (.deferred (some [])))
    W1 (bnext hb0 b1)
    (by
      rintro pre S A A' ⟨⟨hi, hS⟩, hl, hd⟩ hA
      have lt1 : B + 1 < A.heap.size := (Array.getElem?_eq_some_iff.1 hl).1
      refine ⟨⟨hI pre S A A' hi (hA.mono fun b _ h => ?_), fun b hb => ⟨(hS b hb).1, Nat.lt_of_lt_of_le (hS b hb).2 hA.size⟩⟩, (hA.block _ lt1 (.inl (by omega))).trans hl, (hA.block _ (by omega) (.inl (by omega))).trans hd⟩
      rcases h with h | h
      · exact .inl (by omega)
      · exact .inr h)
    (by
      rintro pre S A ⟨⟨_, hS⟩, _, _⟩ b hb
      have := hS b hb
      exact ⟨by omega, this.2⟩)
    (fun pre S A h => hBx pre S A h.1.1)
    (by
      rintro pre S x A ⟨⟨hi, hS⟩, hl, hd⟩ hh
      have lt1 : B + 1 < A.heap.size := (Array.getElem?_eq_some_iff.1 hl).1
      have hl' : A.heap[B + 1]? = some (.loop { state := .ready, pending := none, fn, tmps := a.tmps, params := ps, assign, body, defers := w.heap.size }) := by rw [hl, hrec]
      refine ⟨fn, _, assign, body, run_yield (P := P) (args := encs x) hl' (by simpa using hps x), roundIn_of_wpIn trivial ?_⟩
      refine wpIn_mono (hround (B + 1) pre S x A (by omega) lt1 (fun b hb => ⟨by have := (hS b hb).1; omega, (hS b hb).2⟩) hi hh ⟨_, hl'⟩) ?_
      intro e a₁ A₁ h
      cases e with
      | normal =>
        obtain ⟨g1, h⟩ := h
        have l1 : A₁.heap[B + 1]? = some (rec .ready none) := (g1.block _ lt1 ⟨by omega, fun hs => by have := (hS _ hs).1; omega⟩).trans hl
        have l1' : A₁.heap[B + 1]? = some (.loop { state := .ready, pending := none, fn, tmps := a.tmps, params := ps, assign, body, defers := w.heap.size }) := by rw [l1, hrec]
        have lt2 : B + 1 < A₁.heap.size := (Array.getElem?_eq_some_iff.1 l1).1
        refine ⟨_, run_beginRound l1' rfl, ?_⟩
        have g2 : Agr (fun b => b ≠ B + 1) A₁ (A₁.putObj (B + 1) (rec .busy none)) := Agr.putObj _ _ _ (fun h => h rfl)
        have e2 : (Obj.loop { state := .busy, pending := none, fn, tmps := a.tmps, params := ps, assign, body, defers := w.heap.size } : Obj) = rec .busy none := by rw [hrec]
        refine wpIn_mono (h _ (by rw [← e2] at g2; exact g2) (by simp)) ?_
        rintro e2' a₂ A₃ ⟨rfl, g3, S', s1, s2, hi3⟩
        have l2 : (A₁.putObj (B + 1) (rec .busy none)).heap[B + 1]? = some (rec .busy none) := World.putObj_heap_same lt2
        rw [← e2] at l2
        have l3 := (g3.block (B + 1) (by simpa using lt2) ⟨by omega, fun hs => by have := (hS _ hs).1; omega⟩).trans l2
        have lt3 : B + 1 < A₃.heap.size := (Array.getElem?_eq_some_iff.1 l3).1
        have d1 : A₁.heap[B]? = some (.deferred (some [])) := (g1.block _ (by omega) ⟨by omega, fun hs => by have := (hS _ hs).1; omega⟩).trans hd
        have d2 := (World.putObj_heap_other (w := A₁) (r := B + 1) (o := (Obj.loop { state := .busy, pending := none, fn, tmps := a.tmps, params := ps, assign, body, defers := w.heap.size } : Obj)) (k := B) (by omega)).trans d1
        have d3 := (g3.block B (by simp; omega) ⟨by omega, fun hs => by have := (hS _ hs).1; omega⟩).trans d2
        have hend := run_endRound (P := P) none l3
        refine ⟨_, _, hend, .inl ⟨rfl, ?_, S', fun b hb => ?_, ⟨⟨?_, fun b hb => ?_⟩, ?_, ?_⟩⟩⟩
        · -- what lay above, the rounds' own apart, and the record apart
          refine ((g1.mono fun b _ h => ⟨by omega, h.2⟩).trans ((Agr.putObj _ _ _ ?_).trans ((g3.mono fun b _ h => ⟨by omega, h.2⟩).trans (Agr.putObj _ _ _ ?_))))
          · intro h; have := h.1; omega
          · intro h; have := h.1; omega
        · exact s1 b hb
        · refine hI _ _ _ _ hi3 (Agr.putObj _ _ _ ?_)
          rintro (h | h)
          · omega
          · rcases s1 _ h with h' | h'
            · have := (hS _ h').1; omega
            · omega
        · refine ⟨?_, by simpa using s2 b hb⟩
          rcases s1 b hb with h' | h'
          · exact (hS b h').1
          · have : B + 1 < A.heap.size := lt1
            omega
        · have := World.putObj_heap_same (w := A₃) (r := B + 1) (o := rec .ready none) lt3
          rw [hrec] at this ⊢
          simpa using this
        · exact (World.putObj_heap_other (by omega)).trans d3
      | exit id => exact h.elim
      | goto t => exact h.elim
      | ret => exact h.elim
      | panic c => exact h.elim
      | outgrown => exact h.elim)
    ⟨⟨hI _ _ _ _ h0 (Agr.new b1), fun b hb => hb.elim⟩, hL1, hD1⟩
  refine ⟨B + 1, [{ target := .collected B, args := #[] }], W1, { target := .fn (.func gf) lb, args := #[.func (.yield (B + 1)) #[] #[]] }, W1, gf, #[.func (.yield (B + 1)) #[] #[]] ++ lb, W1, ?_, ?_, fun _ _ => trivial, ?_, fun h => absurd h (by simp [Fence.wide]), ?_⟩
  · have := run_enterLoop_outer (P := P) (w := w) fn a.tmps ps assign body
    rw [← hW1, hrec, ← hB]
    exact this
  · simp only [resolve, hg]
    simp [go_sem]
  · simp [invoke, go_sem, eg]
  · have h3 : ∀ k, CallsIn Fence.wide 3 P gf (#[.func (.yield (B + 1)) #[] #[]] ++ lb) W1 k → CallsIn Fence.wide (n - 1) P gf (#[.func (.yield (B + 1)) #[] #[]] ++ lb) W1 k := fun k h => callsIn_wide.2 (callsIn_wide.1 h)
    refine h3 _ (hcall.mono ?_)
    rintro e A' ⟨pre, S, ⟨⟨hi, hS⟩, hl, hd⟩, hx⟩
    have lt1 : B + 1 < A'.heap.size := (Array.getElem?_eq_some_iff.1 hl).1
    have hl' : A'.heap[B + 1]? = some (.loop { state := .ready, pending := none, fn, tmps := a.tmps, params := ps, assign, body, defers := w.heap.size }) := by rw [hl, hrec]
    rcases hx with ⟨v, rfl, hf⟩ | ⟨rfl, hr⟩
    · refine ⟨none, _, run_endLoop hl' (by simp), ?_⟩
      refine hdone B pre S _ (by omega) (hI _ _ _ _ hi (Agr.putObj _ _ _ ?_)) (hFin _ _ _ _ _ hl' hf) ((World.putObj_heap_other (by omega)).trans hd)
      rintro (h | h)
      · omega
      · have := (hS _ h).1; omega
    · exact hpanic B pre S A' (by omega) hr hi hd
end Go.Proofs.YtdjifjlgllohmaaDoor
