/- Merged texts. -/
import Derived.RangeFuncNested
import Derived.RangeFuncBound
import Derived.RangeFuncCalls
import Derived.RangeFuncLeaves
import Derived.Shelf.Abstract
import Derived.Shelf.RegionOpen
import Derived.OwnWalkIn
import Derived.TacticsInMore
import Derived.LoopNIn
import Derived.LoopIn
import Derived.Test.YtdjifjlgllohmaaDoorYDS13
import Derived.Test.YtdjifjlgllohmaaDoorYDS25
import Derived.Test.YtdjifjlgllohmaaDoorYDS18
import Derived.Test.YtdjifjlgllohmaaDoorYDS14
import Derived.Test.YtdjifjlgllohmaaDoorYDS8
import Derived.Test.YtdjifjlgllohmaaDoorYDS23
/- A range over a function whose iterator may panic: the statement out of the iterator's contract. Under the wide fence, at an outermost loop; the rounds end off their ends. -/
namespace Go.Proofs.YtdjifjlgllohmaaDoor
open Go.RowKit
set_option linter.unusedVariables false
set_option linter.unusedSimpArgs false

/-- The worlds agree at the old blocks that P names. -/
structure Agr (P : Nat → Prop) (W W' : World) : Prop where
  os : W'.os = W.os
  tape : W'.tape = W.tape
  output : W'.output = W.output
  size : W.heap.size ≤ W'.heap.size
  block : ∀ b, b < W.heap.size → P b → W'.heap[b]? = W.heap[b]?
theorem Agr.refl (P : Nat → Prop) (W : World) : Agr P W W := ⟨rfl, rfl, rfl, Nat.le_refl _, fun _ _ _ => rfl⟩
theorem Agr.trans {P : Nat → Prop} {a b c : World} (h : Agr P a b) (k : Agr P b c) : Agr P a c :=
  ⟨k.os.trans h.os, k.tape.trans h.tape, k.output.trans h.output, Nat.le_trans h.size k.size, fun i hi hp => (k.block i (Nat.lt_of_lt_of_le hi h.size) hp).trans (h.block i hi hp)⟩
theorem Agr.mono {P Q : Nat → Prop} {W W' : World} (h : Agr P W W') (hq : ∀ b, b < W.heap.size → Q b → P b) : Agr Q W W' := ⟨h.os, h.tape, h.output, h.size, fun b hb hQ => h.block b hb (hq b hb hQ)⟩
theorem Agr.below {B : Nat} {W W' : World} (h : Below B W W') : Agr (fun b => b < B) W W' := ⟨h.os, h.tape, h.output, h.size, fun b _ hb => h.block b hb⟩
theorem Agr.to_below {B : Nat} {W W' : World} (h : Agr (fun b => b < B) W W') (hB : B ≤ W.heap.size) : Below B W W' := ⟨h.os, h.tape, h.output, h.size, fun b hb => h.block b (by omega) hb⟩
theorem Agr.new {P : Nat → Prop} {W W' : World} (h : Below W.heap.size W W') : Agr P W W' := ⟨h.os, h.tape, h.output, h.size, fun b hb _ => h.block b hb⟩
theorem Agr.cell {P : Nat → Prop} {W W' : World} (h : Agr P W W') {b o : Nat} {v : Value} (hc : W.cell? ⟨b, o, none⟩ = some v) (hp : P b) : W'.cell? ⟨b, o, none⟩ = some v :=
  (World.cell?_of_block (w := W) (h.block b (World.block_lt_of_cell? W _ hc) hp)).trans hc
theorem Agr.frozen {P : Nat → Prop} {W W' : World} (h : Agr P W W') {b o : Nat} {v : Value} {x : Bool} (hc : W.cell? ⟨b, o, none⟩ = some v) (hf : W.frozen? ⟨b, o, none⟩ = x) (hp : P b) : W'.frozen? ⟨b, o, none⟩ = x :=
  (World.frozen?_of_block (w := W) (h.block b (World.block_lt_of_cell? W _ hc) hp)).trans hf
theorem Agr.setCell {P : Nat → Prop} (W : World) {a : Addr} (v : Value) (h : ¬ P a.block) : Agr P W (W.setCell a v) :=
  ⟨rfl, rfl, rfl, by simp [World.setCell], fun b hb hp => Below.heap_setCell _ _ _ _ (fun e => h (e ▸ hp))⟩
theorem Agr.setNew {P : Nat → Prop} {W W' : World} (h : Agr P W W') {a : Addr} (v : Value) (ha : W.heap.size ≤ a.block) : Agr P W (W'.setCell a v) :=
  ⟨h.os, h.tape, h.output, by simpa [World.setCell] using h.size, fun b hb hp => (Below.heap_setCell _ _ _ _ (by omega)).trans (h.block b hb hp)⟩
theorem Agr.putObj {P : Nat → Prop} (W : World) (l : Nat) (o : Obj) (h : ¬ P l) : Agr P W (W.putObj l o) :=
  ⟨rfl, rfl, rfl, by simp, fun b hb hp => World.putObj_heap_other (fun e => h (e ▸ hp))⟩
theorem Agr.drew (P : Nat → Prop) (W : World) : Agr P W W.drew := ⟨rfl, rfl, rfl, Nat.le_refl _, fun _ _ _ => rfl⟩
theorem Agr.grown {P : Nat → Prop} {W W' : World} {row : Option Nat} (h : W.grownBy W' row) (hr : ∀ r, row = some r → ¬ P r) : Agr P W W' :=
  ⟨h.os, h.tape, h.output, h.size, fun b hb hp => h.block b hb (fun e => hr b e.symm hp)⟩

/-- AN ITERATOR's CONTRACT where it may panic with ch for the reason Rs: J is what the rounds keep (pre: what has come; S: the blocks of the rounds' own); Hd tells of what comes, Fin of the end. -/
def IterC {α : Type} (P : Program) (gf : Nat) (lb : Array Value) (encs : α → Array Value) (Hd : (Nat → Prop) → List α → α → World → Prop) (Fin Bx : List α → World → Prop) (ch : List PanicEntry) (Rs : Prop) (w : World) : Prop :=
  ∀ (l : Nat) (J : List α → (Nat → Prop) → World → Prop) (W : World), Below w.heap.size w W →
    (∀ pre S A A', J pre S A → Agr (fun b => b < W.heap.size ∨ S b) A A' → J pre S A') →
    (∀ pre S A, J pre S A → ∀ b, S b → W.heap.size ≤ b ∧ b < A.heap.size) →
    (∀ pre S A, J pre S A → Bx pre A) →
    (∀ pre S x A, J pre S A → Hd S pre x A → YieldAt Fence.wide 2 P l (encs x) A fun e A' =>
      (e = .returned (.bool true) ∧ Agr (fun b => W.heap.size ≤ b ∧ ¬ S b) A A' ∧ ∃ S', (∀ b, S' b → S b ∨ A.heap.size ≤ b) ∧ J (pre ++ [x]) S' A') ∨ (e = .panicked ch ∧ Rs ∧ ∃ pre' S', J pre' S' A')) →
    J [] (fun _ => False) W →
    CallsIn Fence.wide 3 P gf (#[.func (.yield l) #[] #[]] ++ lb) W fun e A' => ∃ pre S, J pre S A' ∧ ((∃ v, e = .returned v ∧ Fin pre A') ∨ (e = .panicked ch ∧ Rs))

/-- What a round asks: the blocks that were there when the loop began to stand (w), and the rounds' own (S), may turn. -/
def RoundR {α : Type} (P : Program) (ps : Array Tmp) (assign body : Code) (encs : α → Array Value) (tm : Array Value) (w : World) (I : List α → (Nat → Prop) → World → Prop) (l : Nat) (pre : List α) (S : Nat → Prop) (x : α) (A : World) : Prop :=
  assign.wpIn (Fence.wide.inRound l) 2 P (Exit.then (fun a₁ A₁ => Agr (fun b => w.heap.size ≤ b ∧ ¬ S b) A A₁ ∧
      ∀ A₂, Agr (fun b => b ≠ l) A₁ A₂ → A₂.heap.size = A₁.heap.size → body.wpIn (Fence.wide.inRound l) 2 P (fun e a₂ A₃ => e = .normal ∧ Agr (fun b => w.heap.size ≤ b ∧ ¬ S b) A₂ A₃ ∧
        ∃ S', (∀ b, S' b → S b ∨ A.heap.size ≤ b) ∧ (∀ b, S' b → b < A₃.heap.size) ∧ I (pre ++ [x]) S' A₃) a₁ A₂) (fun _ _ _ => False))
    { tmps := (ps.zip (encs x)).foldl (fun t (p, v) => t.setIfInBounds p v) tm, defers := [] } A

/-- 'for .. := range g { .. }' over such an iterator. -/
theorem wpIn_rangeP {α : Type} {P : Program} {g : Operand} {ps : Array Tmp} {assign body : Code} {Q : Exit → Act → World → Prop} {a : Act} {w w0 : World} {n gf : Nat} {lb : Array Value}
    (hg : a.eval g = .func (.func gf) #[] lb) (eg : ∀ args v, (callFunc gf args).run P v = .ok (.enter gf args) v)
    {encs : α → Array Value} {Hd : (Nat → Prop) → List α → α → World → Prop} {Fin Bx : List α → World → Prop} {ch : List PanicEntry} {Rs : Prop} (hit : IterC P gf lb encs Hd Fin Bx ch Rs w0) (hb0 : Below w0.heap.size w0 w) (hps : ∀ x, (encs x).size = ps.size)
    (I : List α → (Nat → Prop) → World → Prop)
    (hI : ∀ pre S A A', I pre S A → Agr (fun b => b < w.heap.size ∨ S b) A A' → I pre S A')
    (hBx : ∀ pre S A, I pre S A → Bx pre A)
    (hFin : ∀ pre A l o r, A.heap[l]? = some (.loop r) → Fin pre A → Fin pre (A.putObj l o))
    (h0 : I [] (fun _ => False) w)
    (hround : ∀ (l : Nat) (pre : List α) (S : Nat → Prop) (x : α) (A : World), w.heap.size < l → l < A.heap.size → (∀ b, S b → l < b ∧ b < A.heap.size) → I pre S A → Hd S pre x A → RoundR P ps assign body encs a.tmps w I l pre S x A)
    (hdone : ∀ (D : Nat) (pre : List α) (S : Nat → Prop) (A : World), w.heap.size ≤ D → I pre S A → Fin pre A → A.heap[D]? = some (.deferred (some [])) → Q .normal { a with defers := { target := .collected D, args := #[] } :: a.defers } A)
    (hpanic : ∀ (D : Nat) (pre : List α) (S : Nat → Prop) (A : World), w.heap.size ≤ D → Rs → I pre S A → A.heap[D]? = some (.deferred (some [])) → Q (.panic ch) { a with defers := { target := .collected D, args := #[] } :: a.defers } A) :
    (Code.rangeFunc g ps assign body).wpIn Fence.wide n P Q a w := by
  refine wpIn_rangeFunc fun fn _ => ?_
  -- the record l = B + 1, the block for deferred calls B
  obtain ⟨B, hB⟩ : ∃ B, w.heap.size = B := ⟨_, rfl⟩
  obtain ⟨rec, hrec⟩ : ∃ rec : LoopState → Option Code → Obj, rec = fun st pe => .loop { state := st, pending := pe, fn, tmps := a.tmps, params := ps, assign, body, defers := w.heap.size } := ⟨_, rfl⟩
  obtain ⟨W1, hW1⟩ : ∃ W1, (w.alloc (.deferred (some []))).alloc (rec .ready none) = W1 := ⟨_, rfl⟩
  have zW : W1.heap.size = B + 2 := by rw [← hW1, ← hB]; simp
  have b1 : Below w.heap.size w W1 := by rw [← hW1]; exact bl2 w _ _
  have hD1 : W1.heap[B]? = some (.deferred (some [])) := by
    rw [← hW1, ← hB]; exact (Below.heap_alloc _ _ _ (by simp)).trans (World.alloc_heap_new w _)
  have hL1 : W1.heap[B + 1]? = some (rec .ready none) := by
    rw [← hW1]; have := World.alloc_heap_new (w.alloc (.deferred (some []))) (rec .ready none); rwa [World.size_alloc, hB] at this
  have hcall := hit (B + 1) (fun pre S A => (I pre S A ∧ ∀ b, S b → B + 2 ≤ b ∧ b < A.heap.size) ∧ A.heap[B + 1]? = some (rec .ready none) ∧ A.heap[B]? = some (.deferred (some [])))
    W1 (bnext hb0 b1)
    (by
      rintro pre S A A' ⟨⟨hi, hS⟩, hl, hd⟩ hA
      have lt1 : B + 1 < A.heap.size := (Array.getElem?_eq_some_iff.1 hl).1
      refine ⟨⟨hI pre S A A' hi (hA.mono fun b _ h => ?_), fun b hb => ⟨(hS b hb).1, Nat.lt_of_lt_of_le (hS b hb).2 hA.size⟩⟩, (hA.block _ lt1 (.inl (by omega))).trans hl, (hA.block _ (by omega) (.inl (by omega))).trans hd⟩
      rcases h with h | h
      · exact .inl (by omega)
      · exact .inr h)
    (by
      rintro pre S A ⟨⟨_, hS⟩, _, _⟩ b hb
      have := hS b hb
      exact ⟨by omega, this.2⟩)
    (fun pre S A h => hBx pre S A h.1.1)
    (by
      rintro pre S x A ⟨⟨hi, hS⟩, hl, hd⟩ hh
      have lt1 : B + 1 < A.heap.size := (Array.getElem?_eq_some_iff.1 hl).1
      have hl' : A.heap[B + 1]? = some (.loop { state := .ready, pending := none, fn, tmps := a.tmps, params := ps, assign, body, defers := w.heap.size }) := by rw [hl, hrec]
      refine ⟨fn, _, assign, body, run_yield (P := P) (args := encs x) hl' (by simpa using hps x), roundIn_of_wpIn trivial ?_⟩
      refine wpIn_mono (hround (B + 1) pre S x A (by omega) lt1 (fun b hb => ⟨by have := (hS b hb).1; omega, (hS b hb).2⟩) hi hh) ?_
      intro e a₁ A₁ h
      cases e with
      | normal =>
        obtain ⟨g1, h⟩ := h
        have l1 : A₁.heap[B + 1]? = some (rec .ready none) := (g1.block _ lt1 ⟨by omega, fun hs => by have := (hS _ hs).1; omega⟩).trans hl
        have l1' : A₁.heap[B + 1]? = some (.loop { state := .ready, pending := none, fn, tmps := a.tmps, params := ps, assign, body, defers := w.heap.size }) := by rw [l1, hrec]
        have lt2 : B + 1 < A₁.heap.size := (Array.getElem?_eq_some_iff.1 l1).1
        refine ⟨_, run_beginRound l1' rfl, ?_⟩
        have g2 : Agr (fun b => b ≠ B + 1) A₁ (A₁.putObj (B + 1) (rec .busy none)) := Agr.putObj _ _ _ (fun h => h rfl)
        have e2 : (Obj.loop { state := .busy, pending := none, fn, tmps := a.tmps, params := ps, assign, body, defers := w.heap.size } : Obj) = rec .busy none := by rw [hrec]
        refine wpIn_mono (h _ (by rw [← e2] at g2; exact g2) (by simp)) ?_
        rintro e2' a₂ A₃ ⟨rfl, g3, S', s1, s2, hi3⟩
        have l2 : (A₁.putObj (B + 1) (rec .busy none)).heap[B + 1]? = some (rec .busy none) := World.putObj_heap_same lt2
        rw [← e2] at l2
        have l3 := (g3.block (B + 1) (by simpa using lt2) ⟨by omega, fun hs => by have := (hS _ hs).1; omega⟩).trans l2
        have lt3 : B + 1 < A₃.heap.size := (Array.getElem?_eq_some_iff.1 l3).1
        have d1 : A₁.heap[B]? = some (.deferred (some [])) := (g1.block _ (by omega) ⟨by omega, fun hs => by have := (hS _ hs).1; omega⟩).trans hd
        have d2 := (World.putObj_heap_other (w := A₁) (r := B + 1) (o := (Obj.loop { state := .busy, pending := none, fn, tmps := a.tmps, params := ps, assign, body, defers := w.heap.size } : Obj)) (k := B) (by omega)).trans d1
        have d3 := (g3.block B (by simp; omega) ⟨by omega, fun hs => by have := (hS _ hs).1; omega⟩).trans d2
        have hend := run_endRound (P := P) none l3
        refine ⟨_, _, hend, .inl ⟨rfl, ?_, S', fun b hb => ?_, ⟨⟨?_, fun b hb => ?_⟩, ?_, ?_⟩⟩⟩
        · -- what lay above, the rounds' own apart, and the record apart
          refine ((g1.mono fun b _ h => ⟨by omega, h.2⟩).trans ((Agr.putObj _ _ _ ?_).trans ((g3.mono fun b _ h => ⟨by omega, h.2⟩).trans (Agr.putObj _ _ _ ?_))))
          · intro h; have := h.1; omega
          · intro h; have := h.1; omega
        · exact s1 b hb
        · refine hI _ _ _ _ hi3 (Agr.putObj _ _ _ ?_)
          rintro (h | h)
          · omega
          · rcases s1 _ h with h' | h'
            · have := (hS _ h').1; omega
            · omega
        · refine ⟨?_, by simpa using s2 b hb⟩
          rcases s1 b hb with h' | h'
          · exact (hS b h').1
          · have : B + 1 < A.heap.size := lt1
            omega
        · have := World.putObj_heap_same (w := A₃) (r := B + 1) (o := rec .ready none) lt3
          rw [hrec] at this ⊢
          simpa using this
        · exact (World.putObj_heap_other (by omega)).trans d3
      | exit id => exact h.elim
      | goto t => exact h.elim
      | ret => exact h.elim
      | panic c => exact h.elim
      | outgrown => exact h.elim)
    ⟨⟨hI _ _ _ _ h0 (Agr.new b1), fun b hb => hb.elim⟩, hL1, hD1⟩
  refine ⟨B + 1, [{ target := .collected B, args := #[] }], W1, { target := .fn (.func gf) lb, args := #[.func (.yield (B + 1)) #[] #[]] }, W1, gf, #[.func (.yield (B + 1)) #[] #[]] ++ lb, W1, ?_, ?_, fun _ _ => trivial, ?_, fun h => absurd h (by simp [Fence.wide]), ?_⟩
  · have := run_enterLoop_outer (P := P) (w := w) fn a.tmps ps assign body
    rw [← hW1, hrec, ← hB]
    exact this
  · simp only [resolve, hg]
    simp [go_sem]
  · simp [invoke, go_sem, eg]
  · have h3 : ∀ k, CallsIn Fence.wide 3 P gf (#[.func (.yield (B + 1)) #[] #[]] ++ lb) W1 k → CallsIn Fence.wide (n - 1) P gf (#[.func (.yield (B + 1)) #[] #[]] ++ lb) W1 k := fun k h => callsIn_wide.2 (callsIn_wide.1 h)
    refine h3 _ (hcall.mono ?_)
    rintro e A' ⟨pre, S, ⟨⟨hi, hS⟩, hl, hd⟩, hx⟩
    have lt1 : B + 1 < A'.heap.size := (Array.getElem?_eq_some_iff.1 hl).1
    have hl' : A'.heap[B + 1]? = some (.loop { state := .ready, pending := none, fn, tmps := a.tmps, params := ps, assign, body, defers := w.heap.size }) := by rw [hl, hrec]
    rcases hx with ⟨v, rfl, hf⟩ | ⟨rfl, hr⟩
    · refine ⟨none, _, run_endLoop hl' (by simp), ?_⟩
      refine hdone B pre S _ (by omega) (hI _ _ _ _ hi (Agr.putObj _ _ _ ?_)) (hFin _ _ _ _ _ hl' hf) ((World.putObj_heap_other (by omega)).trans hd)
      rintro (h | h)
      · omega
      · have := (hS _ h).1; omega
    · exact hpanic B pre S A' (by omega) hr hi hd
end Go.Proofs.YtdjifjlgllohmaaDoor
/- Contracts: apply, divideByNorm, squareNorm of the program: the answer, or the panic with the package's error. -/
namespace Go.Proofs.YtdjifjlgllohmaaDoor
open Go.RowKit
set_option linter.unusedVariables false
set_option linter.unusedSimpArgs false

/-- The package's error lies at a. -/
def ErrV (w : World) (a : Addr) : Prop := w.cell? ⟨0, 0, none⟩ = some (.iface 117 (.pointer (some a)))
theorem ErrV.below {w w' : World} {a : Addr} (h : ErrV w a) (hb : Below w.heap.size w w') : ErrV w' a := cell_be hb h
/-- The panic with it. -/
def chE (a : Addr) : List PanicEntry := [{ v := .iface 117 (.pointer (some a)), recovered := false }]
set_option maxRecDepth 100000 in
set_option maxHeartbeats 1600000 in
theorem apply_ok (p : Int) (a2 : Option Addr) (n2 c2 : Nat) (xs : List Int) (a1 : Option Addr) (n1 c1 : Nat) (f : List Int) (w : World) (h2 : SL w a2 n2 c2 xs) (h1 : SL w a1 n1 c1 f)
    (b1 : n1 ≤ 1000) (b2 : n2 ≤ 1000) (hn : n1 ≤ n2) (hp : 2 ≤ p) (hp2 : p ≤ 10007) (hf : areB p f = true) (hx : areB p xs = true) :
    Calls Tryd.prog 84 #[mom p a2 n2 c2, .slice a1 n1 c1] w fun e w' => e = .returned (.int .i64 (dotK p f xs 0 f.length)) ∧ Below w.heap.size w w' := by
  have hb0 := bl1 w (.cells #[.int .i64 p, .slice a2 n2 c2] 30)
  have hng : ¬ ((n2 : Int) < (n1 : Int)) := by omega
  go_enter Tryd.func84, Tryd.ntmps84
  go_wp2_with fail
  refine (functional_int _ _ _ _ _ _ _ _ _ _ (h1.below hb0) (h2.below hb0) b1 hn hp hp2 hf hx).mono ?_
  rintro e w1 ⟨rfl, rfl⟩
  go_wp2
  go_ret
  exact ⟨rfl, hb0⟩
set_option maxRecDepth 100000 in
set_option maxHeartbeats 1600000 in
theorem apply_no (p : Int) (a2 : Option Addr) (n2 c2 : Nat) (a1 : Option Addr) (n1 c1 : Nat) (ae : Addr) (w : World) (he : ErrV w ae) (b1 : n1 ≤ 1000) (b2 : n2 ≤ 1000) (hn : n2 < n1) :
    Calls Tryd.prog 84 #[mom p a2 n2 c2, .slice a1 n1 c1] w fun e w' => e = .panicked (chE ae) ∧ Below w.heap.size w w' := by
  have hb0 := bl1 w (.cells #[.int .i64 p, .slice a2 n2 c2] 30)
  have he1 := cell_be hb0 he
  have hng : ((n2 : Int) < (n1 : Int)) := by omega
  go_enter Tryd.func84, Tryd.ntmps84
  go_wp2
  exact ⟨rfl, rfl, hb0⟩
set_option maxRecDepth 100000 in
set_option maxHeartbeats 1600000 in
theorem divn_ok (p x v : Int) (w : World) (hp : 2 ≤ p) (hp2 : p ≤ 10007) (x0 : 0 ≤ x) (x1 : x < p) (v0 : 0 ≤ v) (v1 : v < p) (hv : v ≠ 0) :
    Calls Tryd.prog 103 #[.int .i64 p, .int .i64 x, .int .i64 v] w fun e w' => e = .returned (.int .i64 (x * invM p v % p)) ∧ Below w.heap.size w w' := by
  have hi := powM_rng (p := p) (x := v) (k := p - 2) hp
  have hi2 : 0 ≤ invM p v ∧ invM p v < p := hi
  obtain ⟨m1, m2⟩ := mulb x0 x1 hi2.1 hi2.2 hp2
  have hp0 : ¬ p = 0 := by omega
  go_enter Tryd.func103, Tryd.ntmps103
  go_wp2_with fail
  refine (inverse_any _ _ _ hp hp2 v0 v1).mono ?_
  rintro e w1 ⟨rfl, hb1⟩
  go_wp2
  go_ret
  exact ⟨rfl, hb1⟩
set_option maxRecDepth 100000 in
set_option maxHeartbeats 1600000 in
theorem divn_no (p x : Int) (ae : Addr) (w : World) (he : ErrV w ae) :
    Calls Tryd.prog 103 #[.int .i64 p, .int .i64 x, .int .i64 0] w fun e w' => e = .panicked (chE ae) ∧ Below w.heap.size w w' := by
  have he1 : w.cell? ⟨0, 0, none⟩ = some (.iface 117 (.pointer (some ae))) := he
  go_enter Tryd.func103, Tryd.ntmps103
  go_wp2
  exact ⟨rfl, rfl, Below.refl _ _⟩

set_option maxRecDepth 100000 in
set_option maxHeartbeats 1600000 in
theorem sqn_ok (p : Int) (a2 : Option Addr) (n2 c2 : Nat) (xs : List Int) (a1 : Option Addr) (n1 c1 : Nat) (f : List Int) (w : World) (h2 : SL w a2 n2 c2 xs) (h1 : SL w a1 n1 c1 f)
    (b1 : n1 ≤ 400) (b2 : n2 ≤ 1000) (h0 : 1 ≤ n1) (hn : 2 * n1 ≤ n2 + 1) (hp : 2 ≤ p) (hp2 : p ≤ 10007) (hf : areB p f = true) (hx : areB p xs = true) :
    Calls Tryd.prog 54 #[mom p a2 n2 c2, .slice a1 n1 c1] w fun e w' => e = .returned (.int .i64 (nrI p f xs 0)) ∧ Below w.heap.size w w' := by
  have hb0 := bl1 w (.cells #[.int .i64 p, .slice a2 n2 c2] 30)
  have hlen := h1.len
  have hsq : (mulM p f f).length = 2 * n1 - 1 := by rw [mulM_mlen, hlen]; unfold mlen; rw [if_neg (by omega)]; omega
  replace hlen := hide hlen
  replace hsq := hide hsq
  have Hq := hide (show nrI p f xs 0 = dotK p (mulM p f f) xs 0 (mulM p f f).length from rfl)
  replace h1 := h1.below hb0
  replace h2 := h2.below hb0
  go_enter Tryd.func54, Tryd.ntmps54
  go_upto_region 1 with fail
  generalize hwx : w.alloc (.cells #[.int .i64 p, .slice a2 n2 c2] 30) = wx at *
  have m0 : wx.cell? ⟨w.heap.size, 0, none⟩ = some (.int .i64 p) := by rw [← hwx]; simp [go_sem]
  have m1 : wx.cell? ⟨w.heap.size, 1, none⟩ = some (.slice a2 n2 c2) := by rw [← hwx]; simp [go_sem]
  clear hwx
  have hm := (Below.refl wx.heap.size wx).drew
  have F : ∀ w', Below wx.heap.size wx w' → w'.cell? ⟨w.heap.size, 0, none⟩ = some (.int .i64 p) ∧ w'.cell? ⟨w.heap.size, 1, none⟩ = some (.slice a2 n2 c2) := fun w' hb => ⟨cell_be hb m0, cell_be hb m1⟩
  refine region_E (fun w' => w'.cell? ⟨w.heap.size, 0, none⟩ = some (.int .i64 p) ∧ w'.cell? ⟨w.heap.size, 1, none⟩ = some (.slice a2 n2 c2)) 99 (by kernel_rfl) (F _ hm) ?_
  intro hS
  refine anyE_takeH 0 rfl (by kernel_rfl) (fun _ _ _ h => h) hS (by rfl) (v := ?_) ?_ ?_
  rotate_left
  · intro w' hSw; (try dsimp only at hSw); go_simp; (try with_reducible rfl)
  try simp only [Act.put, List.setIfInBounds_toArray, List.set_cons_zero, List.set_cons_succ]
  refine anyE_takeH 1 rfl (by kernel_rfl) (fun _ _ _ h => h) hS (by rfl) (v := ?_) ?_ ?_
  rotate_left
  · intro w' hSw; (try dsimp only at hSw); go_simp; (try with_reducible rfl)
  try simp only [Act.put, List.setIfInBounds_toArray, List.set_cons_zero, List.set_cons_succ]
  refine anyE_takeH 2 rfl (by kernel_rfl) (fun _ _ _ h => h) hS (by rfl) (v := ?_) ?_ ?_
  rotate_left
  · intro w' hSw; (try dsimp only at hSw); go_simp; (try with_reducible rfl)
  try simp only [Act.put, List.setIfInBounds_toArray, List.set_cons_zero, List.set_cons_succ]
  refine anyE_takeH 3 rfl (by kernel_rfl) (fun _ _ _ h => h) hS (by rfl) (v := ?_) ?_ ?_
  rotate_left
  · intro w' hSw; (try dsimp only at hSw); go_simp; (try with_reducible rfl)
  try simp only [Act.put, List.setIfInBounds_toArray, List.set_cons_zero, List.set_cons_succ]
  refine anyE_takeH 4 rfl (by kernel_rfl) (fun _ _ _ h => h) hS (by rfl) (v := ?_) ?_ ?_
  rotate_left
  · intro w' hSw; (try dsimp only at hSw); go_simp; (try with_reducible rfl)
  try simp only [Act.put, List.setIfInBounds_toArray, List.set_cons_zero, List.set_cons_succ]
  clear hS
  obtain ⟨u0, hu0⟩ : ∃ u, u = wx.drew := ⟨_, rfl⟩
  rw [← hu0] at hm ⊢
  clear hu0
  refine anyE_oneL 5 (by kernel_rfl) rfl (fun K' hK' => ?_)
  go_simp
  refine (multiply_any _ _ _ _ _ _ _ _ _ _ (h1.below hm) (h1.below hm) (by omega) (by omega) hp hp2 hf hf).mono ?_
  rintro e u1 ⟨a', c', rfl, ho, lx⟩
  dsimp only
  replace hm := bnext hm lx
  refine hK'.out _ _ (F _ hm) ?_
  clear hK' K'
  try simp only [Act.put, List.setIfInBounds_toArray, List.set_cons_zero, List.set_cons_succ]
  refine anyE_oneL 6 (by kernel_rfl) rfl (fun K' hK' => ?_)
  go_simp
  refine (apply_ok _ _ _ _ _ _ _ _ _ _ (h2.below hm) ho.sl (by have := hsq.out; omega) b2 (by have := hsq.out; omega) hp hp2 (mulM_areB hp _ _) hx).mono ?_
  rintro e u2 ⟨rfl, lx2⟩
  dsimp only
  rw [← Hq.out]
  replace hm := bnext hm lx2
  refine hK'.out _ _ (F _ hm) ?_
  clear hK' K'
  try simp only [Act.put, List.setIfInBounds_toArray, List.set_cons_zero, List.set_cons_succ]
  refine anyE_oneL 7 (by kernel_rfl) rfl (fun K' hK' => ?_)
  go_simp
  refine hK'.out _ _ (F _ hm) ?_
  clear hK' K'
  refine anyE_doneL (by kernel_rfl) ?_
  go_wp2
  go_ret
  exact ⟨rfl, hb0.trans (hm.mono hb0.size)⟩
set_option maxRecDepth 100000 in
set_option maxHeartbeats 1600000 in
theorem sqn_no (p : Int) (a2 : Option Addr) (n2 c2 : Nat) (xs : List Int) (a1 : Option Addr) (n1 c1 : Nat) (f : List Int) (ae : Addr) (w : World) (h2 : SL w a2 n2 c2 xs) (h1 : SL w a1 n1 c1 f) (he : ErrV w ae)
    (b1 : n1 ≤ 400) (b2 : n2 ≤ 1000) (h0 : 1 ≤ n1) (hn : n2 + 1 < 2 * n1) (hp : 2 ≤ p) (hp2 : p ≤ 10007) (hf : areB p f = true) (hx : areB p xs = true) :
    Calls Tryd.prog 54 #[mom p a2 n2 c2, .slice a1 n1 c1] w fun e w' => e = .panicked (chE ae) ∧ Below w.heap.size w w' := by
  have hb0 := bl1 w (.cells #[.int .i64 p, .slice a2 n2 c2] 30)
  have hlen := h1.len
  have hsq : (mulM p f f).length = 2 * n1 - 1 := by rw [mulM_mlen, hlen]; unfold mlen; rw [if_neg (by omega)]; omega
  replace hlen := hide hlen
  replace hsq := hide hsq
  replace h1 := h1.below hb0
  replace h2 := h2.below hb0
  replace he := he.below hb0
  go_enter Tryd.func54, Tryd.ntmps54
  go_upto_region 1 with fail
  generalize hwx : w.alloc (.cells #[.int .i64 p, .slice a2 n2 c2] 30) = wx at *
  have m0 : wx.cell? ⟨w.heap.size, 0, none⟩ = some (.int .i64 p) := by rw [← hwx]; simp [go_sem]
  have m1 : wx.cell? ⟨w.heap.size, 1, none⟩ = some (.slice a2 n2 c2) := by rw [← hwx]; simp [go_sem]
  clear hwx
  have hm := (Below.refl wx.heap.size wx).drew
  have F : ∀ w', Below wx.heap.size wx w' → w'.cell? ⟨w.heap.size, 0, none⟩ = some (.int .i64 p) ∧ w'.cell? ⟨w.heap.size, 1, none⟩ = some (.slice a2 n2 c2) := fun w' hb => ⟨cell_be hb m0, cell_be hb m1⟩
  refine region_E (fun w' => w'.cell? ⟨w.heap.size, 0, none⟩ = some (.int .i64 p) ∧ w'.cell? ⟨w.heap.size, 1, none⟩ = some (.slice a2 n2 c2)) 99 (by kernel_rfl) (F _ hm) ?_
  intro hS
  refine anyE_takeH 0 rfl (by kernel_rfl) (fun _ _ _ h => h) hS (by rfl) (v := ?_) ?_ ?_
  rotate_left
  · intro w' hSw; (try dsimp only at hSw); go_simp; (try with_reducible rfl)
  try simp only [Act.put, List.setIfInBounds_toArray, List.set_cons_zero, List.set_cons_succ]
  refine anyE_takeH 1 rfl (by kernel_rfl) (fun _ _ _ h => h) hS (by rfl) (v := ?_) ?_ ?_
  rotate_left
  · intro w' hSw; (try dsimp only at hSw); go_simp; (try with_reducible rfl)
  try simp only [Act.put, List.setIfInBounds_toArray, List.set_cons_zero, List.set_cons_succ]
  refine anyE_takeH 2 rfl (by kernel_rfl) (fun _ _ _ h => h) hS (by rfl) (v := ?_) ?_ ?_
  rotate_left
  · intro w' hSw; (try dsimp only at hSw); go_simp; (try with_reducible rfl)
  try simp only [Act.put, List.setIfInBounds_toArray, List.set_cons_zero, List.set_cons_succ]
  refine anyE_takeH 3 rfl (by kernel_rfl) (fun _ _ _ h => h) hS (by rfl) (v := ?_) ?_ ?_
  rotate_left
  · intro w' hSw; (try dsimp only at hSw); go_simp; (try with_reducible rfl)
  try simp only [Act.put, List.setIfInBounds_toArray, List.set_cons_zero, List.set_cons_succ]
  refine anyE_takeH 4 rfl (by kernel_rfl) (fun _ _ _ h => h) hS (by rfl) (v := ?_) ?_ ?_
  rotate_left
  · intro w' hSw; (try dsimp only at hSw); go_simp; (try with_reducible rfl)
  try simp only [Act.put, List.setIfInBounds_toArray, List.set_cons_zero, List.set_cons_succ]
  clear hS
  obtain ⟨u0, hu0⟩ : ∃ u, u = wx.drew := ⟨_, rfl⟩
  rw [← hu0] at hm ⊢
  clear hu0
  refine anyE_oneL 5 (by kernel_rfl) rfl (fun K' hK' => ?_)
  go_simp
  refine (multiply_any _ _ _ _ _ _ _ _ _ _ (h1.below hm) (h1.below hm) (by omega) (by omega) hp hp2 hf hf).mono ?_
  rintro e u1 ⟨a', c', rfl, ho, lx⟩
  dsimp only
  replace hm := bnext hm lx
  refine hK'.out _ _ (F _ hm) ?_
  clear hK' K'
  try simp only [Act.put, List.setIfInBounds_toArray, List.set_cons_zero, List.set_cons_succ]
  refine anyE_oneL 6 (by kernel_rfl) rfl (fun K' hK' => ?_)
  go_simp
  refine (apply_no _ _ _ _ _ _ _ ae _ (he.below hm) (by have := hsq.out; omega) b2 (by have := hsq.out; omega)).mono ?_
  rintro e u2 ⟨rfl, lx2⟩
  exact ⟨rfl, rfl, hb0.trans ((bnext hm lx2).mono hb0.size)⟩
end Go.Proofs.YtdjifjlgllohmaaDoor
