/- Merged texts. -/
import Derived.Test.YtdjifjlgllohmaaDoorYDS35
import Derived.Test.YtdjifjlgllohmaaDoorYDS13
import Derived.Test.YtdjifjlgllohmaaDoorYDS22
import Derived.Test.YtdjifjlgllohmaaDoorYDS19
/- Lists of lists in a law: rows that lie apart, marked and held. -/
namespace Go.Proofs.YtdjifjlgllohmaaDoor
open Go.RowKit
set_option linter.unusedVariables false
set_option linter.unusedSimpArgs false

/-- n rows X whose slices lie in block g; all of it in blocks from lo to hi, no row over another. -/
structure ZR (lo hi g n : Nat) (w : World) (A : Nat → Option Addr) (C : Nat → Nat) (X : Nat → List Int) : Prop where
  cell : ∀ i, i < n → w.cell? ⟨g, i, none⟩ = some (.slice (A i) (X i).length (C i))
  row : ∀ i, i < n → SL w (A i) (X i).length (C i) (X i)
  free : ∀ i, i < n → ∀ b o, A i = some ⟨b, o, none⟩ → ∀ j, j < (X i).length → w.frozen? ⟨b, o + j, none⟩ = false
  zone : ∀ i, i < n → ∀ b, blk (A i) = some b → lo ≤ b ∧ b < hi ∧ b ≠ g
  apart : ∀ i j, i < n → j < n → i ≠ j → ∀ b o o', A i = some ⟨b, o, none⟩ → A j = some ⟨b, o', none⟩ → o + (X i).length ≤ o' ∨ o' + (X j).length ≤ o
  gl : lo ≤ g
  gh : g < hi
def ZL (lo hi : Nat) (w : World) (a : Option Addr) (n cap : Nat) (X : Nat → List Int) : Prop :=
  n = 0 ∨ ∃ g A C, a = some ⟨g, 0, none⟩ ∧ ZR lo hi g n w A C X
theorem ZR.mono {lo hi lo' hi' g n : Nat} {w : World} {A : Nat → Option Addr} {C : Nat → Nat} {X : Nat → List Int} (h : ZR lo hi g n w A C X) (h1 : lo' ≤ lo) (h2 : hi ≤ hi') : ZR lo' hi' g n w A C X :=
  ⟨h.cell, h.row, h.free, fun i hi b hb => by obtain ⟨x, y, z⟩ := h.zone i hi b hb; exact ⟨by omega, by omega, z⟩, h.apart, by have := h.gl; omega, by have := h.gh; omega⟩
theorem ZL.mono {lo hi lo' hi' n cap : Nat} {w : World} {a : Option Addr} {X : Nat → List Int} (h : ZL lo hi w a n cap X) (h1 : lo' ≤ lo) (h2 : hi ≤ hi') : ZL lo' hi' w a n cap X := by
  rcases h with h | ⟨g, A, C, ha, h⟩
  · exact .inl h
  · exact .inr ⟨g, A, C, ha, h.mono h1 h2⟩
theorem ZR.at {lo hi g n : Nat} {w : World} {A : Nat → Option Addr} {C : Nat → Nat} {X : Nat → List Int} (h : ZR lo hi g n w A C X) (i : Nat) (hi' : i < n) (h0 : (X i).length ≠ 0) :
    ∃ b o, A i = some ⟨b, o, none⟩ ∧ ∀ j, j < (X i).length → w.cell? ⟨b, o + j, none⟩ = some (.int .i64 ((X i).getD j 0)) := by
  obtain ⟨_, _, h3⟩ := h.row i hi'
  rcases h3 with h3 | ⟨b, o, h4, h5⟩
  · exact absurd h3 h0
  · exact ⟨b, o, h4, h5⟩
theorem ZR.below {lo hi g n : Nat} {w w' : World} {A : Nat → Option Addr} {C : Nat → Nat} {X : Nat → List Int} (h : ZR lo hi g n w A C X) (hb : Below w.heap.size w w') : ZR lo hi g n w' A C X :=
  ⟨fun i hi => cell_be hb (h.cell i hi), fun i hi => (h.row i hi).below hb, fun i hi b o hA j hj => by
    obtain ⟨b', o', hA', hc⟩ := h.at i hi (by omega)
    rw [hA] at hA'
    simp only [Option.some.injEq, Addr.mk.injEq, and_true] at hA'
    obtain ⟨rfl, rfl⟩ := hA'
    exact (hb.frozen (World.block_lt_of_cell? _ _ (hc j hj))).trans (h.free i hi b o hA j hj), h.zone, h.apart, h.gl, h.gh⟩
theorem ZL.below {lo hi n cap : Nat} {w w' : World} {a : Option Addr} {X : Nat → List Int} (h : ZL lo hi w a n cap X) (hb : Below w.heap.size w w') : ZL lo hi w' a n cap X := by
  rcases h with h | ⟨g, A, C, ha, h⟩
  · exact .inl h
  · exact .inr ⟨g, A, C, ha, h.below hb⟩
theorem SL.touchZ {lo hi lo' hi' : Nat} {w w' : World} {a : Option Addr} {n c : Nat} {xs : List Int} (h : SL w a n c xs) (t : Touch lo' hi' w w') (hz : ∀ b, blk a = some b → lo ≤ b ∧ b < hi) (hd : hi ≤ lo' ∨ hi' ≤ lo) : SL w' a n c xs := by
  obtain ⟨h1, h2, h3⟩ := h
  refine ⟨h1, h2, ?_⟩
  rcases h3 with h3 | ⟨b, off, rfl, hc⟩
  · exact .inl h3
  · have := hz b rfl
    exact .inr ⟨b, off, rfl, fun j hj => t.cell (hc j hj) (by omega)⟩
theorem ZR.touch {lo hi lo' hi' g n : Nat} {w w' : World} {A : Nat → Option Addr} {C : Nat → Nat} {X : Nat → List Int} (h : ZR lo hi g n w A C X) (t : Touch lo' hi' w w') (hd : hi ≤ lo' ∨ hi' ≤ lo) : ZR lo hi g n w' A C X :=
  ⟨fun i hi => t.cell (h.cell i hi) (by have := h.gl; have := h.gh; omega), fun i hi => (h.row i hi).touchZ t (fun b hb => ⟨(h.zone i hi b hb).1, (h.zone i hi b hb).2.1⟩) hd, fun i hi b o hA j hj => by
    obtain ⟨b', o', hA', hc⟩ := h.at i hi (by omega)
    rw [hA] at hA'
    simp only [Option.some.injEq, Addr.mk.injEq, and_true] at hA'
    obtain ⟨rfl, rfl⟩ := hA'
    have hz := h.zone i hi b (by rw [hA]; rfl)
    have hcj := hc j hj
    exact (World.frozen?_of_block (w := w) (t.block b (World.block_lt_of_cell? w _ hcj) (by omega))).trans (h.free i hi b o hA j hj), h.zone, h.apart, h.gl, h.gh⟩
theorem ZL.touch {lo hi lo' hi' n cap : Nat} {w w' : World} {a : Option Addr} {X : Nat → List Int} (h : ZL lo hi w a n cap X) (t : Touch lo' hi' w w') (hd : hi ≤ lo' ∨ hi' ≤ lo) : ZL lo hi w' a n cap X := by
  rcases h with h | ⟨g, A, C, ha, h⟩
  · exact .inl h
  · exact .inr ⟨g, A, C, ha, h.touch t hd⟩
theorem ZR.congr {lo hi g n : Nat} {w : World} {A : Nat → Option Addr} {C : Nat → Nat} {X Y : Nat → List Int} (h : ZR lo hi g n w A C X) (e : ∀ i, i < n → Y i = X i) : ZR lo hi g n w A C Y :=
  ⟨fun i hi => by rw [e i hi]; exact h.cell i hi, fun i hi => by rw [e i hi]; exact h.row i hi, fun i hi => by rw [e i hi]; exact h.free i hi, h.zone, fun i j hi hj => by rw [e i hi, e j hj]; exact h.apart i j hi hj, h.gl, h.gh⟩
/-- How many numbers the first k rows hold. -/
def tot (X : Nat → List Int) : Nat → Nat
  | 0 => 0
  | k + 1 => tot X k + (X k).length
theorem tot_le {X : Nat → List Int} {n : Nat} (h : ∀ i, i < n → (X i).length ≤ 1000) : ∀ k, k ≤ n → tot X k ≤ k * 1000 := by
  intro k
  induction k with
  | zero => intro _; simp [tot]
  | succ k ih => intro hk; have := ih (by omega); have := h k (by omega); unfold tot; omega
/-- The rows when the first k are marked. -/
def mixX (k0 : Int) (X : Nat → List Int) (k : Nat) : Nat → List Int := fun i => if i < k then marks (k0 + tot X i) (X i).length else X i
theorem mixX_len (k0 : Int) (X : Nat → List Int) (k i : Nat) : (mixX k0 X k i).length = (X i).length := by
  unfold mixX
  split
  · exact marks_len _ _
  · rfl
theorem ZR.mark {lo hi g n : Nat} {w w' : World} {A : Nat → Option Addr} {C : Nat → Nat} {X : Nat → List Int} {k0 : Int} {k b o : Nat} (h : ZR lo hi g n w A C (mixX k0 X k)) (hk : k < n) (hA : A k = some ⟨b, o, none⟩)
    (m : MkP w w' b o (X k).length (X k).length (k0 + tot X k)) : ZR lo hi g n w' A C (mixX k0 X (k + 1)) := by
  have hl : ∀ i, (mixX k0 X (k + 1) i).length = (mixX k0 X k i).length := fun i => by rw [mixX_len, mixX_len]
  have hz := h.zone k hk b (by rw [hA]; rfl)
  have hne : ∀ i, i ≠ k → mixX k0 X (k + 1) i = mixX k0 X k i := fun i hi => by
    unfold mixX
    by_cases h1 : i < k
    · rw [if_pos h1, if_pos (by omega)]
    · rw [if_neg h1, if_neg (by omega)]
  have hoth : ∀ i, i < n → i ≠ k → ∀ b' o', A i = some ⟨b', o', none⟩ → ∀ j, j < (mixX k0 X k i).length → ∀ j', j' < (X k).length → (⟨b', o' + j, none⟩ : Addr) ≠ ⟨b, o + j', none⟩ := fun i hi hik b' o' hA' j hj j' hj' e => by
    simp only [Addr.mk.injEq, and_true] at e
    obtain ⟨rfl, e⟩ := e
    have := h.apart i k hi hk hik b' o' o hA' hA
    rw [mixX_len] at this hj
    rw [mixX_len] at this
    omega
  refine ⟨fun i hi => ?_, fun i hi => ?_, fun i hi b' o' hA' j hj => ?_, h.zone, fun i j hi hj => by rw [hl, hl]; exact h.apart i j hi hj, h.gl, h.gh⟩
  · rw [(m.other ⟨g, i, none⟩ (fun j _ e => by simp only [Addr.mk.injEq] at e; exact hz.2.2 e.1.symm)).1, h.cell i hi, hl]
  · by_cases e : i = k
    · subst e
      obtain ⟨_, h2, _⟩ := h.row i hk
      have e1 : mixX k0 X (i + 1) i = marks (k0 + tot X i) (X i).length := by unfold mixX; rw [if_pos (by omega)]
      refine ⟨rfl, by rw [hl]; exact h2, .inr ⟨b, o, hA, fun j hj => ?_⟩⟩
      rw [mixX_len] at hj
      rw [m.done j hj, e1, marks_at _ _ _ hj]
    · obtain ⟨_, h2, h3⟩ := h.row i hi
      rw [hne i e]
      refine ⟨rfl, h2, ?_⟩
      rcases h3 with h3 | ⟨b', o', hA', hc⟩
      · exact .inl h3
      · exact .inr ⟨b', o', hA', fun j hj => by rw [(m.other _ (fun j' hj' => hoth i hi e b' o' hA' j hj j' hj')).1]; exact hc j hj⟩
  · rw [hl] at hj
    by_cases e : i = k
    · subst e
      rw [hA] at hA'
      simp only [Option.some.injEq, Addr.mk.injEq, and_true] at hA'
      obtain ⟨rfl, rfl⟩ := hA'
      rw [mixX_len] at hj
      exact m.free j hj
    · rw [(m.other _ (fun j' hj' => hoth i hi e b' o' hA' j hj j' hj')).2]
      exact h.free i hi b' o' hA' j hj
/-- A list of lists and a code. -/
def ResL (w : World) (X : Nat → List Int) (n : Nat) (c : Int) (e : Ending) (w' : World) : Prop :=
  ∃ a cap, e = .returned (.tuple #[.slice a n cap, .int .i64 c]) ∧ ZL w.heap.size w'.heap.size w' a n cap X ∧ (n ≤ 1000 ∧ ∀ i, i < n → (X i).length ≤ 1000) ∧ Below w.heap.size w w'
theorem ResL.nil {w w' : World} {X : Nat → List Int} {n : Nat} {c c' : Int} (hn : n = 0) (hc : c = c') (hb : Below w.heap.size w w') : ResL w X n c (.returned (.tuple #[.slice none 0 0, .int .i64 c'])) w' := by
  subst hn; subst hc
  exact ⟨none, 0, rfl, .inl rfl, ⟨by omega, fun i hi => by omega⟩, hb⟩
end Go.Proofs.YtdjifjlgllohmaaDoor
/- Rows of a list of lists that have been kept, each in a block of its own. -/
namespace Go.Proofs.YtdjifjlgllohmaaDoor
open Go.RowKit
set_option linter.unusedVariables false
set_option linter.unusedSimpArgs false

theorem SL.grownQ {w w' : World} {row : Option Nat} {a : Option Addr} {n c : Nat} {xs : List Int} (h : SL w a n c xs) (hg : w.grownBy w' row) (hne : ∀ b, blk a = some b → row ≠ some b) : SL w' a n c xs := by
  obtain ⟨h1, h2, h3⟩ := h
  refine ⟨h1, h2, ?_⟩
  rcases h3 with h3 | ⟨b, off, rfl, hc⟩
  · exact .inl h3
  · exact .inr ⟨b, off, rfl, fun i hi => cell_ne hg (hc i hi) (hne b rfl)⟩
theorem OwnV.blkLtQ {B : Nat} {w : World} {a : Option Addr} {c : Nat} {ys : List Value} (h : OwnV B w a c ys) : ∀ g, blk a = some g → g < w.heap.size := fun g hg => by
  rcases h.2 with ⟨h1, _⟩ | ⟨g', c', cur, h1, _, h3, _⟩
  · simp only [Value.slice.injEq] at h1
    rw [h1.1] at hg; cases hg
  · simp only [Value.slice.injEq] at h1
    rw [h1.1] at hg; cases hg; exact lt_of_block h3
theorem own_ltQ {B : Nat} {w : World} {a : Option Addr} {c : Nat} {ys : List Int} (h : Own B w a c ys) : ∀ g, blk a = some g → g < w.heap.size := fun g hg => by
  rcases h.shape with ⟨rfl, _, _⟩ | ⟨g', cur, rfl, hB, hg', _⟩
  · cases hg
  · cases hg
    exact lt_of_block hg'
/-- Rows that have been kept in a list of lists at r. -/
def KeptQ (B : Nat) (w : World) (r : Option Addr) (vs : List Value) (X : Nat → List Int) (A : Nat → Option Addr) (C : Nat → Nat) (k : Nat) : Prop :=
  (∀ j, j < k → vs[j]? = some (.slice (A j) (X j).length (C j))) ∧ (∀ j, j < k → Own B w (A j) (C j) (X j)) ∧ (∀ j, j < k → ∀ b, blk (A j) = some b → blk r ≠ some b) ∧ (∀ i j, i < j → j < k → ∀ b, blk (A i) = some b → blk (A j) ≠ some b)
theorem Own.growQ {B : Nat} {w w' : World} {a : Option Addr} {c : Nat} {ys : List Int} {row : Option Nat} (h : Own B w a c ys) (hg : w.grownBy w' row) (hne : ∀ b, blk a = some b → row ≠ some b) : Own B w' a c ys := by
  refine ⟨h.1, ?_⟩
  rcases h.2 with h' | ⟨g, c', cur, h1, h2, h3, h4⟩
  · exact .inl h'
  · refine .inr ⟨g, c', cur, h1, h2, (hg.block g (lt_of_block h3) (fun e => ?_)).trans h3, h4⟩
    simp only [Value.slice.injEq] at h1
    exact hne g (by rw [h1.1]; rfl) e.symm
theorem KeptQ.push {B i : Nat} {w1 w3 wl w' : World} {a' ad' a3 : Option Addr} {c3 : Nat} {vs : List Value} {X : Nat → List Int} {A : Nat → Option Addr} {C : Nat → Nat} (hK : KeptQ B w1 a' vs X A C i) (hvl : vs.length = i) (hO : ∀ b, blk a' = some b → b < w1.heap.size) (hB : B ≤ w1.heap.size)
    (t3 : Below w1.heap.size w1 w3) (ho3 : Own w1.heap.size w3 a3 c3 (X i)) (hba : Below w3.heap.size w3 wl) (hzl : w3.heap.size ≤ wl.heap.size) (hgr : wl.grownBy w' (blk a')) (hloc : blk ad' = blk a' ∨ blk ad' = some wl.heap.size) :
    KeptQ B w' ad' (vs ++ [Value.slice a3 (X i).length c3]) X (fun j => if j = i then a3 else A j) (fun j => if j = i then c3 else C j) (i + 1) := by
  obtain ⟨h1, h2, h3, h4⟩ := hK
  have z3 := t3.size
  have l2 : ∀ j, j < i → ∀ b, blk (A j) = some b → b < w1.heap.size := fun j hj b hb => own_ltQ (h2 j hj) b hb
  refine ⟨fun j hj => ?_, fun j hj => ?_, fun j hj b hb => ?_, fun k j hkj hj b hk => ?_⟩
  · by_cases e : j = i
    · subst e
      simp only [if_true]
      rw [List.getElem?_append_right (by omega), hvl]
      simp
    · simp only [if_neg e]
      rw [List.getElem?_append_left (by omega)]
      exact h1 j (by omega)
  · by_cases e : j = i
    · subst e
      simp only [if_true]
      exact ((ho3.mono hB).below hba).growQ hgr (fun b hb q => by have := own_blk_ge ho3 b hb; have := hO b q; omega)
    · simp only [if_neg e]
      exact (((h2 j (by omega)).below t3).below hba).growQ hgr (fun b hb => h3 j (by omega) b hb)
  · by_cases e : j = i
    · subst e
      simp only [if_true] at hb
      have g1 := own_blk_ge ho3 b hb
      have g2 := own_ltQ ho3 b hb
      intro q
      rcases hloc with h | h
      · rw [h] at q
        have := hO b q
        omega
      · rw [h] at q
        simp at q
        omega
    · simp only [if_neg e] at hb
      intro q
      rcases hloc with h | h
      · rw [h] at q
        exact h3 j (by omega) b hb q
      · rw [h] at q
        simp at q
        have := l2 j (by omega) b hb
        omega
  · simp only at hk ⊢
    rw [if_neg (by omega)] at hk
    by_cases e : j = i
    · subst e
      simp only [if_true]
      intro q
      have := own_blk_ge ho3 b q
      have := l2 k hkj b hk
      omega
    · rw [if_neg e]
      exact h4 k j hkj (by omega) b hk
theorem KeptQ.zl {B n : Nat} {w : World} {a : Option Addr} {c : Nat} {vs : List Value} {X : Nat → List Int} {A : Nat → Option Addr} {C : Nat → Nat} (h : KeptQ B w a vs X A C n) (hv : vs.length = n) (ho : OwnV B w a c vs) : ZL B w.heap.size w a n c X := by
  by_cases h0 : n = 0
  · exact .inl h0
  obtain ⟨h1, h2, h3, h4⟩ := h
  obtain ⟨g, rfl, hc⟩ := ho.at (by omega)
  have hg1 := OwnV.blkG ho g rfl
  have hg2 := OwnV.blkLtQ ho g rfl
  refine .inr ⟨g, A, C, rfl, ⟨fun i hi => by rw [hc i (by omega)]; exact h1 i hi, fun i hi => (h2 i hi).sl, fun i hi b o hA j hj => ?_, fun i hi b hb => ?_, fun i j hi hj hij b o o' hA hA' => ?_, hg1, hg2⟩⟩
  · obtain ⟨g', e, _, _, _⟩ := (h2 i hi).blkG (by omega)
    have o2 := h2 i hi
    rw [hA] at e
    simp only [Option.some.injEq, Addr.mk.injEq, and_true] at e
    obtain ⟨rfl, rfl⟩ := e
    rw [hA] at o2
    rw [Nat.zero_add]
    exact o2.freeG j
  · have a := own_blk_ge (h2 i hi) _ hb
    have c' := own_ltQ (h2 i hi) _ hb
    exact ⟨a, c', fun e => h3 i hi b hb (by rw [e]; rfl)⟩
  · exfalso
    have e1 : blk (A i) = some b := by rw [hA]; rfl
    have e2 : blk (A j) = some b := by rw [hA']; rfl
    rcases Nat.lt_or_ge i j with q | q
    · exact h4 i j q hj b e1 e2
    · exact h4 j i (by omega) hi b e2 e1
set_option maxRecDepth 100000 in
/-- An append of one number onto an owned row of numbers: only that row and new blocks turn. -/
theorem op_appVQ {w : World} {o : Oper} {a : Act} {K : Act → World → Prop} {Q : Exit → Act → World → Prop}
    (s x : Operand) (ho : o.op = .call { callee := .builtin .append, args := #[s, x], argTypes := #[55, 55] })
    (B : Nat) (ad : Option Addr) (n cap : Nat) (ys : List Value) (hs : a.eval s = .slice ad n cap) (hn : n = ys.length) (hown : OwnV B w ad cap ys)
    (ax : Addr) (c : Nat) (z : Value) (hx : a.eval x = .slice (some ax) 1 c) (hz : w.cell? ax = some z) (hz1' : z.oneCell' = true) (hmax : n + 1 ≤ 4000000) (hB : B ≤ w.heap.size)
    (hK : ∀ ad' cap' w', OwnV B w' ad' cap' (ys ++ [z]) → w.grownBy w' (blk ad) → (blk ad' = blk ad ∨ blk ad' = some w.heap.size) → K (a.put o.dst (.slice ad' (ys ++ [z]).length cap')) w') :
    o.wp Tryd.prog a w K Q := by
  subst hn
  obtain ⟨i0, hi, hz0, hz1, hz2⟩ := info_parts infoS
  have hnews : ∀ j u, [z][j]? = some u → w.cell? (ax.add j) = some u := by
    intro j u hj
    cases j with
    | zero =>
      simp at hj
      subst hj
      have : ax.add 0 = ax := by cases ax; simp [Addr.add]
      rw [this]; exact hz
    | succ j => simp at hj
  have h1 : ∀ u ∈ [z], u.oneCell' = true := by
    intro u hu
    simp at hu
    subst hu
    exact hz1'
  obtain ⟨v', w1, hr, hown', hgrow, _, hloc⟩ := run_append_own_at (P := Tryd.prog) w B 55 o.type 22 i0 (.slice none 0 0) 1 24 Tryd.underlying55 hi hz0 hz1 hz2 rfl (by decide) _ _ _ hown ax 1 c [z] rfl hnews h1 (by unfold maxLen; omega) (by omega) hB
  have hb1 : ∀ (ad : Option Addr) (n c : Nat), (Value.slice ad n c).ownBlock = blk ad := fun ad n c => by cases ad <;> rfl
  rw [hb1] at hgrow hloc
  have hv : ∃ ad' cap', v' = .slice ad' (ys ++ [z]).length cap' := by
    rcases hown'.2 with ⟨h1, h2⟩ | ⟨g, c', cur, h1, h2⟩
    · exact ⟨none, 0, by rw [h1]; congr 1; simp; omega⟩
    · exact ⟨_, c', by rw [h1]; congr 1; simp⟩
  obtain ⟨ad', cap', rfl⟩ := hv
  rw [hb1] at hloc
  unfold Oper.wp execOp
  simp only [ho, resolve, invoke, builtin, Sem.run_bind, Sem.run_pure, Result.andThen_ok, List.map_toArray, List.map_cons, List.map_nil, hs, hx, hr]
  refine hK ad' cap' w1 ?_ hgrow hloc
  unfold OwnV
  have e : (ys ++ [z]).length = ys.length + 1 := by simp
  rw [e] at hown' ⊢
  exact hown'
theorem wp_appVQ {w : World} {ops : Array Oper} {rest : List Oper} {o : Oper} {a : Act} {Q : Exit → Act → World → Prop}
    (hgd : o.guard = none) (s x : Operand) (ho : o.op = .call { callee := .builtin .append, args := #[s, x], argTypes := #[55, 55] })
    (B : Nat) (ad : Option Addr) (n cap : Nat) (ys : List Value) (hs : a.eval s = .slice ad n cap) (hn : n = ys.length) (hown : OwnV B w ad cap ys)
    (ax : Addr) (c : Nat) (z : Value) (hx : a.eval x = .slice (some ax) 1 c) (hz : w.cell? ax = some z) (hz1' : z.oneCell' = true) (hmax : n + 1 ≤ 4000000) (hB : B ≤ w.heap.size)
    (hK : ∀ ad' cap' w', OwnV B w' ad' cap' (ys ++ [z]) → w.grownBy w' (blk ad) → (blk ad' = blk ad ∨ blk ad' = some w.heap.size) → wpList Tryd.prog ops Q rest (a.put o.dst (.slice ad' (ys ++ [z]).length cap')) w') :
    wpList Tryd.prog ops Q (o :: rest) a w :=
  wpList_plain hgd fun K hK' => op_appVQ s x ho B ad n cap ys hs hn hown ax c z hx hz hz1' hmax hB fun ad' cap' w' h1 h2 h3 => hK' _ _ (hK ad' cap' w' h1 h2 h3)
theorem step_appVQ {w : World} {ops : Array Oper} {o : Oper} {a : Act} {K : Act → World → Prop} {Q : Exit → Act → World → Prop} {E : Prop}
    (hgd : o.guard = none) (s x : Operand) (ho : o.op = .call { callee := .builtin .append, args := #[s, x], argTypes := #[55, 55] })
    (B : Nat) (ad : Option Addr) (n cap : Nat) (ys : List Value) (hs : a.eval s = .slice ad n cap) (hn : n = ys.length) (hown : OwnV B w ad cap ys)
    (ax : Addr) (c : Nat) (z : Value) (hx : a.eval x = .slice (some ax) 1 c) (hz : w.cell? ax = some z) (hz1' : z.oneCell' = true) (hmax : n + 1 ≤ 4000000) (hB : B ≤ w.heap.size)
    (hK : ∀ ad' cap' w', OwnV B w' ad' cap' (ys ++ [z]) → w.grownBy w' (blk ad) → (blk ad' = blk ad ∨ blk ad' = some w.heap.size) → K (a.put o.dst (.slice ad' (ys ++ [z]).length cap')) w') :
    if Region.wanted o (yielded ops a.tmps) = true then Oper.wp Tryd.prog o a w K Q else E := by
  have hw : Region.wanted o (yielded ops a.tmps) = true := by simp [Region.wanted, hgd]
  rw [if_pos hw]
  exact op_appVQ s x ho B ad n cap ys hs hn hown ax c z hx hz hz1' hmax hB hK
set_option maxRecDepth 100000 in
theorem app_keepsV {w w' : World} {v' : Value} {B g0 cap : Nat} {ys : List Value} {ty : TypeId} (hown : OwnV B w (some ⟨g0, 0, none⟩) cap ys) (ax : Addr) (c : Nat) (z : Value) (hz : w.cell? ax = some z) (hz1' : z.oneCell' = true) (hmax : ys.length + 1 ≤ 4000000)
    (hr : (Builtin.append_ #[55, 55] ty #[.slice (some ⟨g0, 0, none⟩) ys.length cap, .slice (some ax) 1 c]).run Tryd.prog w = .ok v' w') :
    ∀ j, j < ys.length → w'.cell? ⟨g0, j, none⟩ = ys[j]? := by
  intro j hj
  have hc : ∀ i, i < ys.length → w.cell? ⟨g0, i, none⟩ = ys[i]? := fun i hi => OwnV.cellG hown i hi
  obtain ⟨i0, hi, hz0, hz1, hz2⟩ := info_parts infoS
  have hnews : ∀ j u, [z][j]? = some u → w.cell? (ax.add j) = some u := by
    intro j u hj
    cases j with
    | zero =>
      simp at hj
      subst hj
      have : ax.add 0 = ax := by cases ax; simp [Addr.add]
      rw [this]; exact hz
    | succ j => simp at hj
  have h1 : ∀ u ∈ [z], u.oneCell' = true := by
    intro u hu
    simp at hu
    subst hu
    exact hz1'
  by_cases hroom : ys.length + 1 ≤ cap
  · obtain ⟨w1, hr1, ho1, _⟩ := run_append_fits (P := Tryd.prog) w B 55 ty 22 i0 1 Tryd.underlying55 hi hz1 g0 ys.length cap ys hown ax 1 c [z] rfl hnews h1 hroom
    rw [hr] at hr1
    injection hr1 with e1 e2
    subst e2
    have ho2 : OwnV B w' (some ⟨g0, 0, none⟩) cap (ys ++ [z]) := by
      unfold OwnV
      have e : (ys ++ [z]).length = ys.length + 1 := by simp
      rw [e]
      exact ho1
    have := OwnV.cellG ho2 j (by simp; omega)
    rw [this, List.getElem?_append_left hj]
  · have hgr := run_append_grow (P := Tryd.prog) w 55 ty 22 i0 (.slice none 0 0) Tryd.underlying55 hi hz0 ⟨g0, 0, none⟩ ys.length cap ys (by rw [hz1]; simp) (by
        intro i u hu
        have hiz : i < ys.length := (List.getElem?_eq_some_iff.1 hu).1
        rw [Addr.add_lit, Nat.zero_add, hc i hiz, hu]) ax 1 c [z] (by rw [hz1]; rfl) hnews (by omega) (by omega) (by
        rw [hz2]
        exact growslice_fits (by omega) (by omega))
    rw [hr] at hgr
    injection hgr with e1 e2
    subst e2
    have hcj := hc j hj
    obtain ⟨u, hu⟩ : ∃ u, ys[j]? = some u := ⟨ys[j], List.getElem?_eq_getElem hj⟩
    rw [hu] at hcj ⊢
    exact cell_al hcj _
set_option maxRecDepth 100000 in
theorem op_appVK {w : World} {o : Oper} {a : Act} {K : Act → World → Prop} {Q : Exit → Act → World → Prop}
    (s x : Operand) (ho : o.op = .call { callee := .builtin .append, args := #[s, x], argTypes := #[55, 55] })
    (B g0 n cap : Nat) (ys : List Value) (hs : a.eval s = .slice (some ⟨g0, 0, none⟩) n cap) (hn : n = ys.length) (hown : OwnV B w (some ⟨g0, 0, none⟩) cap ys)
    (ax : Addr) (c : Nat) (z : Value) (hx : a.eval x = .slice (some ax) 1 c) (hz : w.cell? ax = some z) (hz1' : z.oneCell' = true) (hmax : n + 1 ≤ 4000000) (hB : B ≤ w.heap.size)
    (hK : ∀ ad' cap' w', OwnV B w' ad' cap' (ys ++ [z]) → w.grownBy w' (some g0) → (blk ad' = some g0 ∨ blk ad' = some w.heap.size) → (∀ j, j < ys.length → w'.cell? ⟨g0, j, none⟩ = ys[j]?) → K (a.put o.dst (.slice ad' (ys ++ [z]).length cap')) w') :
    o.wp Tryd.prog a w K Q := by
  subst hn
  obtain ⟨i0, hi, hz0, hz1, hz2⟩ := info_parts infoS
  have hnews : ∀ j u, [z][j]? = some u → w.cell? (ax.add j) = some u := by
    intro j u hj
    cases j with
    | zero =>
      simp at hj
      subst hj
      have : ax.add 0 = ax := by cases ax; simp [Addr.add]
      rw [this]; exact hz
    | succ j => simp at hj
  have h1 : ∀ u ∈ [z], u.oneCell' = true := by
    intro u hu
    simp at hu
    subst hu
    exact hz1'
  obtain ⟨v', w1, hr, hown', hgrow, _, hloc⟩ := run_append_own_at (P := Tryd.prog) w B 55 o.type 22 i0 (.slice none 0 0) 1 24 Tryd.underlying55 hi hz0 hz1 hz2 rfl (by decide) _ _ _ hown ax 1 c [z] rfl hnews h1 (by unfold maxLen; omega) (by omega) hB
  have keep := app_keepsV hown ax c z hz hz1' hmax hr
  have hb1 : ∀ (ad : Option Addr) (n c : Nat), (Value.slice ad n c).ownBlock = blk ad := fun ad n c => by cases ad <;> rfl
  rw [hb1] at hgrow hloc
  have hv : ∃ ad' cap', v' = .slice ad' (ys ++ [z]).length cap' := by
    rcases hown'.2 with ⟨h1, h2⟩ | ⟨g, c', cur, h1, h2⟩
    · exact ⟨none, 0, by rw [h1]; congr 1; simp; omega⟩
    · exact ⟨_, c', by rw [h1]; congr 1; simp⟩
  obtain ⟨ad', cap', rfl⟩ := hv
  rw [hb1] at hloc
  unfold Oper.wp execOp
  simp only [ho, resolve, invoke, builtin, Sem.run_bind, Sem.run_pure, Result.andThen_ok, List.map_toArray, List.map_cons, List.map_nil, hs, hx, hr]
  refine hK ad' cap' w1 ?_ hgrow hloc keep
  unfold OwnV
  have e : (ys ++ [z]).length = ys.length + 1 := by simp
  rw [e] at hown' ⊢
  exact hown'
theorem step_appVK {w : World} {ops : Array Oper} {o : Oper} {a : Act} {K : Act → World → Prop} {Q : Exit → Act → World → Prop} {E : Prop}
    (hgd : o.guard = none) (s x : Operand) (ho : o.op = .call { callee := .builtin .append, args := #[s, x], argTypes := #[55, 55] })
    (B g0 n cap : Nat) (ys : List Value) (hs : a.eval s = .slice (some ⟨g0, 0, none⟩) n cap) (hn : n = ys.length) (hown : OwnV B w (some ⟨g0, 0, none⟩) cap ys)
    (ax : Addr) (c : Nat) (z : Value) (hx : a.eval x = .slice (some ax) 1 c) (hz : w.cell? ax = some z) (hz1' : z.oneCell' = true) (hmax : n + 1 ≤ 4000000) (hB : B ≤ w.heap.size)
    (hK : ∀ ad' cap' w', OwnV B w' ad' cap' (ys ++ [z]) → w.grownBy w' (some g0) → (blk ad' = some g0 ∨ blk ad' = some w.heap.size) → (∀ j, j < ys.length → w'.cell? ⟨g0, j, none⟩ = ys[j]?) → K (a.put o.dst (.slice ad' (ys ++ [z]).length cap')) w') :
    if Region.wanted o (yielded ops a.tmps) = true then Oper.wp Tryd.prog o a w K Q else E := by
  have hw : Region.wanted o (yielded ops a.tmps) = true := by simp [Region.wanted, hgd]
  rw [if_pos hw]
  exact op_appVK s x ho B g0 n cap ys hs hn hown ax c z hx hz hz1' hmax hB hK
end Go.Proofs.YtdjifjlgllohmaaDoor
