/- Rows of slices that are written: a matrix as a slice of rows; slices.Clone at [][]int64. -/
import Derived.Test.YtcadiepghhnbeaaWi
import Derived.Test.YtcadiepghhnbeaaRd
import Derived.Test.YtcadiepghhnbeaaDs
namespace Go.Proofs.Ytcadiepghhnbeaa
open Go.RowKit
set_option linter.unusedVariables false
set_option linter.unusedSimpArgs false

theorem SL.otherG {w : World} {a : Option Addr} {n c g j : Nat} {xs : List Int} (h : SL w a n c xs) (hne : blk a ≠ some g) (u : Value) : SL (w.setCell ⟨g, j, none⟩ u) a n c xs := by
  obtain ⟨h1, h2, h3⟩ := h
  refine ⟨h1, h2, ?_⟩
  rcases h3 with h3 | ⟨b, off, rfl, hc⟩
  · exact .inl h3
  · refine .inr ⟨b, off, rfl, fun i hi => cell_set2 (hc i hi) (fun e => hne ?_) u⟩
    simp [blk] at e ⊢
    exact e.symm
theorem OwnV.cellG {B g c : Nat} {w : World} {vs : List Value} (h : OwnV B w (some ⟨g, 0, none⟩) c vs) (j : Nat) (hj : j < vs.length) : w.cell? ⟨g, j, none⟩ = vs[j]? := World.ownsRow.cellAt h j (by omega)
theorem OwnV.freeG {B g c : Nat} {w : World} {vs : List Value} (h : OwnV B w (some ⟨g, 0, none⟩) c vs) (j : Nat) : w.frozen? ⟨g, j, none⟩ = false := World.ownsRow.frozenAt h j
theorem OwnV.setG {B g c : Nat} {w : World} {vs : List Value} (h : OwnV B w (some ⟨g, 0, none⟩) c vs) (j : Nat) (u : Value) : OwnV B (w.setCell ⟨g, j, none⟩ u) (some ⟨g, 0, none⟩) c (vs.set j u) := by
  have := (World.ownsRow.stored h j u).1
  unfold OwnV
  rw [List.length_set]
  exact this
theorem OwnV.lt {B g c : Nat} {w : World} {vs : List Value} (h : OwnV B w (some ⟨g, 0, none⟩) c vs) (h0 : vs.length ≠ 0) : B ≤ g ∧ g < w.heap.size := by
  rcases h.2 with ⟨_, h2⟩ | ⟨g', c', cur, h1, h2, h3, _⟩
  · exact absurd h2 h0
  · simp only [Value.slice.injEq, Option.some.injEq, Addr.mk.injEq, and_true] at h1
    obtain ⟨rfl, _, _⟩ := h1
    exact ⟨h2, lt_of_block h3⟩
theorem OwnV.mono {B B' : Nat} {w : World} {a : Option Addr} {c : Nat} {vs : List Value} (h : OwnV B w a c vs) (hB : B' ≤ B) : OwnV B' w a c vs := by
  refine ⟨h.1, ?_⟩
  rcases h.2 with h' | ⟨g, c, cur, h1, h2, h3⟩
  · exact .inl h'
  · exact .inr ⟨g, c, cur, h1, Nat.le_trans hB h2, h3⟩
/-- A matrix: m rows of n numbers each, the slices of which lie in block g, and the rows in other blocks. -/
structure RowsX (B g n cap : Nat) (w : World) (vs : List Value) (X : Nat → List Int) (m : Nat) : Prop where
  own : OwnV B w (some ⟨g, 0, none⟩) cap vs
  len : vs.length = m
  le : m ≤ cap
  row : ∀ i, i < m → ∃ a c, vs[i]? = some (.slice a n c) ∧ SL w a n c (X i) ∧ blk a ≠ some g
theorem RowsX.below {B g n cap m : Nat} {w w' : World} {vs : List Value} {X : Nat → List Int} (h : RowsX B g n cap w vs X m) (hb : Below w.heap.size w w') : RowsX B g n cap w' vs X m :=
  ⟨h.own.below hb, h.len, h.le, fun i hi => by obtain ⟨a, c, h1, h2, h3⟩ := h.row i hi; exact ⟨a, c, h1, h2.below hb, h3⟩⟩
theorem RowsX.put {B g n cap m : Nat} {w : World} {vs : List Value} {X Y : Nat → List Int} (h : RowsX B g n cap w vs X m) (i : Nat) {a : Option Addr} {c : Nat} (hi : i < m) (hs : SL w a n c (Y i)) (hg : blk a ≠ some g) (hY : ∀ k, k < m → k ≠ i → Y k = X k) :
    RowsX B g n cap (w.setCell ⟨g, i, none⟩ (.slice a n c)) (vs.set i (.slice a n c)) Y m := by
  refine ⟨h.own.setG i _, by rw [List.length_set, h.len], h.le, fun k hk => ?_⟩
  by_cases e : k = i
  · subst e
    exact ⟨a, c, by simp [h.len, hk], hs.otherG hg _, hg⟩
  · obtain ⟨a', c', h1, h2, h3⟩ := h.row k hk
    refine ⟨a', c', ?_, ?_, h3⟩
    · rw [List.getElem?_set_ne (fun x => e x.symm)]; exact h1
    · rw [hY k hk e]; exact h2.otherG h3 _
theorem RowsX.congr {B g n cap m : Nat} {w : World} {vs : List Value} {X Y : Nat → List Int} (h : RowsX B g n cap w vs X m) (hY : ∀ k, k < m → Y k = X k) : RowsX B g n cap w vs Y m :=
  ⟨h.own, h.len, h.le, fun i hi => by rw [hY i hi]; exact h.row i hi⟩
theorem RowsX.get {B g n cap m : Nat} {w : World} {vs : List Value} {X : Nat → List Int} (h : RowsX B g n cap w vs X m) (i : Nat) (hi : i < m) : ∃ a c, w.cell? ⟨g, i, none⟩ = some (.slice a n c) ∧ SL w a n c (X i) ∧ blk a ≠ some g ∧ w.frozen? ⟨g, i, none⟩ = false := by
  obtain ⟨a, c, h1, h2, h3⟩ := h.row i hi
  exact ⟨a, c, by rw [h.own.cellG i (by rw [h.len]; exact hi), h1], h2, h3, h.own.freeG i⟩
set_option maxRecDepth 100000 in
theorem wp_appendV {w : World} {ops : Array Oper} {rest : List Oper} {o : Oper} {a : Act} {Q : Exit → Act → World → Prop}
    (hgd : o.guard = none) (s x : Operand) (ho : o.op = .call { callee := .builtin .append, args := #[s, x], argTypes := #[49, 49] })
    (B : Nat) (ad : Option Addr) (n cap : Nat) (ys : List Value) (hs : a.eval s = .slice ad n cap) (hn : n = ys.length) (hown : OwnV B w ad cap ys)
    (p : Addr) (m c : Nat) (zs : List Value) (hx : a.eval x = .slice (some p) m c) (hl : zs.length = m) (hz : ∀ j u, zs[j]? = some u → w.cell? (p.add j) = some u) (h1 : ∀ u ∈ zs, u.oneCell' = true) (hmax : n + m ≤ 4000000) (hB : B ≤ w.heap.size)
    (hK : ∀ ad' cap' w', OwnV B w' ad' cap' (ys ++ zs) → Below B w w' → wpList Try.prog ops Q rest (a.put o.dst (.slice ad' (ys ++ zs).length cap')) w') :
    wpList Try.prog ops Q (o :: rest) a w := by
  subst hn
  obtain ⟨i0, hi, hz0, hz1, hz2⟩ := info_parts infoS
  refine wpList_append_own w hgd s x 49 ho B 22 i0 (.slice none 0 0) 1 24 Try.underlying49 hi hz0 hz1 hz2 rfl (by decide) _ _ _ hs hown p m c zs hx (by simpa using hl) hz h1 (by unfold maxLen; omega) (by omega) hB ?_
  intro v' w1 hown' hgrow _
  have hb : Below B w w1 := (Below.refl _ _).grown hgrow hB (fun k hk => by
    have := (World.ownsRow.lt hown k hk).1
    exact this)
  have hv : ∃ ad' cap', v' = .slice ad' (ys ++ zs).length cap' := by
    rcases hown'.2 with ⟨h1, h2⟩ | ⟨g, c', cur, h1, h2⟩
    · exact ⟨none, 0, by rw [h1]; congr 1; simp; omega⟩
    · exact ⟨_, c', by rw [h1]; congr 1; simp; omega⟩
  obtain ⟨ad', cap', rfl⟩ := hv
  refine hK ad' cap' w1 ?_ hb
  unfold OwnV
  have e : (ys ++ zs).length = ys.length + m := by simp; omega
  rw [e] at hown' ⊢
  exact hown'
end Go.Proofs.Ytcadiepghhnbeaa
