/- Merged texts. -/
import Derived.Test.YthahcnmfaghohaaYTC21
import Derived.Test.YthahcnmfaghohaaYTC18
import Derived.Test.YthahcnmfaghohaaYTC15
/- Contracts: the closures that go on (recurrence, polysOf, associatesOf, goOn). -/
namespace Go.Proofs.Ythahcnmfaghohaa
open Go.RowKit
set_option linter.unusedVariables false
set_option linter.unusedSimpArgs false

theorem OZ.nilZ (lo hi : Nat) (w : World) (a : Option Addr) (cap : Nat) (h : a = none → cap = 0) : OZ lo hi w a 0 cap [] := ⟨⟨rfl, ⟨Nat.zero_le _, h⟩, .inl rfl⟩, .inl rfl⟩
/-- A list of the call's own (blocks from lo on) that lies neither in the four blocks from B on nor in those from z up to ze. -/
def Kept (lo B z ze : Nat) (w : World) (a : Option Addr) (c : Nat) (f : List Int) : Prop :=
  ∃ l h, lo ≤ l ∧ h ≤ w.heap.size ∧ (h ≤ B ∨ B + 4 ≤ l) ∧ (h ≤ z ∨ ze ≤ l) ∧ OZ l h w a f.length c f
theorem Kept.below {lo B z ze : Nat} {w w' : World} {a : Option Addr} {c : Nat} {f : List Int} (h : Kept lo B z ze w a c f) (hb : Below w.heap.size w w') : Kept lo B z ze w' a c f := by
  obtain ⟨l, hh, h1, h2, h3, h4, h5⟩ := h
  exact ⟨l, hh, h1, Nat.le_trans h2 hb.size, h3, h4, h5.below hb⟩
theorem Kept.touch {lo B z ze : Nat} {w w' : World} {a : Option Addr} {c : Nat} {f : List Int} (h : Kept lo B z ze w a c f) (t : Touch B (B + 4) w w') : Kept lo B z ze w' a c f := by
  obtain ⟨l, hh, h1, h2, h3, h4, h5⟩ := h
  exact ⟨l, hh, h1, Nat.le_trans h2 t.size, h3, h4, h5.touch t h3⟩
theorem Kept.touchZ {lo B z ze : Nat} {w w' : World} {a : Option Addr} {c : Nat} {f : List Int} (h : Kept lo B z ze w a c f) (t : Touch z (ze) w w') : Kept lo B z ze w' a c f := by
  obtain ⟨l, hh, h1, h2, h3, h4, h5⟩ := h
  exact ⟨l, hh, h1, Nat.le_trans h2 t.size, h3, h4, h5.touch t h4⟩
theorem Kept.sl {lo B z ze : Nat} {w : World} {a : Option Addr} {c : Nat} {f : List Int} (h : Kept lo B z ze w a c f) : SL w a f.length c f := by
  obtain ⟨l, hh, h1, h2, h3, h4, h5⟩ := h
  exact h5.sl
theorem Kept.new {lo B z ze : Nat} {w w' : World} {a : Option Addr} {c : Nat} {f : List Int} (h : Own w.heap.size w' a c f) (h1 : lo ≤ w.heap.size) (h2 : B + 4 ≤ w.heap.size) (h3 : ze ≤ w.heap.size) : Kept lo B z ze w' a c f :=
  ⟨w.heap.size, w'.heap.size, h1, Nat.le_refl _, .inr h2, .inr h3, OZ.of h rfl⟩
/-- The closure of a recurrence, whose four blocks begin at B. -/
theorem Touch.set {lo hi : Nat} {a w : World} (h : Touch lo hi a w) {x : Addr} (h1 : lo ≤ x.block) (h2 : x.block < hi) (u : Value) : Touch lo hi a (w.setCell x u) :=
  h.trans ⟨rfl, rfl, rfl, by simp [World.setCell], fun k hk hd => Below.heap_setCell _ _ _ _ (by omega)⟩
theorem Touch.ofBelow {lo hi : Nat} {w w' : World} (h : Below w.heap.size w w') : Touch lo hi w w' := ⟨h.os, h.tape, h.output, h.size, fun k hk _ => h.block k hk⟩
theorem Touch.refl (lo hi : Nat) (w : World) : Touch lo hi w w := ⟨rfl, rfl, rfl, Nat.le_refl _, fun _ _ _ => rfl⟩
theorem Touch.frozen {lo hi b o : Nat} {w w' : World} {v : Value} {x : Bool} (t : Touch lo hi w w') (h : w.cell? ⟨b, o, none⟩ = some v) (hf : w.frozen? ⟨b, o, none⟩ = x) (hd : b < lo ∨ hi ≤ b) : w'.frozen? ⟨b, o, none⟩ = x :=
  (World.frozen?_of_block (w := w) (t.block b (World.block_lt_of_cell? w _ h) hd)).trans hf
/-- What a closure of a recurrence keeps of memory: data at B, the current and the next polynomial f, g, the number k. -/
structure RInv (z ze B : Nat) (w0 w : World) (p : Int) (a : Option Addr) (n c : Nat) (b : Option Addr) (d : Nat) (k : Nat) (f g : List Int) : Prop where
  hb : Below w0.heap.size w0 w
  lb : w0.heap.size ≤ B
  sz : B + 4 ≤ w.heap.size
  zs : ze ≤ w.heap.size
  j0 : w.cell? ⟨B, 0, none⟩ = some (.int .i64 p)
  j1 : w.cell? ⟨B, 1, none⟩ = some (.slice a n c)
  j2 : w.cell? ⟨B, 2, none⟩ = some (.slice b n d)
  cc : ∃ ac cc, w.cell? ⟨B + 1, 0, none⟩ = some (.slice ac f.length cc) ∧ Kept w0.heap.size B z ze w ac cc f
  cn : ∃ an cn, w.cell? ⟨B + 1 + 1, 0, none⟩ = some (.slice an g.length cn) ∧ Kept w0.heap.size B z ze w an cn g
  kk : w.cell? ⟨B + 1 + 1 + 1, 0, none⟩ = some (.int .i64 k)
  fc : w.frozen? ⟨B + 1, 0, none⟩ = false
  fn : w.frozen? ⟨B + 1 + 1, 0, none⟩ = false
  fk : w.frozen? ⟨B + 1 + 1 + 1, 0, none⟩ = false
/-- Another closure of the same kind has gone on. -/
theorem RInv.touch {z ze B : Nat} {w0 w w' : World} {p : Int} {a : Option Addr} {n c : Nat} {b : Option Addr} {d k : Nat} {f g : List Int} (h : RInv z ze B w0 w p a n c b d k f g) (t : Touch z (ze) w w') (hd : B + 4 ≤ z ∨ ze ≤ B) (hz : w0.heap.size ≤ z) : RInv z ze B w0 w' p a n c b d k f g := by
  obtain ⟨hb, lb, sz, zs, j0, j1, j2, ⟨ac, cc, c0, ck⟩, ⟨an, cn, n0, nk⟩, kk, fc, fn, fk⟩ := h
  have m : ∀ {x : Nat}, x < B + 4 → B ≤ x → x < z ∨ ze ≤ x := fun h1 h2 => by omega
  exact ⟨below_touch hb t hz (by omega), lb, Nat.le_trans sz t.size, Nat.le_trans zs t.size, t.cell j0 (m (by omega) (by omega)), t.cell j1 (m (by omega) (by omega)), t.cell j2 (m (by omega) (by omega)),
    ⟨ac, cc, t.cell c0 (m (by omega) (by omega)), ck.touchZ t⟩, ⟨an, cn, t.cell n0 (m (by omega) (by omega)), nk.touchZ t⟩, t.cell kk (m (by omega) (by omega)),
    t.frozen c0 fc (m (by omega) (by omega)), t.frozen n0 fn (m (by omega) (by omega)), t.frozen kk fk (m (by omega) (by omega))⟩
theorem RInv.below {z ze B : Nat} {w0 w w' : World} {p : Int} {a : Option Addr} {n c : Nat} {b : Option Addr} {d k : Nat} {f g : List Int} (h : RInv z ze B w0 w p a n c b d k f g) (t : Below w.heap.size w w') : RInv z ze B w0 w' p a n c b d k f g := by
  obtain ⟨hb, lb, sz, zs, j0, j1, j2, ⟨ac, cc, c0, ck⟩, ⟨an, cn, n0, nk⟩, kk, fc, fn, fk⟩ := h
  exact ⟨hb.trans (t.mono (by omega)), lb, Nat.le_trans sz t.size, Nat.le_trans zs t.size, cell_be t j0, cell_be t j1, cell_be t j2, ⟨ac, cc, cell_be t c0, ck.below t⟩, ⟨an, cn, cell_be t n0, nk.below t⟩, cell_be t kk,
    (t.frozen (World.block_lt_of_cell? _ _ c0)).trans fc, (t.frozen (World.block_lt_of_cell? _ _ n0)).trans fn, (t.frozen (World.block_lt_of_cell? _ _ kk)).trans fk⟩
/-- The zone of another closure that is made later. -/
theorem Kept.zone {lo B z ze z' ze' : Nat} {w : World} {a : Option Addr} {c : Nat} {f : List Int} (h : Kept lo B z ze w a c f) (hz : w.heap.size ≤ z') : Kept lo B z' ze' w a c f := by
  obtain ⟨l, hh, h1, h2, h3, h4, h5⟩ := h
  exact ⟨l, hh, h1, h2, h3, .inl (by omega), h5⟩
theorem RInv.zone {z ze z' ze' B : Nat} {w0 w w' : World} {p : Int} {a : Option Addr} {n c : Nat} {b : Option Addr} {d k : Nat} {f g : List Int} (h : RInv z ze B w0 w p a n c b d k f g) (hz : w.heap.size ≤ z') (t : Below w.heap.size w w') (hs : ze' ≤ w'.heap.size) : RInv z' ze' B w0 w' p a n c b d k f g := by
  obtain ⟨hb, lb, sz, zs, j0, j1, j2, ⟨ac, cc, c0, ck⟩, ⟨an, cn, n0, nk⟩, kk, fc, fn, fk⟩ := h
  exact ⟨hb.trans (t.mono (by omega)), lb, Nat.le_trans sz t.size, hs, cell_be t j0, cell_be t j1, cell_be t j2, ⟨ac, cc, cell_be t c0, (ck.zone hz).below t⟩, ⟨an, cn, cell_be t n0, (nk.zone hz).below t⟩, cell_be t kk,
    (t.frozen (World.block_lt_of_cell? _ _ c0)).trans fc, (t.frozen (World.block_lt_of_cell? _ _ n0)).trans fn, (t.frozen (World.block_lt_of_cell? _ _ kk)).trans fk⟩
end Go.Proofs.Ythahcnmfaghohaa
/- Rows of slices that are written: a matrix as a slice of rows; slices.Clone at [][]int64. -/
namespace Go.Proofs.Ythahcnmfaghohaa
open Go.RowKit
set_option linter.unusedVariables false
set_option linter.unusedSimpArgs false

theorem SL.otherG {w : World} {a : Option Addr} {n c g j : Nat} {xs : List Int} (h : SL w a n c xs) (hne : blk a ≠ some g) (u : Value) : SL (w.setCell ⟨g, j, none⟩ u) a n c xs := by
  obtain ⟨h1, h2, h3⟩ := h
  refine ⟨h1, h2, ?_⟩
  rcases h3 with h3 | ⟨b, off, rfl, hc⟩
  · exact .inl h3
  · refine .inr ⟨b, off, rfl, fun i hi => cell_set2 (hc i hi) (fun e => hne ?_) u⟩
    simp [blk] at e ⊢
    exact e.symm
theorem OwnV.cellG {B g c : Nat} {w : World} {vs : List Value} (h : OwnV B w (some ⟨g, 0, none⟩) c vs) (j : Nat) (hj : j < vs.length) : w.cell? ⟨g, j, none⟩ = vs[j]? := World.ownsRow.cellAt h j (by omega)
theorem OwnV.freeG {B g c : Nat} {w : World} {vs : List Value} (h : OwnV B w (some ⟨g, 0, none⟩) c vs) (j : Nat) : w.frozen? ⟨g, j, none⟩ = false := World.ownsRow.frozenAt h j
theorem OwnV.setG {B g c : Nat} {w : World} {vs : List Value} (h : OwnV B w (some ⟨g, 0, none⟩) c vs) (j : Nat) (u : Value) : OwnV B (w.setCell ⟨g, j, none⟩ u) (some ⟨g, 0, none⟩) c (vs.set j u) := by
  have := (World.ownsRow.stored h j u).1
  unfold OwnV
  rw [List.length_set]
  exact this
theorem OwnV.lt {B g c : Nat} {w : World} {vs : List Value} (h : OwnV B w (some ⟨g, 0, none⟩) c vs) (h0 : vs.length ≠ 0) : B ≤ g ∧ g < w.heap.size := by
  rcases h.2 with ⟨_, h2⟩ | ⟨g', c', cur, h1, h2, h3, _⟩
  · exact absurd h2 h0
  · simp only [Value.slice.injEq, Option.some.injEq, Addr.mk.injEq, and_true] at h1
    obtain ⟨rfl, _, _⟩ := h1
    exact ⟨h2, lt_of_block h3⟩
theorem OwnV.mono {B B' : Nat} {w : World} {a : Option Addr} {c : Nat} {vs : List Value} (h : OwnV B w a c vs) (hB : B' ≤ B) : OwnV B' w a c vs := by
  refine ⟨h.1, ?_⟩
  rcases h.2 with h' | ⟨g, c, cur, h1, h2, h3⟩
  · exact .inl h'
  · exact .inr ⟨g, c, cur, h1, Nat.le_trans hB h2, h3⟩
/-- A matrix: m rows of n numbers each, the slices of which lie in block g, and the rows in other blocks. -/
structure RowsX (B g n cap : Nat) (w : World) (vs : List Value) (X : Nat → List Int) (m : Nat) : Prop where
  own : OwnV B w (some ⟨g, 0, none⟩) cap vs
  len : vs.length = m
  le : m ≤ cap
  row : ∀ i, i < m → ∃ a c, vs[i]? = some (.slice a n c) ∧ SL w a n c (X i) ∧ blk a ≠ some g
theorem RowsX.below {B g n cap m : Nat} {w w' : World} {vs : List Value} {X : Nat → List Int} (h : RowsX B g n cap w vs X m) (hb : Below w.heap.size w w') : RowsX B g n cap w' vs X m :=
  ⟨h.own.below hb, h.len, h.le, fun i hi => by obtain ⟨a, c, h1, h2, h3⟩ := h.row i hi; exact ⟨a, c, h1, h2.below hb, h3⟩⟩
theorem RowsX.put {B g n cap m : Nat} {w : World} {vs : List Value} {X Y : Nat → List Int} (h : RowsX B g n cap w vs X m) (i : Nat) {a : Option Addr} {c : Nat} (hi : i < m) (hs : SL w a n c (Y i)) (hg : blk a ≠ some g) (hY : ∀ k, k < m → k ≠ i → Y k = X k) :
    RowsX B g n cap (w.setCell ⟨g, i, none⟩ (.slice a n c)) (vs.set i (.slice a n c)) Y m := by
  refine ⟨h.own.setG i _, by rw [List.length_set, h.len], h.le, fun k hk => ?_⟩
  by_cases e : k = i
  · subst e
    exact ⟨a, c, by simp [h.len, hk], hs.otherG hg _, hg⟩
  · obtain ⟨a', c', h1, h2, h3⟩ := h.row k hk
    refine ⟨a', c', ?_, ?_, h3⟩
    · rw [List.getElem?_set_ne (fun x => e x.symm)]; exact h1
    · rw [hY k hk e]; exact h2.otherG h3 _
theorem RowsX.congr {B g n cap m : Nat} {w : World} {vs : List Value} {X Y : Nat → List Int} (h : RowsX B g n cap w vs X m) (hY : ∀ k, k < m → Y k = X k) : RowsX B g n cap w vs Y m :=
  ⟨h.own, h.len, h.le, fun i hi => by rw [hY i hi]; exact h.row i hi⟩
theorem RowsX.get {B g n cap m : Nat} {w : World} {vs : List Value} {X : Nat → List Int} (h : RowsX B g n cap w vs X m) (i : Nat) (hi : i < m) : ∃ a c, w.cell? ⟨g, i, none⟩ = some (.slice a n c) ∧ SL w a n c (X i) ∧ blk a ≠ some g ∧ w.frozen? ⟨g, i, none⟩ = false := by
  obtain ⟨a, c, h1, h2, h3⟩ := h.row i hi
  exact ⟨a, c, by rw [h.own.cellG i (by rw [h.len]; exact hi), h1], h2, h3, h.own.freeG i⟩
set_option maxRecDepth 100000 in
theorem wp_appendV {w : World} {ops : Array Oper} {rest : List Oper} {o : Oper} {a : Act} {Q : Exit → Act → World → Prop}
    (hgd : o.guard = none) (s x : Operand) (ho : o.op = .call { callee := .builtin .append, args := #[s, x], argTypes := #[92, 92] })
    (B : Nat) (ad : Option Addr) (n cap : Nat) (ys : List Value) (hs : a.eval s = .slice ad n cap) (hn : n = ys.length) (hown : OwnV B w ad cap ys)
    (p : Addr) (m c : Nat) (zs : List Value) (hx : a.eval x = .slice (some p) m c) (hl : zs.length = m) (hz : ∀ j u, zs[j]? = some u → w.cell? (p.add j) = some u) (h1 : ∀ u ∈ zs, u.oneCell' = true) (hmax : n + m ≤ 4000000) (hB : B ≤ w.heap.size)
    (hK : ∀ ad' cap' w', OwnV B w' ad' cap' (ys ++ zs) → Below B w w' → wpList Try.prog ops Q rest (a.put o.dst (.slice ad' (ys ++ zs).length cap')) w') :
    wpList Try.prog ops Q (o :: rest) a w := by
  subst hn
  obtain ⟨i0, hi, hz0, hz1, hz2⟩ := info_parts infoS
  refine wpList_append_own w hgd s x 92 ho B 22 i0 (.slice none 0 0) 1 24 Try.underlying92 hi hz0 hz1 hz2 rfl (by decide) _ _ _ hs hown p m c zs hx (by simpa using hl) hz h1 (by unfold maxLen; omega) (by omega) hB ?_
  intro v' w1 hown' hgrow _
  have hb : Below B w w1 := (Below.refl _ _).grown hgrow hB (fun k hk => by
    have := (World.ownsRow.lt hown k hk).1
    exact this)
  have hv : ∃ ad' cap', v' = .slice ad' (ys ++ zs).length cap' := by
    rcases hown'.2 with ⟨h1, h2⟩ | ⟨g, c', cur, h1, h2⟩
    · exact ⟨none, 0, by rw [h1]; congr 1; simp; omega⟩
    · exact ⟨_, c', by rw [h1]; congr 1; simp; omega⟩
  obtain ⟨ad', cap', rfl⟩ := hv
  refine hK ad' cap' w1 ?_ hb
  unfold OwnV
  have e : (ys ++ zs).length = ys.length + m := by simp; omega
  rw [e] at hown' ⊢
  exact hown'
end Go.Proofs.Ythahcnmfaghohaa
