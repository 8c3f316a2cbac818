/- Merged texts. -/
import Derived.Test.YtnojmghmkoojfaaYRs15
import Derived.Test.YtnojmghmkoojfaaYRs19
import Derived.Test.YtnojmghmkoojfaaYRs11
/- Rows of slices that are written: a matrix as a slice of rows; slices.Clone at [][]int64. -/
namespace Go.Proofs.Ytnojmghmkoojfaa
open Go.RowKit
set_option linter.unusedVariables false
set_option linter.unusedSimpArgs false

theorem SL.otherG {w : World} {a : Option Addr} {n c g j : Nat} {xs : List Int} (h : SL w a n c xs) (hne : blk a ≠ some g) (u : Value) : SL (w.setCell ⟨g, j, none⟩ u) a n c xs := by
  obtain ⟨h1, h2, h3⟩ := h
  refine ⟨h1, h2, ?_⟩
  rcases h3 with h3 | ⟨b, off, rfl, hc⟩
  · exact .inl h3
  · refine .inr ⟨b, off, rfl, fun i hi => cell_set2 (hc i hi) (fun e => hne ?_) u⟩
    simp [blk] at e ⊢
    exact e.symm
theorem OwnV.cellG {B g c : Nat} {w : World} {vs : List Value} (h : OwnV B w (some ⟨g, 0, none⟩) c vs) (j : Nat) (hj : j < vs.length) : w.cell? ⟨g, j, none⟩ = vs[j]? := World.ownsRow.cellAt h j (by omega)
theorem OwnV.freeG {B g c : Nat} {w : World} {vs : List Value} (h : OwnV B w (some ⟨g, 0, none⟩) c vs) (j : Nat) : w.frozen? ⟨g, j, none⟩ = false := World.ownsRow.frozenAt h j
theorem OwnV.setG {B g c : Nat} {w : World} {vs : List Value} (h : OwnV B w (some ⟨g, 0, none⟩) c vs) (j : Nat) (u : Value) : OwnV B (w.setCell ⟨g, j, none⟩ u) (some ⟨g, 0, none⟩) c (vs.set j u) := by
  have := (World.ownsRow.stored h j u).1
  unfold OwnV
  rw [List.length_set]
  exact this
theorem OwnV.lt {B g c : Nat} {w : World} {vs : List Value} (h : OwnV B w (some ⟨g, 0, none⟩) c vs) (h0 : vs.length ≠ 0) : B ≤ g ∧ g < w.heap.size := by
  rcases h.2 with ⟨_, h2⟩ | ⟨g', c', cur, h1, h2, h3, _⟩
  · exact absurd h2 h0
  · simp only [Value.slice.injEq, Option.some.injEq, Addr.mk.injEq, and_true] at h1
    obtain ⟨rfl, _, _⟩ := h1
    exact ⟨h2, lt_of_block h3⟩
theorem OwnV.mono {B B' : Nat} {w : World} {a : Option Addr} {c : Nat} {vs : List Value} (h : OwnV B w a c vs) (hB : B' ≤ B) : OwnV B' w a c vs := by
  refine ⟨h.1, ?_⟩
  rcases h.2 with h' | ⟨g, c, cur, h1, h2, h3⟩
  · exact .inl h'
  · exact .inr ⟨g, c, cur, h1, Nat.le_trans hB h2, h3⟩
/-- A matrix: m rows of n numbers each, the slices of which lie in block g, and the rows in other blocks. -/
structure RowsX (B g n cap : Nat) (w : World) (vs : List Value) (X : Nat → List Int) (m : Nat) : Prop where
  own : OwnV B w (some ⟨g, 0, none⟩) cap vs
  len : vs.length = m
  le : m ≤ cap
  row : ∀ i, i < m → ∃ a c, vs[i]? = some (.slice a n c) ∧ SL w a n c (X i) ∧ blk a ≠ some g
theorem RowsX.below {B g n cap m : Nat} {w w' : World} {vs : List Value} {X : Nat → List Int} (h : RowsX B g n cap w vs X m) (hb : Below w.heap.size w w') : RowsX B g n cap w' vs X m :=
  ⟨h.own.below hb, h.len, h.le, fun i hi => by obtain ⟨a, c, h1, h2, h3⟩ := h.row i hi; exact ⟨a, c, h1, h2.below hb, h3⟩⟩
theorem RowsX.put {B g n cap m : Nat} {w : World} {vs : List Value} {X Y : Nat → List Int} (h : RowsX B g n cap w vs X m) (i : Nat) {a : Option Addr} {c : Nat} (hi : i < m) (hs : SL w a n c (Y i)) (hg : blk a ≠ some g) (hY : ∀ k, k < m → k ≠ i → Y k = X k) :
    RowsX B g n cap (w.setCell ⟨g, i, none⟩ (.slice a n c)) (vs.set i (.slice a n c)) Y m := by
  refine ⟨h.own.setG i _, by rw [List.length_set, h.len], h.le, fun k hk => ?_⟩
  by_cases e : k = i
  · subst e
    exact ⟨a, c, by simp [h.len, hk], hs.otherG hg _, hg⟩
  · obtain ⟨a', c', h1, h2, h3⟩ := h.row k hk
    refine ⟨a', c', ?_, ?_, h3⟩
    · rw [List.getElem?_set_ne (fun x => e x.symm)]; exact h1
    · rw [hY k hk e]; exact h2.otherG h3 _
theorem RowsX.congr {B g n cap m : Nat} {w : World} {vs : List Value} {X Y : Nat → List Int} (h : RowsX B g n cap w vs X m) (hY : ∀ k, k < m → Y k = X k) : RowsX B g n cap w vs Y m :=
  ⟨h.own, h.len, h.le, fun i hi => by rw [hY i hi]; exact h.row i hi⟩
theorem RowsX.get {B g n cap m : Nat} {w : World} {vs : List Value} {X : Nat → List Int} (h : RowsX B g n cap w vs X m) (i : Nat) (hi : i < m) : ∃ a c, w.cell? ⟨g, i, none⟩ = some (.slice a n c) ∧ SL w a n c (X i) ∧ blk a ≠ some g ∧ w.frozen? ⟨g, i, none⟩ = false := by
  obtain ⟨a, c, h1, h2, h3⟩ := h.row i hi
  exact ⟨a, c, by rw [h.own.cellG i (by rw [h.len]; exact hi), h1], h2, h3, h.own.freeG i⟩
set_option maxRecDepth 100000 in
theorem wp_appendV {w : World} {ops : Array Oper} {rest : List Oper} {o : Oper} {a : Act} {Q : Exit → Act → World → Prop}
    (hgd : o.guard = none) (s x : Operand) (ho : o.op = .call { callee := .builtin .append, args := #[s, x], argTypes := #[41, 41] })
    (B : Nat) (ad : Option Addr) (n cap : Nat) (ys : List Value) (hs : a.eval s = .slice ad n cap) (hn : n = ys.length) (hown : OwnV B w ad cap ys)
    (p : Addr) (m c : Nat) (zs : List Value) (hx : a.eval x = .slice (some p) m c) (hl : zs.length = m) (hz : ∀ j u, zs[j]? = some u → w.cell? (p.add j) = some u) (h1 : ∀ u ∈ zs, u.oneCell' = true) (hmax : n + m ≤ 4000000) (hB : B ≤ w.heap.size)
    (hK : ∀ ad' cap' w', OwnV B w' ad' cap' (ys ++ zs) → Below B w w' → wpList Try.prog ops Q rest (a.put o.dst (.slice ad' (ys ++ zs).length cap')) w') :
    wpList Try.prog ops Q (o :: rest) a w := by
  subst hn
  obtain ⟨i0, hi, hz0, hz1, hz2⟩ := info_parts infoS
  refine wpList_append_own w hgd s x 41 ho B 22 i0 (.slice none 0 0) 1 24 Try.underlying41 hi hz0 hz1 hz2 rfl (by decide) _ _ _ hs hown p m c zs hx (by simpa using hl) hz h1 (by unfold maxLen; omega) (by omega) hB ?_
  intro v' w1 hown' hgrow _
  have hb : Below B w w1 := (Below.refl _ _).grown hgrow hB (fun k hk => by
    have := (World.ownsRow.lt hown k hk).1
    exact this)
  have hv : ∃ ad' cap', v' = .slice ad' (ys ++ zs).length cap' := by
    rcases hown'.2 with ⟨h1, h2⟩ | ⟨g, c', cur, h1, h2⟩
    · exact ⟨none, 0, by rw [h1]; congr 1; simp; omega⟩
    · exact ⟨_, c', by rw [h1]; congr 1; simp; omega⟩
  obtain ⟨ad', cap', rfl⟩ := hv
  refine hK ad' cap' w1 ?_ hb
  unfold OwnV
  have e : (ys ++ zs).length = ys.length + m := by simp; omega
  rw [e] at hown' ⊢
  exact hown'
end Go.Proofs.Ytnojmghmkoojfaa
/- zeroMatrix (program): a matrix whose rows are parts of one list. -/
namespace Go.Proofs.Ytnojmghmkoojfaa
open Go.RowKit
set_option linter.unusedVariables false
set_option linter.unusedSimpArgs false

/-- A row of slices known whole. -/
def RowS (w : World) (g : Nat) (vs : List Value) : Prop := w.heap[g]? = some (.cells vs.toArray 22 (0, 0))
theorem RowS.lt {w : World} {g : Nat} {vs : List Value} (h : RowS w g vs) : g < w.heap.size := lt_of_block h
theorem RowS.cell {w : World} {g : Nat} {vs : List Value} (h : RowS w g vs) (j : Nat) : w.cell? ⟨g, j, none⟩ = vs[j]? := by
  rw [cell_of_row w g j _ _ (0, 0) h]
  simp
theorem RowS.free {w : World} {g : Nat} {vs : List Value} (h : RowS w g vs) (j : Nat) : w.frozen? ⟨g, j, none⟩ = false := frozen_of_row w g j _ _ h
theorem RowS.set {w : World} {g : Nat} {vs : List Value} (h : RowS w g vs) (j : Nat) (u : Value) : RowS (w.setCell ⟨g, j, none⟩ u) g (vs.set j u) := by
  unfold RowS
  rw [heap_setCell_same w g j _ _ _ h]
  simp
theorem RowS.below {w w' : World} {B g : Nat} {vs : List Value} (h : RowS w g vs) (hb : Below B w w') (hg : g < B) : RowS w' g vs := (hb.block g hg).trans h
theorem RowS.next {w w' : World} {g : Nat} {vs : List Value} (h : RowS w g vs) (hb : Below w.heap.size w w') : RowS w' g vs := h.below hb h.lt
theorem RowS.other {w : World} {g b j : Nat} {vs : List Value} (h : RowS w g vs) (hne : b ≠ g) (u : Value) : RowS (w.setCell ⟨b, j, none⟩ u) g vs := by
  unfold RowS
  rw [Below.heap_setCell _ _ _ _ (fun e => hne e.symm)]
  exact h
def zrowZ (n : Nat) : Array Value := (List.replicate n (Value.slice none 0 0)).toArray
set_option maxRecDepth 100000 in
theorem run_mkZ (n : Nat) (hn : n ≤ 4000000) : ∀ W : World, (Instr.makeSlice 41 (.int .i64 (n : Int)) (.int .i64 (n : Int))).run Try.prog W = .ok (.slice (some ⟨W.heap.size, 0, none⟩) n n) (W.alloc (.cells (zrowZ n) 22)) := by
  intro W
  obtain ⟨i0, hi, hz0, hz1, hz2⟩ := info_parts infoS
  have hr := run_make (P := Try.prog) W 41 22 i0 (.slice none 0 0) Try.underlying41 hi hz0 .i64 .i64 n n (by omega) (by omega) (by rw [hz2]; omega) (by omega)
  simp only [Int.toNat_natCast] at hr
  rw [hr, hz1, Nat.mul_one]
  congr 2
  have e : madeCells (Value.slice none 0 0).cells n = zrowZ n := by
    have : (madeCells (Value.slice none 0 0).cells n).toList = (zrowZ n).toList := by
      rw [Value.cells.eq_def]
      simp [toList_madeCells_one, zrowZ]
    exact Array.toList_inj.1 this
  rw [e]
theorem zrowZ_row (W : World) (n : Nat) : RowS (W.alloc (.cells (zrowZ n) 22)) W.heap.size (List.replicate n (Value.slice none 0 0)) := heap_alloc_new W _
/-- The first k rows of a matrix of n rows, which lie one behind the other in block L. -/
def mrows (L n k : Nat) : List Value := (List.range n).map fun i => if i < k then Value.slice (some ⟨L, i * n, none⟩) n n else .slice none 0 0
theorem mrows_len (L n k : Nat) : (mrows L n k).length = n := by simp [mrows]
theorem mrows_zero (L n : Nat) : List.replicate n (Value.slice none 0 0) = mrows L n 0 := by
  apply List.ext_getElem
  · simp [mrows]
  · intro i h1 h2
    simp [mrows]
theorem mrows_set (L n k : Nat) : (mrows L n k).set k (Value.slice (some ⟨L, k * n, none⟩) n n) = mrows L n (k + 1) := by
  apply List.ext_getElem
  · simp [mrows]
  · intro i h1 h2
    rw [List.getElem_set]
    by_cases e : k = i
    · subst e
      simp [mrows]
    · rw [if_neg e]
      simp only [mrows, List.getElem_map, List.getElem_range]
      by_cases h : i < k
      · rw [if_pos h, if_pos (by omega)]
      · rw [if_neg h, if_neg (by omega)]
theorem mrows_at (L n i : Nat) (h : i < n) : (mrows L n n)[i]? = some (Value.slice (some ⟨L, i * n, none⟩) n n) := by
  simp [mrows, h]
/-- A matrix of n rows of n numbers in block L, whose slices lie in block g. -/
structure MatW (w : World) (L g n : Nat) (Y : List Int) : Prop where
  row : RowI w L Y
  len : Y.length = n * n
  sl : RowS w g (mrows L n n)
  ne : L ≠ g
theorem MatW.below {w w' : World} {B L g n : Nat} {Y : List Int} (h : MatW w L g n Y) (hb : Below B w w') (h1 : L < B) (h2 : g < B) : MatW w' L g n Y :=
  ⟨h.row.below hb h1, h.len, h.sl.below hb h2, h.ne⟩
theorem MatW.next {w w' : World} {L g n : Nat} {Y : List Int} (h : MatW w L g n Y) (hb : Below w.heap.size w w') : MatW w' L g n Y :=
  h.below hb h.row.lt h.sl.lt
theorem MatW.cell {w : World} {L g n : Nat} {Y : List Int} (h : MatW w L g n Y) (i : Nat) (hi : i < n) : w.cell? ⟨g, i, none⟩ = some (Value.slice (some ⟨L, i * n, none⟩) n n) := by
  rw [h.sl.cell, mrows_at _ _ _ hi]
theorem mat_lt {n i j : Nat} (hi : i < n) (hj : j < n) : i * n + j < n * n := by
  have : (i + 1) * n ≤ n * n := Nat.mul_le_mul_right n (by omega)
  rw [Nat.add_mul] at this
  omega
theorem MatW.num {w : World} {L g n : Nat} {Y : List Int} (h : MatW w L g n Y) (i j : Nat) (hi : i < n) (hj : j < n) : w.cell? ⟨L, i * n + j, none⟩ = some (.int .i64 (Y.getD (i * n + j) 0)) :=
  h.row.cell _ (by rw [h.len]; exact mat_lt hi hj)
theorem MatW.free {w : World} {L g n : Nat} {Y : List Int} (h : MatW w L g n Y) (k : Nat) : w.frozen? ⟨L, k, none⟩ = false := h.row.free k
theorem MatW.set {w : World} {L g n : Nat} {Y : List Int} (h : MatW w L g n Y) (k : Nat) (u : Int) : MatW (w.setCell ⟨L, k, none⟩ (.int .i64 u)) L g n (Y.set k u) :=
  ⟨h.row.set k u, by rw [List.length_set]; exact h.len, h.sl.other h.ne _, h.ne⟩
/-- Row i of the matrix. -/
def rowM (n : Nat) (Y : List Int) (i : Nat) : List Int := tab n (fun j => Y.getD (i * n + j) 0)
theorem MatW.slr {w : World} {L g n : Nat} {Y : List Int} (h : MatW w L g n Y) (i : Nat) (hi : i < n) : SL w (some ⟨L, i * n, none⟩) n n (rowM n Y i) :=
  ⟨tab_len _ _, ⟨Nat.le_refl _, by simp⟩, .inr ⟨L, i * n, rfl, fun j hj => by rw [h.num i j hi hj]; unfold rowM; rw [tab_at _ _ _ hj]⟩⟩
set_option maxRecDepth 100000 in
set_option maxHeartbeats 1600000 in
theorem zeroMatrix_any (n : Nat) (w : World) (hn : n ≤ 1000) :
    Calls Try.prog 91 #[.int .i64 n] w fun e w' => e = .returned (.slice (some ⟨w.heap.size + 1, 0, none⟩) n n) ∧ MatW w' w.heap.size (w.heap.size + 1) n (tab (n * n) (fun _ => 0)) ∧ Below w.heap.size w w' := by
  obtain ⟨NN, hNN⟩ : ∃ NN, n * n = NN := ⟨_, rfl⟩
  have HNN := hide hNN
  have hNl : NN ≤ 1000000 := by rw [← hNN]; exact Nat.mul_le_mul hn hn
  have v0 : IntKind.i64.wrap ((n : Int) * (n : Int)) = (NN : Int) := by
    rw [show (n : Int) * (n : Int) = (NN : Int) by rw [← hNN]; simp]; exact IntWalk.i64_in _ (by omega)
  have k1 := run_mk NN (by omega)
  have k2 := run_mkZ n (by omega)
  have hb0 := bl2 w (.cells (zrow NN) 2) (.cells (zrowZ n) 22)
  have hR0 : RowI ((w.alloc (.cells (zrow NN) 2)).alloc (.cells (zrowZ n) 22)) w.heap.size (tab NN (fun _ => 0)) := (zrow_row w NN).next (bl1 _ _)
  have hS0 : RowS ((w.alloc (.cells (zrow NN) 2)).alloc (.cells (zrowZ n) 22)) (w.heap.size + 1) (mrows w.heap.size n 0) := by
    have := zrowZ_row (w.alloc (.cells (zrow NN) 2)) n
    rw [mrows_zero w.heap.size] at this
    simpa using this
  have HR0 := hide hR0
  have HS0 := hide hS0
  clear hR0 hS0 hNN
  go_enter Try.func91, Try.ntmps91
  go_wp2
  clear v0 k1 k2
  go_loopw [14] (fun iv wr => ∃ i : Nat, i ≤ n ∧ iv = .int .i64 i ∧ Hid (RowI wr w.heap.size (tab NN (fun _ => 0))) ∧ Hid (RowS wr (w.heap.size + 1) (mrows w.heap.size n i)) ∧ Below w.heap.size w wr) (fun iv _ => n - (intOf iv).toNat)
  case atStart => exact ⟨0, by omega, rfl, HR0, HS0, hb0⟩
  case round =>
    obtain ⟨i, hi, rfl, hR, hS, hBr⟩ := hrel
    clear HR0 HS0 hb0
    by_cases hlt : i < n
    · obtain ⟨P, hP⟩ : ∃ P, i * n = P := ⟨_, rfl⟩
      have hQ : P + n ≤ NN := by rw [← hP, ← HNN.out]; have := mat_lt (j := n - 1) hlt (by omega); omega
      have v1 : IntKind.i64.wrap ((i : Int) * (n : Int)) = (P : Int) := by
        rw [show (i : Int) * (n : Int) = (P : Int) by rw [← hP]; simp]; exact IntWalk.i64_in _ (by omega)
      have v2 : IntKind.i64.wrap ((i : Int) + 1) = (i : Int) + 1 := IntWalk.i64_in _ (by omega)
      have v3 : IntKind.i64.wrap (((i : Int) + 1) * (n : Int)) = ((P + n : Nat) : Int) := by
        rw [show ((i : Int) + 1) * (n : Int) = ((P + n : Nat) : Int) by rw [Int.add_mul, ← hP]; simp]; exact IntWalk.i64_in _ (by omega)
      obtain ⟨Q, hQd⟩ : ∃ Q, P + n = Q := ⟨_, rfl⟩
      rw [hQd] at v3 hQ
      have q1 : (P : Int) ≤ (Q : Int) := by omega
      have q2 : (Q : Int) ≤ (NN : Int) := by omega
      have q3 : (0 : Int) ≤ (P : Int) := by omega
      have q4 : (0 : Int) ≤ (Q : Int) := by omega
      have q5 : ¬ P = Q := by omega
      have q6 : Q - P = n := by omega
      have q7 : (i : Int) < (n : Int) := by omega
      have hfr := hS.out.free i
      have hcl : wr.cell? ⟨w.heap.size + 1, i, none⟩ = some (.slice none 0 0) := by rw [hS.out.cell]; simp [mrows, hlt]
      have hst := hS.out.set i (Value.slice (some ⟨w.heap.size, P, none⟩) n n)
      rw [← hP, mrows_set, hP] at hst
      have Hst := hide hst
      have Hrw := hide (hR.out.other (b := w.heap.size + 1) (j := i) (by omega) (Value.slice (some ⟨w.heap.size, P, none⟩) n n))
      have hBn := hBr.setCell (p := ⟨w.heap.size + 1, i, none⟩) (by simp) (Value.slice (some ⟨w.heap.size, P, none⟩) n n)
      clear hst hS hR hP hQd
      go_wp2
      go_roundw
      case rel => exact ⟨i + 1, by omega, by go_num, Hrw, Hst, hBn⟩
      case measure => simp [intOf]; omega
    · obtain rfl : i = n := by omega
      go_wp2
      go_ret
      exact ⟨rfl, ⟨by rw [HNN.out]; exact hR.out, by rw [tab_len], hS.out, by omega⟩, hBr⟩
end Go.Proofs.Ytnojmghmkoojfaa
