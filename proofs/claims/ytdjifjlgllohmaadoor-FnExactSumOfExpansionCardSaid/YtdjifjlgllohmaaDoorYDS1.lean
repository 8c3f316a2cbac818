/- Merged texts. -/
import Derived.Test.YtdjifjlgllohmaaDoorProg
import Derived.Test.YtdjifjlgllohmaaDoorYDS0
import Derived.WalkKit
import Derived.Lib.Hide
import Derived.WalkLawsBesides
import Derived.Laws.EntriesVeiled
import Derived.Laws.CopyOwn
import Derived.KernelRfl
import Derived.Deep.QuietTactic
import Derived.BigQuiet
/- Slices of int64 in memory: what is read (SL), what is owned (Own), rows known whole (RowI); make, append and copy as laws for the walk over this program. -/
namespace Go.Proofs.YtdjifjlgllohmaaDoor
open Go.RowKit
set_option linter.unusedVariables false
set_option linter.unusedSimpArgs false

theorem bcell {W w1 : World} (hb : Below W.heap.size W w1) : (∀ b o, b < W.heap.size → w1.cell? ⟨b, o, none⟩ = W.cell? ⟨b, o, none⟩) ∧ (∀ b o, b < W.heap.size → w1.frozen? ⟨b, o, none⟩ = W.frozen? ⟨b, o, none⟩) :=
  ⟨fun b o h => hb.cell (p := ⟨b, o, none⟩) h, fun b o h => hb.frozen (p := ⟨b, o, none⟩) h⟩
theorem cell_al {w : World} {a : Addr} {v : Value} (h : w.cell? a = some v) : ∀ o, (w.alloc o).cell? a = some v := fun o =>
  (World.cell?_of_block (w := w) (Below.heap_alloc _ _ _ (World.block_lt_of_cell? w a h))).trans h
theorem cell_al3 {w : World} {a : Addr} {v : Value} (h : w.cell? a = some v) : ∀ o1 o2 o3, (((w.alloc o1).alloc o2).alloc o3).cell? a = some v := fun _ _ _ =>
  cell_al (cell_al (cell_al h _) _) _
theorem cell_be {w w' : World} {a : Addr} {v : Value} (hb : Below w.heap.size w w') (h : w.cell? a = some v) : w'.cell? a = some v := (hb.cell (World.block_lt_of_cell? w _ h)).trans h
theorem bl1 (w : World) (a : Obj) : Below w.heap.size w (w.alloc a) := (Below.refl _ _).alloc (Nat.le_refl _) _
theorem bl2 (w : World) (a b : Obj) : Below w.heap.size w ((w.alloc a).alloc b) := (bl1 w a).alloc (by simp) _
theorem bl3 (w : World) (a b c : Obj) : Below w.heap.size w (((w.alloc a).alloc b).alloc c) := (bl2 w a b).alloc (by simp; omega) _
theorem bl4 (w : World) (a b c d : Obj) : Below w.heap.size w ((((w.alloc a).alloc b).alloc c).alloc d) := (bl3 w a b c).alloc (by simp; omega) _
/-- Two steps, the second seen from its own start. -/
theorem bthen {B : Nat} {a b c : World} (h : Below B a b) (k : Below b.heap.size b c) (hB : B ≤ b.heap.size) : Below B a c := h.trans (k.mono hB)
theorem bnext {a b c : World} (h : Below a.heap.size a b) (k : Below b.heap.size b c) : Below a.heap.size a c := h.trans (k.mono h.size)

/-- The slice value (a, n, cap) reads as the numbers xs. -/
def SL (w : World) (a : Option Addr) (n cap : Nat) (xs : List Int) : Prop :=
  xs.length = n ∧ (n ≤ cap ∧ (a = none → cap = 0)) ∧ (n = 0 ∨ ∃ b off, a = some ⟨b, off, none⟩ ∧ ∀ j, j < n → w.cell? ⟨b, off + j, none⟩ = some (.int .i64 (xs.getD j 0)))
theorem SL.len {w : World} {a : Option Addr} {n cap : Nat} {xs : List Int} (h : SL w a n cap xs) : xs.length = n := h.1
theorem SL.le {w : World} {a : Option Addr} {n cap : Nat} {xs : List Int} (h : SL w a n cap xs) : n ≤ cap := h.2.1.1
theorem SL.cap0 {w : World} {a : Option Addr} {n cap : Nat} {xs : List Int} (h : SL w a n cap xs) : a = none → cap = 0 := h.2.1.2
theorem SL.below {w w' : World} {a : Option Addr} {n cap : Nat} {xs : List Int} (h : SL w a n cap xs) (hb : Below w.heap.size w w') : SL w' a n cap xs := by
  obtain ⟨h1, h2, h3⟩ := h
  refine ⟨h1, h2, ?_⟩
  rcases h3 with h3 | ⟨b, off, rfl, hc⟩
  · exact .inl h3
  · exact .inr ⟨b, off, rfl, fun j hj => cell_be hb (hc j hj)⟩
theorem SL.nil (w : World) : SL w none 0 0 [] := ⟨rfl, ⟨Nat.le_refl _, fun _ => rfl⟩, .inl rfl⟩
theorem SL.empty {w : World} {a : Option Addr} {cap : Nat} {xs : List Int} (h : SL w a 0 cap xs) : xs = [] := List.eq_nil_of_length_eq_zero h.1

/-- A row of numbers known whole. -/
def RowI (w : World) (g : Nat) (ys : List Int) : Prop := w.heap[g]? = some (.cells (ys.map (Value.int .i64)).toArray 2 (0, 0))
theorem RowI.lt {w : World} {g : Nat} {ys : List Int} (h : RowI w g ys) : g < w.heap.size := lt_of_block h
theorem RowI.cell {w : World} {g : Nat} {ys : List Int} (h : RowI w g ys) (j : Nat) (hj : j < ys.length) : w.cell? ⟨g, j, none⟩ = some (.int .i64 (ys.getD j 0)) := by
  rw [cell_of_row w g j _ _ (0, 0) h]
  simp [hj]
theorem RowI.free {w : World} {g : Nat} {ys : List Int} (h : RowI w g ys) (j : Nat) : w.frozen? ⟨g, j, none⟩ = false := frozen_of_row w g j _ _ h
theorem RowI.set {w : World} {g : Nat} {ys : List Int} (h : RowI w g ys) (j : Nat) (u : Int) : RowI (w.setCell ⟨g, j, none⟩ (.int .i64 u)) g (ys.set j u) := by
  unfold RowI
  rw [heap_setCell_same w g j _ _ _ h]
  congr 2
  simp [List.map_set]
theorem RowI.below {w w' : World} {B g : Nat} {ys : List Int} (h : RowI w g ys) (hb : Below B w w') (hg : g < B) : RowI w' g ys := (hb.block g hg).trans h
theorem RowI.next {w w' : World} {g : Nat} {ys : List Int} (h : RowI w g ys) (hb : Below w.heap.size w w') : RowI w' g ys := h.below hb h.lt
theorem RowI.other {w : World} {g b j : Nat} {ys : List Int} (h : RowI w g ys) (hne : b ≠ g) (u : Value) : RowI (w.setCell ⟨b, j, none⟩ u) g ys := by
  unfold RowI
  rw [Below.heap_setCell _ _ _ _ (fun e => hne e.symm)]
  exact h
theorem RowI.sl {w : World} {g : Nat} {ys : List Int} (h : RowI w g ys) {m : Nat} (hm : m ≤ ys.length) : SL w (some ⟨g, 0, none⟩) m ys.length (ys.take m) := by
  refine ⟨by simp; omega, ⟨hm, fun h => by cases h⟩, .inr ⟨g, 0, rfl, fun j hj => ?_⟩⟩
  rw [Nat.zero_add, h.cell j (by omega)]
  simp [hj]
theorem RowI.sl' {w : World} {g : Nat} {ys : List Int} (h : RowI w g ys) : SL w (some ⟨g, 0, none⟩) ys.length ys.length ys := by
  have := h.sl (Nat.le_refl ys.length)
  rwa [List.take_length] at this

/-- The slice value (a, its length, cap) is the call's own (blocks from B on) and holds ys. -/
def Own (B : Nat) (w : World) (a : Option Addr) (cap : Nat) (ys : List Int) : Prop := w.ownsRow B 2 1 (.slice a ys.length cap) ys.length (ys.map (Value.int .i64))
theorem Own.nil (B : Nat) (w : World) : Own B w none 0 [] := World.ownsRow_nil _ _ _ _
theorem Own.shape {B : Nat} {w : World} {a : Option Addr} {cap : Nat} {ys : List Int} (h : Own B w a cap ys) :
    (a = none ∧ cap = 0 ∧ ys = []) ∨ ∃ g cur, a = some ⟨g, 0, none⟩ ∧ B ≤ g ∧ w.heap[g]? = some (.cells cur 2 (0, 0)) ∧ ys.length ≤ cap ∧ cap ≤ maxLen ∧ cur.size = cap ∧ cur.toList.take ys.length = ys.map (Value.int .i64) := by
  rcases h.2 with ⟨h1, h2⟩ | ⟨g, c, cur, h1, h2, h3, h4, h5, h6, h7⟩
  · simp only [Value.slice.injEq] at h1
    exact .inl ⟨h1.1, h1.2.2, List.eq_nil_of_length_eq_zero h2⟩
  · simp only [Value.slice.injEq, true_and] at h1
    obtain ⟨rfl, rfl⟩ := h1
    exact .inr ⟨g, cur, rfl, h2, h3, h4, h5, by simpa using h6, by simpa using h7⟩
theorem Own.sl {B : Nat} {w : World} {a : Option Addr} {cap : Nat} {ys : List Int} (h : Own B w a cap ys) : SL w a ys.length cap ys := by
  rcases h.shape with ⟨rfl, rfl, rfl⟩ | ⟨g, cur, rfl, _, hg, hl, _, hs, ht⟩
  · exact SL.nil w
  · refine ⟨rfl, ⟨hl, fun h => by cases h⟩, .inr ⟨g, 0, rfl, fun j hj => ?_⟩⟩
    rw [Nat.zero_add, cell_of_row w g j _ _ (0, 0) hg]
    have e : (cur.toList.take ys.length)[j]? = (ys.map (Value.int .i64))[j]? := by rw [ht]
    rw [List.getElem?_take, if_pos hj] at e
    simpa [hj] using e
theorem Own.below {B : Nat} {w w' : World} {a : Option Addr} {cap : Nat} {ys : List Int} (h : Own B w a cap ys) (hb : Below w.heap.size w w') : Own B w' a cap ys := by
  refine ⟨h.1, ?_⟩
  rcases h.2 with h' | ⟨g, c, cur, h1, h2, h3, h4⟩
  · exact .inl h'
  · exact .inr ⟨g, c, cur, h1, h2, (hb.block g (lt_of_block h3)).trans h3, h4⟩
theorem Own.mono {B B' : Nat} {w : World} {a : Option Addr} {cap : Nat} {ys : List Int} (h : Own B w a cap ys) (hB : B' ≤ B) : Own B' w a cap ys := by
  refine ⟨h.1, ?_⟩
  rcases h.2 with h' | ⟨g, c, cur, h1, h2, h3⟩
  · exact .inl h'
  · exact .inr ⟨g, c, cur, h1, Nat.le_trans hB h2, h3⟩
theorem RowI.own {w : World} {g B : Nat} {ys : List Int} (h : RowI w g ys) (hB : B ≤ g) (hm : ys.length ≤ maxLen) {m : Nat} (hl : m ≤ ys.length) : w.ownsRow B 2 1 (.slice (some ⟨g, 0, none⟩) m ys.length) m ((ys.take m).map (Value.int .i64)) := by
  refine ⟨by simp; omega, .inr ⟨g, ys.length, _, rfl, hB, h, hl, hm, by simp, ?_⟩⟩
  simp
theorem RowI.own' {w : World} {g B : Nat} {ys : List Int} (h : RowI w g ys) (hB : B ≤ g) (hm : ys.length ≤ maxLen) : Own B w (some ⟨g, 0, none⟩) ys.length ys := by
  have := h.own hB hm (Nat.le_refl ys.length)
  rwa [List.take_length] at this
theorem RowI.ownT {w : World} {g B : Nat} {ys zs : List Int} (h : RowI w g ys) (hB : B ≤ g) (hm : ys.length ≤ maxLen) {m : Nat} (hl : m ≤ ys.length) (hz : ys.take m = zs) {k : Nat} (hk : k = m) : w.ownsRow B 2 1 (.slice (some ⟨g, 0, none⟩) k ys.length) zs.length (zs.map (Value.int .i64)) := by
  subst hz; subst hk
  have := h.own hB hm hl
  have e : (ys.take k).length = k := by simp; omega
  rwa [e]

/-! ### make, append, copy over this program -/
theorem infoI : (Tryd.prog.info? 2).map (fun i => (i.zero, i.size, i.bytes)) = some (some (.int .i64 0), 1, 8) := by kernel_rfl
theorem sizeI : (Tryd.prog.info? 2).map (·.size) = some 1 := by kernel_rfl

set_option maxRecDepth 100000 in
theorem wp_make {w : World} {ops : Array Oper} {rest : List Oper} {o : Oper} {a : Act} {Q : Exit → Act → World → Prop}
    (hg : o.guard = none) (l c : Operand) (hop : o.op = Op.makeSlice 22 l c)
    (L C : Int) (n : Nat) (hl : a.eval l = .int .i64 L) (hc : a.eval c = .int .i64 C) (hL : L = (n : Int)) (hC : C = (n : Int)) (hn : n ≤ 4000000)
    (hK : ∀ w', Hid (RowI w' w.heap.size (List.replicate n 0)) → Below w.heap.size w w' → w.heap.size < w'.heap.size → wpList Tryd.prog ops Q rest (a.put o.dst (.slice (some ⟨w.heap.size, 0, none⟩) n n)) w') :
    wpList Tryd.prog ops Q (o :: rest) a w := by
  obtain ⟨i0, hi, hz0, hz1, hz2⟩ := info_parts infoI
  refine wpList_make_full w hg l c 22 hop w.heap.size 2 i0 (.int .i64 0) 1 Tryd.underlying22 hi hz0 hz1 .i64 .i64 L C n hl hc hL hC (by rw [hz2]; omega) (by unfold maxLen; omega) (Nat.le_refl _) ?_
  intro w' hown hgr
  have hb : Below w.heap.size w w' := (Below.refl _ _).grown hgr (Nat.le_refl _) (fun k h => by cases h)
  rcases hown.2 with ⟨h1, _⟩ | ⟨g, c, cur, h1, h2, h3, h4, h5, h6, h7⟩
  · cases h1
  · simp only [Value.slice.injEq, Option.some.injEq, Addr.mk.injEq, and_true, true_and] at h1
    obtain ⟨rfl, rfl⟩ := h1
    refine hK w' ?_ hb (lt_of_block h3)
    have e : cur = ((List.replicate n (0 : Int)).map (Value.int .i64)).toArray := by
      have h8 : cur.toList = (List.replicate n (0 : Int)).map (Value.int .i64) := by
        rw [List.take_of_length_le (by simp [h6])] at h7
        rw [h7, Value.cells.eq_def]
        simp [toList_madeCells_one]
      rw [← h8]
    subst e
    exact h3

set_option maxRecDepth 100000 in
theorem wp_append {w : World} {ops : Array Oper} {rest : List Oper} {o : Oper} {a : Act} {Q : Exit → Act → World → Prop}
    (hgd : o.guard = none) (s x : Operand) (ho : o.op = .call { callee := .builtin .append, args := #[s, x], argTypes := #[22, 22] })
    (B : Nat) (ad : Option Addr) (n cap : Nat) (ys : List Int) (hs : a.eval s = .slice ad n cap) (hn : n = ys.length) (hown : Own B w ad cap ys)
    (ax : Option Addr) (m c : Nat) (zs : List Int) (hx : a.eval x = .slice ax m c) (hz : SL w ax m c zs) (hmax : n + m ≤ 4000000) (hB : B ≤ w.heap.size)
    (hK : ∀ ad' cap' w', Own B w' ad' cap' (ys ++ zs) → Below B w w' → wpList Tryd.prog ops Q rest (a.put o.dst (.slice ad' (ys ++ zs).length cap')) w') :
    wpList Tryd.prog ops Q (o :: rest) a w := by
  subst hn
  obtain ⟨i0, hi, hz0, hz1, hz2⟩ := info_parts infoI
  obtain ⟨hl, ⟨hle, hax⟩, hcs⟩ := hz
  cases ax with
  | none =>
    obtain rfl := hax rfl
    obtain rfl : m = 0 := by omega
    obtain rfl : zs = [] := List.eq_nil_of_length_eq_zero hl
    refine wpList_plain hgd fun K hK' => ?_
    have hrun := run_append_owned_none (P := Tryd.prog) w B 22 o.type 2 i0 1 Tryd.underlying22 hi _ _ _ hown
    unfold Oper.wp
    simp [execOp, ho, resolve, invoke, builtin, hs, hx, hrun, Result.andThen]
    have := hK ad cap w (by simpa using hown) (Below.refl _ _)
    exact hK' _ _ (by simpa using this)
  | some p =>
    refine wpList_append_own w hgd s x 22 ho B 2 i0 (.int .i64 0) 1 8 Tryd.underlying22 hi hz0 hz1 hz2 rfl (by decide) _ _ _ hs hown p m c (zs.map (Value.int .i64)) hx (by simpa using hl) ?_ ?_ (by unfold maxLen; omega) (by omega) hB ?_
    · intro j u hj
      have hjz : j < zs.length := by
        have := (List.getElem?_eq_some_iff.1 hj).1
        simpa using this
      rcases hcs with h0 | ⟨b, off, hpe, hcell⟩
      · omega
      · obtain rfl := Option.some.inj hpe
        rw [Addr.add_lit, hcell j (by omega)]
        simpa [hjz] using hj
    · intro u hu
      obtain ⟨_, _, rfl⟩ := List.mem_map.1 hu
      rfl
    · intro v' w1 hown' hgrow _
      have hb : Below B w w1 := (Below.refl _ _).grown hgrow hB (fun k hk => by
        have := (hown.lt k hk).1
        exact this)
      have hv : ∃ ad' cap', v' = .slice ad' (ys ++ zs).length cap' := by
        rcases hown'.2 with ⟨h1, h2⟩ | ⟨g, c', cur, h1, h2⟩
        · exact ⟨none, 0, by rw [h1]; congr 1; simp; omega⟩
        · exact ⟨_, c', by rw [h1]; congr 1; simp; omega⟩
      obtain ⟨ad', cap', rfl⟩ := hv
      refine hK ad' cap' w1 ?_ hb
      unfold Own
      have e : (ys ++ zs).length = ys.length + m := by simp; omega
      rw [List.map_append]
      rw [e] at hown' ⊢
      exact hown'

set_option maxRecDepth 100000 in
theorem wp_copy {w : World} {ops : Array Oper} {rest : List Oper} {o : Oper} {a : Act} {Q : Exit → Act → World → Prop}
    (hgd : o.guard = none) (d s : Operand) (ho : o.op = .call { callee := .builtin .copy, args := #[d, s], argTypes := #[22, 22] })
    (g dLen dCap : Nat) (ys : List Int) (hd : a.eval d = .slice (some ⟨g, 0, none⟩) dLen dCap) (hrow : RowI w g ys) (hdl : dLen = ys.length)
    (sp : Option Addr) (m c : Nat) (zs : List Int) (hs : a.eval s = .slice sp m c) (hz : SL w sp m c zs) (hm : m ≤ ys.length) (B : Nat) (hB : B ≤ g)
    (h : ∀ w', Hid (RowI w' g (zs ++ ys.drop m)) → Below B w w' → wpList Tryd.prog ops Q rest (a.put o.dst (.int .i64 m)) w') :
    wpList Tryd.prog ops Q (o :: rest) a w := by
  subst hdl
  obtain ⟨hl, hle, hcs⟩ := hz
  refine wpList_copy_splice hgd d s 22 22 ho 2 Tryd.underlying22 sizeI (some ⟨g, 0, none⟩) sp ys.length dCap m c hd hs g 0 (ys.map (Value.int .i64)) 2 hrow (zs.map (Value.int .i64)) ?_ ?_ ?_ ?_ B w (Below.refl _ _) hB ?_
  · rw [List.length_map, hl]
    show m = min m ys.length
    omega
  · intro hpos
    refine ⟨rfl, ?_⟩
    have hm0 : 0 < m := by simpa [hl] using hpos
    rcases hcs with h0 | ⟨b, off, rfl, hcell⟩
    · omega
    · refine ⟨_, rfl, fun j v hj => ?_⟩
      have hjz : j < zs.length := by
        have := (List.getElem?_eq_some_iff.1 hj).1
        simpa using this
      rw [Addr.add_lit, hcell j (by omega)]
      simpa [hjz] using hj
  · simp [hl]; omega
  · intro u hu
    obtain ⟨_, _, rfl⟩ := List.mem_map.1 hu
    rfl
  · intro w' hw hb
    have e : splice (ys.map (Value.int .i64)) 0 (zs.map (Value.int .i64)) = (zs ++ ys.drop m).map (Value.int .i64) := by
      simp [splice, hl]
    have hw2 := hw.out
    rw [e] at hw2
    have := h w' hw2 hb
    simpa [goInt, hl] using this

/-! ### rows by a function of the place -/
def tab (n : Nat) (h : Nat → Int) : List Int := (List.range n).map h
theorem tab_len (n : Nat) (h : Nat → Int) : (tab n h).length = n := by simp [tab]
theorem tab_at (n : Nat) (h : Nat → Int) (j : Nat) (hj : j < n) : (tab n h).getD j 0 = h j := by simp [tab, hj]
theorem tab_congr {n : Nat} {h h' : Nat → Int} (e : ∀ j, j < n → h j = h' j) : tab n h = tab n h' := by
  unfold tab
  apply List.map_congr_left
  intro j hj
  exact e j (List.mem_range.1 hj)
theorem tab_set (n : Nat) (h : Nat → Int) (i : Nat) (v : Int) : (tab n h).set i v = tab n (fun j => if j = i then v else h j) := by
  apply List.ext_getElem?
  intro j
  rw [List.getElem?_set]
  by_cases hj : j < n
  · by_cases e : i = j
    · subst e; simp [tab, hj]
    · rw [if_neg e]; simp [tab, hj, show ¬ j = i from fun x => e x.symm]
  · by_cases e : i = j
    · subst e; simp [tab, hj]
    · rw [if_neg e]; simp [tab, hj]
theorem tab_zero (n : Nat) : List.replicate n (0 : Int) = tab n (fun _ => 0) := by
  apply List.ext_getElem?
  intro j
  by_cases hj : j < n <;> simp [tab, hj]
theorem tab_of (xs : List Int) (n : Nat) (h : xs.length = n) : xs = tab n (fun j => xs.getD j 0) := by
  apply List.ext_getElem?
  intro j
  by_cases hj : j < n
  · simp [tab, hj, show j < xs.length by omega]
  · simp [tab, hj, show ¬ j < xs.length by omega]
theorem ext_tab {xs ys : List Int} (hl : xs.length = ys.length) (h : ∀ j, j < xs.length → xs.getD j 0 = ys.getD j 0) : xs = ys := by
  rw [tab_of xs _ rfl, tab_of ys xs.length hl.symm]
  exact tab_congr h
end Go.Proofs.YtdjifjlgllohmaaDoor
/- Contracts of the laws' own helpers: toInt64S, eqInt64S, markInt64S, heldInt64S. -/
namespace Go.Proofs.YtdjifjlgllohmaaDoor
open Go.RowKit
set_option linter.unusedVariables false
set_option linter.unusedSimpArgs false

theorem SL.at {w : World} {a : Option Addr} {n cap : Nat} {xs : List Int} (h : SL w a n cap xs) (hn : 0 < n) : ∃ b off, a = some ⟨b, off, none⟩ ∧ b < w.heap.size ∧ ∀ j, j < n → w.cell? ⟨b, off + j, none⟩ = some (.int .i64 (xs.getD j 0)) := by
  rcases h.2.2 with h0 | ⟨b, off, ha, hc⟩
  · omega
  · exact ⟨b, off, ha, World.block_lt_of_cell? w _ (hc 0 hn), hc⟩
theorem set_mix (xs : List Int) (n k : Nat) (hk : k < n) (hl : xs.length = n) : (xs.take k ++ List.replicate (n - k) 0).set k (xs.getD k 0) = xs.take (k + 1) ++ List.replicate (n - (k + 1)) 0 := by
  apply List.ext_getElem?
  intro i
  rw [List.getElem?_set]
  have h1 : (xs.take k).length = k := by simp; omega
  have h2 : (xs.take (k + 1)).length = k + 1 := by simp; omega
  by_cases hi : k = i
  · rw [← hi, if_pos rfl, if_pos (by simp; omega), List.getElem?_append_left (by omega), List.getElem?_take, if_pos (by omega), List.getElem?_eq_getElem (by omega)]
    simp [show k < xs.length by omega]
  · rw [if_neg hi]
    by_cases hlt : i < k
    · rw [List.getElem?_append_left (by omega), List.getElem?_append_left (by omega), List.getElem?_take, List.getElem?_take, if_pos hlt, if_pos (by omega)]
    · rw [List.getElem?_append_right (by omega), List.getElem?_append_right (by omega), List.getElem?_replicate, List.getElem?_replicate, h1, h2]
      by_cases hz : i < n
      · rw [if_pos (by omega), if_pos (by omega)]
      · rw [if_neg (by omega), if_neg (by omega)]
theorem mix_len (xs : List Int) (n k : Nat) (hk : k ≤ n) (hl : xs.length = n) : (xs.take k ++ List.replicate (n - k) 0).length = n := by simp; omega

set_option maxHeartbeats 800000 in
theorem toI (a : Option Addr) (n cap : Nat) (xs : List Int) (w : World) (hs : SL w a n cap xs) (hn : n ≤ 1048576) :
    Calls Tryd.prog 31 #[.slice a n cap] w fun e w' => ∃ a', e = .returned (.slice a' n n) ∧ Own w.heap.size w' a' n xs ∧ Below w.heap.size w w' := by
  have hl := hide hs.len
  by_cases h0 : n = 0
  · subst h0
    obtain rfl := hs.empty
    go_enter Tryd.func31, Tryd.ntmps31
    go_wp2_with (at_make; refine wp_make rfl _ _ rfl _ _ 0 rfl rfl rfl rfl (by omega) ?_; intro w1 hrow hb hsz)
    refine wp_loop_rounds 1 ?_
    rw [rounds_succ]
    go_wp2
    go_ret
    exact ⟨_, rfl, (hrow.out.own' (Nat.le_refl _) (by simp)), hb⟩
  obtain ⟨b, off, rfl, hbw, hcell⟩ := hs.at (by omega)
  go_enter Tryd.func31, Tryd.ntmps31
  go_wp2_with (at_make; refine wp_make rfl _ _ rfl _ _ n rfl rfl rfl rfl (by omega) ?_; intro w1 hrow hb hsz)
  go_loopw [4] (fun i wr => ∃ k : Nat, k ≤ n ∧ i = .int .i64 k ∧ Hid (RowI wr w.heap.size (xs.take k ++ List.replicate (n - k) 0)) ∧ Below w.heap.size w wr ∧ w.heap.size < wr.heap.size) (fun i _ => n - (intOf i).toNat)
  case atStart => exact ⟨0, by omega, rfl, by simpa using hrow, hb, hsz⟩
  case round =>
    obtain ⟨k, hk, rfl, hR, hbr, hsr⟩ := hrel
    clear hrow hb
    by_cases hlt : k < n
    · have hc : wr.cell? ⟨b, off + k, none⟩ = some (.int .i64 (xs.getD k 0)) := (hbr.cell (p := ⟨b, off + k, none⟩) hbw).trans (hcell k hlt)
      have hm := Lib.hid (mix_len xs n k hk hl.out)
      have hg : ∃ v, wr.cell? ⟨w.heap.size, k, none⟩ = some v := ⟨_, hR.out.cell k (by rw [hm.out]; exact hlt)⟩
      obtain ⟨v, hg⟩ := hg
      have hf := hR.out.free k
      have hset := Lib.hid (hR.out.set k (xs.getD k 0))
      clear hcell
      go_wp2
      go_roundw
      case rel => exact ⟨k + 1, by omega, by go_num, by
        have := hset.out
        rw [set_mix xs n k hlt hl.out] at this
        simpa using hide this, hbr.setCell (by simp) _, by simpa using hsr⟩
      case measure => simp [intOf]; omega
    · obtain rfl : k = n := by omega
      have ho : Own w.heap.size wr (some ⟨w.heap.size, 0, none⟩) k xs := by
        have h1 : xs.take k ++ List.replicate (k - k) 0 = xs := by rw [List.take_of_length_le (by rw [hl.out]; omega)]; simp
        have h2 := hR.out
        rw [h1] at h2
        have h3 := h2.own' (Nat.le_refl _) (by rw [hl.out]; unfold maxLen; omega)
        rwa [hl.out] at h3
      go_wp2
      go_ret
      exact ⟨_, rfl, ho, hbr⟩
set_option maxHeartbeats 800000 in
theorem eqI (a b : Option Addr) (n c d : Nat) (xs : List Int) (w : World) (h1 : SL w a n c xs) (h2 : SL w b n d xs) (hn : n ≤ 4000000) :
    Calls Tryd.prog 23 #[.slice a n c, .slice b n d] w fun e w' => e = .returned (.bool true) ∧ Below w.heap.size w w' := by
  by_cases h0 : n = 0
  · subst h0
    go_enter Tryd.func23, Tryd.ntmps23
    go_wp2
    refine wp_loop_rounds 1 ?_
    rw [rounds_succ]
    go_wp2
    go_ret
    exact ⟨rfl, Below.refl _ _⟩
  obtain ⟨b1, o1, rfl, hb1, hc1⟩ := h1.at (by omega)
  obtain ⟨b2, o2, rfl, hb2, hc2⟩ := h2.at (by omega)
  clear h1 h2
  go_enter Tryd.func23, Tryd.ntmps23
  go_wp2
  go_loopw [5] (fun i wr => ∃ k : Nat, k ≤ n ∧ i = .int .i64 k ∧ Below w.heap.size w wr) (fun i _ => n - (intOf i).toNat)
  case atStart => exact ⟨0, by omega, rfl, Below.refl _ _⟩
  case round =>
    obtain ⟨k, hk, rfl, hbr⟩ := hrel
    by_cases hlt : k < n
    · have e1 : wr.cell? ⟨b1, o1 + k, none⟩ = some (.int .i64 (xs.getD k 0)) := (hbr.cell (p := ⟨b1, o1 + k, none⟩) hb1).trans (hc1 k hlt)
      have e2 : wr.cell? ⟨b2, o2 + k, none⟩ = some (.int .i64 (xs.getD k 0)) := (hbr.cell (p := ⟨b2, o2 + k, none⟩) hb2).trans (hc2 k hlt)
      clear hc1 hc2
      have hlt' : (k : Int) < (n : Int) := by omega
      go_wp2
      go_quiet (fail)
      go_wp2
      go_roundw
      case rel => exact ⟨k + 1, by omega, by go_num, below_drewN hbr _⟩
      case measure => simp [intOf]; omega
    · obtain rfl : k = n := by omega
      go_wp2
      go_ret
      exact ⟨rfl, hbr⟩
def marks (k : Int) (n : Nat) : List Int := (List.range n).map (fun (j : Nat) => k + (j : Int))
theorem marks_len (k : Int) (n : Nat) : (marks k n).length = n := by simp [marks]
theorem marks_at (k : Int) (n j : Nat) (h : j < n) : (marks k n).getD j 0 = k + j := by simp [marks, h]
set_option maxHeartbeats 800000 in
theorem heldI (a : Option Addr) (n c : Nat) (k0 : Int) (w : World) (h1 : SL w a n c (marks k0 n)) (hn : n ≤ 4000000) (hk0 : 0 ≤ k0) (hk1 : k0 ≤ 1000000000000) :
    Calls Tryd.prog 25 #[.slice a n c, .int .i64 k0] w fun e w' => e = .returned (.int .i64 (k0 + n)) ∧ w = w' := by
  by_cases h0 : n = 0
  · subst h0
    go_enter Tryd.func25, Tryd.ntmps25
    go_wp2
    refine wp_loop_rounds 1 ?_
    rw [rounds_succ]
    go_wp2
    go_ret
    exact ⟨ret_int (by simp), rfl⟩
  obtain ⟨b1, o1, rfl, hb1, hc1⟩ := h1.at (by omega)
  clear h1
  go_enter Tryd.func25, Tryd.ntmps25
  go_wp2
  go_loop [1, 5] (fun q i => ∃ k : Nat, k ≤ n ∧ i = .int .i64 k ∧ q = .int .i64 (k0 + k)) (fun _ i => n - (intOf i).toNat)
  case atStart => exact ⟨0, by omega, rfl, by simp⟩
  case round =>
    obtain ⟨k, hk, rfl, rfl⟩ := hrel
    by_cases hlt : k < n
    · have e1 : w.cell? ⟨b1, o1 + k, none⟩ = some (.int .i64 (k0 + k)) := by rw [hc1 k hlt, marks_at _ _ _ hlt]
      clear hc1
      go_wp2
      go_round
      case rel => exact ⟨k + 1, by omega, by go_num, by go_num⟩
      case measure => simp [intOf]; omega
    · obtain rfl : k = n := by omega
      go_wp2
      go_ret
      exact ⟨rfl, rfl⟩
theorem grown_trans {a b c : World} {row : Option Nat} (h : a.grownBy b row) (k : b.grownBy c row) : a.grownBy c row :=
  ⟨k.os.trans h.os, k.tape.trans h.tape, k.output.trans h.output, Nat.le_trans h.size k.size, fun i hi hne => (k.block i (Nat.lt_of_lt_of_le hi h.size) hne).trans (h.block i hi hne)⟩
theorem grown_refl (a : World) (row : Option Nat) : a.grownBy a row := ⟨rfl, rfl, rfl, Nat.le_refl _, fun _ _ _ => rfl⟩
theorem set_marks (k0 : Int) (ys : List Int) (k : Nat) (hk : k < ys.length) : (marks k0 k ++ ys.drop k).set k (k0 + k) = marks k0 (k + 1) ++ ys.drop (k + 1) := by
  apply List.ext_getElem?
  intro i
  rw [List.getElem?_set]
  have h1 : (marks k0 k).length = k := marks_len _ _
  have h2 : (marks k0 (k + 1)).length = k + 1 := marks_len _ _
  by_cases hi : k = i
  · rw [← hi, if_pos rfl, if_pos (by simp [h1]; omega), List.getElem?_append_left (by omega)]
    simp [marks]
  · rw [if_neg hi]
    by_cases hlt : i < k
    · rw [List.getElem?_append_left (by omega), List.getElem?_append_left (by omega)]
      simp [marks, hlt, show i < k + 1 by omega]
    · rw [List.getElem?_append_right (by omega), List.getElem?_append_right (by omega), List.getElem?_drop, List.getElem?_drop, h1, h2]
      congr 1
      omega
/-- The block that a slice value lies in. -/
def blk : Option Addr → Option Nat
  | some a => some a.block
  | none => none
set_option maxHeartbeats 800000 in
theorem markI (B : Nat) (a : Option Addr) (n c : Nat) (ys : List Int) (k0 : Int) (w : World) (h1 : Own B w a c ys) (hl : n = ys.length) (hn : n ≤ 4000000) (hk0 : 0 ≤ k0) (hk1 : k0 ≤ 1000000000000) :
    Calls Tryd.prog 24 #[.slice a n c, .int .i64 k0] w fun e w' => e = .returned (.int .i64 (k0 + n)) ∧ Own B w' a c (marks k0 n) ∧ w.grownBy w' (blk a) := by
  by_cases h0 : n = 0
  · have hy : ys = [] := List.eq_nil_of_length_eq_zero (by omega)
    subst hy
    subst h0
    clear hl
    go_enter Tryd.func24, Tryd.ntmps24
    go_wp2
    refine wp_loop_rounds 1 ?_
    rw [rounds_succ]
    go_wp2
    go_ret
    exact ⟨ret_int (by simp), h1, grown_refl _ _⟩
  have hH := hide hl
  clear hl
  rcases h1.shape with ⟨rfl, rfl, rfl⟩ | ⟨g, cur, rfl, hBg, hg, hyc, hcm, hcs, htk⟩
  · exact absurd hH.out (by simpa using h0)
  have hown : w.ownsRow B 2 1 (.slice (some ⟨g, 0, none⟩) n c) n (ys.map (Value.int .i64)) := by have := h1; unfold Own at this; rwa [← hH.out] at this
  clear h1 hg hcs htk hyc hcm
  go_enter Tryd.func24, Tryd.ntmps24
  go_wp2
  go_loopw [1, 5] (fun q i wr => ∃ k : Nat, k ≤ n ∧ i = .int .i64 k ∧ q = .int .i64 (k0 + k) ∧ Hid (wr.ownsRow B 2 1 (.slice (some ⟨g, 0, none⟩) n c) n ((marks k0 k ++ ys.drop k).map (Value.int .i64))) ∧ w.grownBy wr (some g)) (fun _ i _ => n - (intOf i).toNat)
  case atStart => exact ⟨0, by omega, rfl, by simp, by simpa [marks] using hide hown, grown_refl _ _⟩
  case round =>
    obtain ⟨k, hk, rfl, rfl, hR, hgr⟩ := hrel
    clear hown
    by_cases hlt : k < n
    · have hm : (marks k0 k ++ ys.drop k).length = n := by simp [marks]; have := hH.out; omega
      have hcx : ∃ v, wr.cell? ⟨g, k, none⟩ = some v := by
        rw [hR.out.cellAt k (by omega)]
        exact ⟨_, List.getElem?_eq_getElem (by simp [marks]; have := hH.out; omega)⟩
      obtain ⟨v, hcx⟩ := hcx
      have hf := hR.out.frozenAt k
      have hset := Lib.hid (hR.out.stored k (.int .i64 (k0 + k)))
      clear hm
      go_wp2
      go_roundw
      case rel => exact ⟨k + 1, by omega, by go_num, by go_num, by
        have := hset.out.1
        rw [← List.map_set, set_marks k0 ys k (by have := hH.out; omega)] at this
        exact this, grown_trans hgr hset.out.2⟩
      case measure => simp [intOf]; omega
    · obtain rfl : k = n := by omega
      have hfin : Own B wr (some ⟨g, 0, none⟩) c (marks k0 k) := by
        unfold Own
        rw [marks_len]
        have := hR.out
        rwa [List.drop_of_length_le (by have := hH.out; omega), List.append_nil] at this
      go_wp2
      go_ret
      exact ⟨rfl, hfin, hgr⟩
end Go.Proofs.YtdjifjlgllohmaaDoor
