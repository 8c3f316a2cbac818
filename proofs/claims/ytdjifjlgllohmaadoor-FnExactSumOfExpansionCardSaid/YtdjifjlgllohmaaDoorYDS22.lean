/- Merged texts. -/
import Derived.Test.YtdjifjlgllohmaaDoorYDS20
import Derived.Test.YtdjifjlgllohmaaDoorYDS21
import Derived.Test.YtdjifjlgllohmaaDoorYDS9
/- Rows of slices that are written: a matrix as a slice of rows; slices.Clone at [][]int64. -/
namespace Go.Proofs.YtdjifjlgllohmaaDoor
open Go.RowKit
set_option linter.unusedVariables false
set_option linter.unusedSimpArgs false

theorem SL.otherG {w : World} {a : Option Addr} {n c g j : Nat} {xs : List Int} (h : SL w a n c xs) (hne : blk a ≠ some g) (u : Value) : SL (w.setCell ⟨g, j, none⟩ u) a n c xs := by
  obtain ⟨h1, h2, h3⟩ := h
  refine ⟨h1, h2, ?_⟩
  rcases h3 with h3 | ⟨b, off, rfl, hc⟩
  · exact .inl h3
  · refine .inr ⟨b, off, rfl, fun i hi => cell_set2 (hc i hi) (fun e => hne ?_) u⟩
    simp [blk] at e ⊢
    exact e.symm
theorem OwnV.cellG {B g c : Nat} {w : World} {vs : List Value} (h : OwnV B w (some ⟨g, 0, none⟩) c vs) (j : Nat) (hj : j < vs.length) : w.cell? ⟨g, j, none⟩ = vs[j]? := World.ownsRow.cellAt h j (by omega)
theorem OwnV.freeG {B g c : Nat} {w : World} {vs : List Value} (h : OwnV B w (some ⟨g, 0, none⟩) c vs) (j : Nat) : w.frozen? ⟨g, j, none⟩ = false := World.ownsRow.frozenAt h j
theorem OwnV.setG {B g c : Nat} {w : World} {vs : List Value} (h : OwnV B w (some ⟨g, 0, none⟩) c vs) (j : Nat) (u : Value) : OwnV B (w.setCell ⟨g, j, none⟩ u) (some ⟨g, 0, none⟩) c (vs.set j u) := by
  have := (World.ownsRow.stored h j u).1
  unfold OwnV
  rw [List.length_set]
  exact this
theorem OwnV.lt {B g c : Nat} {w : World} {vs : List Value} (h : OwnV B w (some ⟨g, 0, none⟩) c vs) (h0 : vs.length ≠ 0) : B ≤ g ∧ g < w.heap.size := by
  rcases h.2 with ⟨_, h2⟩ | ⟨g', c', cur, h1, h2, h3, _⟩
  · exact absurd h2 h0
  · simp only [Value.slice.injEq, Option.some.injEq, Addr.mk.injEq, and_true] at h1
    obtain ⟨rfl, _, _⟩ := h1
    exact ⟨h2, lt_of_block h3⟩
theorem OwnV.mono {B B' : Nat} {w : World} {a : Option Addr} {c : Nat} {vs : List Value} (h : OwnV B w a c vs) (hB : B' ≤ B) : OwnV B' w a c vs := by
  refine ⟨h.1, ?_⟩
  rcases h.2 with h' | ⟨g, c, cur, h1, h2, h3⟩
  · exact .inl h'
  · exact .inr ⟨g, c, cur, h1, Nat.le_trans hB h2, h3⟩
/-- A matrix: m rows of n numbers each, the slices of which lie in block g, and the rows in other blocks. -/
structure RowsX (B g n cap : Nat) (w : World) (vs : List Value) (X : Nat → List Int) (m : Nat) : Prop where
  own : OwnV B w (some ⟨g, 0, none⟩) cap vs
  len : vs.length = m
  le : m ≤ cap
  row : ∀ i, i < m → ∃ a c, vs[i]? = some (.slice a n c) ∧ SL w a n c (X i) ∧ blk a ≠ some g
theorem RowsX.below {B g n cap m : Nat} {w w' : World} {vs : List Value} {X : Nat → List Int} (h : RowsX B g n cap w vs X m) (hb : Below w.heap.size w w') : RowsX B g n cap w' vs X m :=
  ⟨h.own.below hb, h.len, h.le, fun i hi => by obtain ⟨a, c, h1, h2, h3⟩ := h.row i hi; exact ⟨a, c, h1, h2.below hb, h3⟩⟩
theorem RowsX.put {B g n cap m : Nat} {w : World} {vs : List Value} {X Y : Nat → List Int} (h : RowsX B g n cap w vs X m) (i : Nat) {a : Option Addr} {c : Nat} (hi : i < m) (hs : SL w a n c (Y i)) (hg : blk a ≠ some g) (hY : ∀ k, k < m → k ≠ i → Y k = X k) :
    RowsX B g n cap (w.setCell ⟨g, i, none⟩ (.slice a n c)) (vs.set i (.slice a n c)) Y m := by
  refine ⟨h.own.setG i _, by rw [List.length_set, h.len], h.le, fun k hk => ?_⟩
  by_cases e : k = i
  · subst e
    exact ⟨a, c, by simp [h.len, hk], hs.otherG hg _, hg⟩
  · obtain ⟨a', c', h1, h2, h3⟩ := h.row k hk
    refine ⟨a', c', ?_, ?_, h3⟩
    · rw [List.getElem?_set_ne (fun x => e x.symm)]; exact h1
    · rw [hY k hk e]; exact h2.otherG h3 _
theorem RowsX.congr {B g n cap m : Nat} {w : World} {vs : List Value} {X Y : Nat → List Int} (h : RowsX B g n cap w vs X m) (hY : ∀ k, k < m → Y k = X k) : RowsX B g n cap w vs Y m :=
  ⟨h.own, h.len, h.le, fun i hi => by rw [hY i hi]; exact h.row i hi⟩
theorem RowsX.get {B g n cap m : Nat} {w : World} {vs : List Value} {X : Nat → List Int} (h : RowsX B g n cap w vs X m) (i : Nat) (hi : i < m) : ∃ a c, w.cell? ⟨g, i, none⟩ = some (.slice a n c) ∧ SL w a n c (X i) ∧ blk a ≠ some g ∧ w.frozen? ⟨g, i, none⟩ = false := by
  obtain ⟨a, c, h1, h2, h3⟩ := h.row i hi
  exact ⟨a, c, by rw [h.own.cellG i (by rw [h.len]; exact hi), h1], h2, h3, h.own.freeG i⟩
set_option maxRecDepth 100000 in
theorem wp_appendV {w : World} {ops : Array Oper} {rest : List Oper} {o : Oper} {a : Act} {Q : Exit → Act → World → Prop}
    (hgd : o.guard = none) (s x : Operand) (ho : o.op = .call { callee := .builtin .append, args := #[s, x], argTypes := #[55, 55] })
    (B : Nat) (ad : Option Addr) (n cap : Nat) (ys : List Value) (hs : a.eval s = .slice ad n cap) (hn : n = ys.length) (hown : OwnV B w ad cap ys)
    (p : Addr) (m c : Nat) (zs : List Value) (hx : a.eval x = .slice (some p) m c) (hl : zs.length = m) (hz : ∀ j u, zs[j]? = some u → w.cell? (p.add j) = some u) (h1 : ∀ u ∈ zs, u.oneCell' = true) (hmax : n + m ≤ 4000000) (hB : B ≤ w.heap.size)
    (hK : ∀ ad' cap' w', OwnV B w' ad' cap' (ys ++ zs) → Below B w w' → wpList Tryd.prog ops Q rest (a.put o.dst (.slice ad' (ys ++ zs).length cap')) w') :
    wpList Tryd.prog ops Q (o :: rest) a w := by
  subst hn
  obtain ⟨i0, hi, hz0, hz1, hz2⟩ := info_parts infoS
  refine wpList_append_own w hgd s x 55 ho B 22 i0 (.slice none 0 0) 1 24 Tryd.underlying55 hi hz0 hz1 hz2 rfl (by decide) _ _ _ hs hown p m c zs hx (by simpa using hl) hz h1 (by unfold maxLen; omega) (by omega) hB ?_
  intro v' w1 hown' hgrow _
  have hb : Below B w w1 := (Below.refl _ _).grown hgrow hB (fun k hk => by
    have := (World.ownsRow.lt hown k hk).1
    exact this)
  have hv : ∃ ad' cap', v' = .slice ad' (ys ++ zs).length cap' := by
    rcases hown'.2 with ⟨h1, h2⟩ | ⟨g, c', cur, h1, h2⟩
    · exact ⟨none, 0, by rw [h1]; congr 1; simp; omega⟩
    · exact ⟨_, c', by rw [h1]; congr 1; simp; omega⟩
  obtain ⟨ad', cap', rfl⟩ := hv
  refine hK ad' cap' w1 ?_ hb
  unfold OwnV
  have e : (ys ++ zs).length = ys.length + m := by simp; omega
  rw [e] at hown' ⊢
  exact hown'
end Go.Proofs.YtdjifjlgllohmaaDoor
/- Contracts: slices.Clone at lists, slices.IndexFunc with the pivot's closure, eliminate (program). -/
namespace Go.Proofs.YtdjifjlgllohmaaDoor
open Go.RowKit
set_option linter.unusedVariables false
set_option linter.unusedSimpArgs false

set_option maxRecDepth 100000 in
set_option maxHeartbeats 800000 in
theorem cloneV_any (g0 n m cap0 : Nat) (X : Nat → List Int) (w : World) (hc : ∀ i, i < m → ∃ a c, w.cell? ⟨g0, i, none⟩ = some (.slice a n c) ∧ SL w a n c (X i)) (hm : m ≤ 1000) (hn : 1 ≤ n) :
    Calls Tryd.prog 119 #[.slice (some ⟨g0, 0, none⟩) m cap0] w fun e w' => ∃ ad cap vs, e = .returned (.slice ad m cap) ∧ OwnV w.heap.size w' ad cap vs ∧ vs.length = m ∧ (∀ i, i < m → ∃ a c, vs[i]? = some (.slice a n c) ∧ SL w' a n c (X i) ∧ ∀ b, blk a = some b → b < w.heap.size) ∧ Below w.heap.size w w' := by
  have hq := fun w => Lib.run_eql_slice_nil (P := Tryd.prog) w 55 22 (some ⟨g0, 0, none⟩) m cap0 0 0 Tryd.underlying55
  have hvs : ∃ vs : List Value, vs.length = m ∧ (∀ i, i < m → ∃ a c, vs[i]? = some (.slice a n c) ∧ w.cell? ⟨g0, i, none⟩ = some (.slice a n c) ∧ SL w a n c (X i)) := by
    refine ⟨(List.range m).map (fun i => (w.cell? ⟨g0, i, none⟩).getD undef), by simp, fun i hi => ?_⟩
    obtain ⟨a, c, h1, h2⟩ := hc i hi
    exact ⟨a, c, by simp [hi, h1], h1, h2⟩
  obtain ⟨vs, hl, hv⟩ := hvs
  have Hv := hide hv
  have Hl := hide hl
  have hb1 := bl1 w (.cells #[] 22)
  have ho : OwnV w.heap.size (w.alloc (.cells #[] 22)) (some ⟨w.heap.size, 0, none⟩) 0 [] := World.ownsRow_lit w (base := w.heap.size) (e := 22) (size := 1) #[] 0 (Nat.le_refl _) (by simp) rfl
  have hz : ∀ j u, vs[j]? = some u → (w.alloc (.cells #[] 22)).cell? ((⟨g0, 0, none⟩ : Addr).add j) = some u := fun j u hj => by
    have hj' : j < m := by have := (List.getElem?_eq_some_iff.1 hj).1; omega
    obtain ⟨a, c, h1, h2, _⟩ := hv j hj'
    rw [h1] at hj
    cases hj
    rw [Addr.add_lit, Nat.zero_add]
    exact cell_be hb1 h2
  have h1 : ∀ u ∈ vs, u.oneCell' = true := fun u hu => by
    obtain ⟨i, hi, rfl⟩ := List.mem_iff_getElem.1 hu
    obtain ⟨a, c, h1, _⟩ := hv i (by omega)
    rw [List.getElem?_eq_getElem hi] at h1
    rw [Option.some.inj h1]
    rfl
  have Hz := hide hz
  have H1 := hide h1
  clear hv hl hz h1 hc
  go_enter Tryd.func119, Tryd.ntmps119
  go_wp2_with (at_builtin; refine wp_appendV rfl _ _ rfl w.heap.size _ _ _ [] rfl rfl ho _ m cap0 vs rfl Hl.out Hz.out H1.out (by omega) (by simp) ?_; intro ad' cap' w1 hown hb; simp only [List.nil_append] at hown)
  refine bodyPost_ret (v := .slice ad' vs.length cap') (by simp [results, Tryd.results119]) rfl ?_
  have hB := hb1.trans hb
  exact ⟨ad', ⟨cap', ⟨vs, by rw [Hl.out], hown, Hl.out, (fun i hi => by
    obtain ⟨a, c, h1, h2, h3⟩ := Hv.out i hi
    refine ⟨a, c, h1, h3.below hB, fun b hb' => ?_⟩
    obtain ⟨bb, oo, rfl, hw, _⟩ := h3.at (by omega)
    simp [blk] at hb'
    omega), hB⟩⟩⟩
set_option maxRecDepth 100000 in
set_option maxHeartbeats 800000 in
theorem pivot_any (a : Option Addr) (n c k : Nat) (xs : List Int) (x : Int) (kb : Nat) (w : World) (hs : SL w a n c xs) (hk : w.cell? ⟨kb, 0, none⟩ = some (.int .i64 k)) (hkn : k < n) (hn : n ≤ 1000) (hx : xs.getD k 0 = x) :
    Calls Tryd.prog 121 #[.slice a n c, .pointer (some ⟨kb, 0, none⟩)] w fun e w' => e = .returned (.bool (x != 0)) ∧ w = w' := by
  obtain ⟨b, off, rfl, hbw, hcell⟩ := hs.at (by omega)
  have e1 := hcell k hkn
  rw [hx] at e1
  have hlt : (k : Int) < (n : Int) := by omega
  clear hcell hs hx
  go_enter Tryd.func121, Tryd.ntmps121
  go_wp2
  go_ret
  exact ⟨rfl, rfl⟩
set_option maxRecDepth 100000 in
set_option maxHeartbeats 1600000 in
theorem indexFunc_any (B g n cap : Nat) (vs : List Value) (X : Nat → List Int) (k kb : Nat) (w : World) (h : RowsX B g n cap w vs X n) (hk : w.cell? ⟨kb, 0, none⟩ = some (.int .i64 k)) (hkn : k < n) (hn : n ≤ 1000) :
    Calls Tryd.prog 120 #[.slice (some ⟨g, k, none⟩) (n - k) (cap - k), .func (.func 121) #[] #[.pointer (some ⟨kb, 0, none⟩)]] w
      fun e w' => ∃ r : Int, e = .returned (.int .i64 r) ∧ ((pivF X k (n - k) k = n ∧ r = -1) ∨ (∃ j : Nat, pivF X k (n - k) k = k + j ∧ r = j ∧ k + j < n)) ∧ w = w' := by
  have H := hide h
  obtain ⟨m, hm⟩ : ∃ m, m = n - k := ⟨_, rfl⟩
  rw [← hm]
  have Hm := hide (show k + m = n by omega)
  have hm9 : m ≤ 1000 := by omega
  have hz0 : Hid (∀ i, k ≤ i → i < k + 0 → (X i).getD k 0 = 0) := hide (fun i h1 h2 => by omega)
  clear h hm
  go_enter Tryd.func120, Tryd.ntmps120
  go_wp2
  go_loop [8] (fun iv => ∃ j : Nat, j ≤ m ∧ iv = .int .i64 j ∧ Hid (∀ i, k ≤ i → i < k + j → (X i).getD k 0 = 0)) (fun iv => m - (intOf iv).toNat)
  case atStart => exact ⟨0, by omega, rfl, hz0⟩
  case round =>
    obtain ⟨j, hj, rfl, hZ⟩ := hrel
    clear hz0
    by_cases hlt : j < m
    · obtain ⟨a, c, e1, s1, _, _⟩ := H.out.get (k + j) (by have := Hm.out; omega)
      obtain ⟨x, hx⟩ : ∃ x, (X (k + j)).getD k 0 = x := ⟨_, rfl⟩
      have HX := hide hx
      clear hx
      have hlt' : (j : Int) < (m : Int) := by omega
      by_cases hz : x = 0
      · subst hz
        go_wp2_with fail
        refine (pivot_any _ _ _ k _ 0 kb _ s1 hk hkn hn HX.out).mono ?_
        rintro e w2 ⟨rfl, rfl⟩
        go_wp2
        go_round
        case rel => exact ⟨j + 1, by omega, by go_num, hide (fun i h1 h2 => by
          by_cases e : i = k + j
          · rw [e]; exact HX.out
          · exact hZ.out i h1 (by omega))⟩
        case measure => simp [intOf]; omega
      · have ob : (x != 0) = true := by simpa using hz
        have hp : Hid (pivF X k m k = k + j) := hide (pivF_stop X k m k j hlt hZ.out (by rw [HX.out]; exact hz))
        clear hz
        go_wp2_with fail
        refine (pivot_any _ _ _ k _ x kb _ s1 hk hkn hn HX.out).mono ?_
        rintro e w2 ⟨rfl, rfl⟩
        go_wp2
        refine bodyPost_ret (v := .int .i64 (j : Int)) (by simp [results, Tryd.results120]) rfl ?_
        exact ⟨_, rfl, .inr ⟨j, hp.out, rfl, by have := Hm.out; omega⟩, rfl⟩
    · have hjm : j = m := by omega
      have hp : Hid (pivF X k m k = n) := hide (by rw [pivF_skip X k m k (fun i h1 h2 => hZ.out i h1 (by omega))]; exact Hm.out)
      have hge : ¬ (j : Int) < (m : Int) := by omega
      clear hjm
      go_wp2
      refine bodyPost_ret (v := .int .i64 (-1)) (by simp [results, Tryd.results120]) rfl ?_
      exact ⟨_, rfl, .inl ⟨hp.out, rfl⟩, rfl⟩
end Go.Proofs.YtdjifjlgllohmaaDoor
