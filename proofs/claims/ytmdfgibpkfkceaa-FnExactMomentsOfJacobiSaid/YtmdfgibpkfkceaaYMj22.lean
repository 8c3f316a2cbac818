/- Merged texts. -/
import Derived.Test.YtmdfgibpkfkceaaYMj21
/- zeroMatrix (program): a matrix whose rows are parts of one list. -/
namespace Go.Proofs.Ytmdfgibpkfkceaa
open Go.RowKit
set_option linter.unusedVariables false
set_option linter.unusedSimpArgs false

/-- A row of slices known whole. -/
def RowS (w : World) (g : Nat) (vs : List Value) : Prop := w.heap[g]? = some (.cells vs.toArray 24 (0, 0))
theorem RowS.lt {w : World} {g : Nat} {vs : List Value} (h : RowS w g vs) : g < w.heap.size := lt_of_block h
theorem RowS.cell {w : World} {g : Nat} {vs : List Value} (h : RowS w g vs) (j : Nat) : w.cell? ⟨g, j, none⟩ = vs[j]? := by
  rw [cell_of_row w g j _ _ (0, 0) h]
  simp
theorem RowS.free {w : World} {g : Nat} {vs : List Value} (h : RowS w g vs) (j : Nat) : w.frozen? ⟨g, j, none⟩ = false := frozen_of_row w g j _ _ h
theorem RowS.set {w : World} {g : Nat} {vs : List Value} (h : RowS w g vs) (j : Nat) (u : Value) : RowS (w.setCell ⟨g, j, none⟩ u) g (vs.set j u) := by
  unfold RowS
  rw [heap_setCell_same w g j _ _ _ h]
  simp
theorem RowS.below {w w' : World} {B g : Nat} {vs : List Value} (h : RowS w g vs) (hb : Below B w w') (hg : g < B) : RowS w' g vs := (hb.block g hg).trans h
theorem RowS.next {w w' : World} {g : Nat} {vs : List Value} (h : RowS w g vs) (hb : Below w.heap.size w w') : RowS w' g vs := h.below hb h.lt
theorem RowS.other {w : World} {g b j : Nat} {vs : List Value} (h : RowS w g vs) (hne : b ≠ g) (u : Value) : RowS (w.setCell ⟨b, j, none⟩ u) g vs := by
  unfold RowS
  rw [Below.heap_setCell _ _ _ _ (fun e => hne e.symm)]
  exact h
def zrowZ (n : Nat) : Array Value := (List.replicate n (Value.slice none 0 0)).toArray
set_option maxRecDepth 100000 in
theorem run_mkZ (n : Nat) (hn : n ≤ 4000000) : ∀ W : World, (Instr.makeSlice 22 (.int .i64 (n : Int)) (.int .i64 (n : Int))).run Try.prog W = .ok (.slice (some ⟨W.heap.size, 0, none⟩) n n) (W.alloc (.cells (zrowZ n) 24)) := by
  intro W
  obtain ⟨i0, hi, hz0, hz1, hz2⟩ := info_parts infoS
  have hr := run_make (P := Try.prog) W 22 24 i0 (.slice none 0 0) Try.underlying22 hi hz0 .i64 .i64 n n (by omega) (by omega) (by rw [hz2]; omega) (by omega)
  simp only [Int.toNat_natCast] at hr
  rw [hr, hz1, Nat.mul_one]
  congr 2
  have e : madeCells (Value.slice none 0 0).cells n = zrowZ n := by
    have : (madeCells (Value.slice none 0 0).cells n).toList = (zrowZ n).toList := by
      rw [Value.cells.eq_def]
      simp [toList_madeCells_one, zrowZ]
    exact Array.toList_inj.1 this
  rw [e]
theorem zrowZ_row (W : World) (n : Nat) : RowS (W.alloc (.cells (zrowZ n) 24)) W.heap.size (List.replicate n (Value.slice none 0 0)) := heap_alloc_new W _
/-- The first k rows of a matrix of n rows, which lie one behind the other in block L. -/
def mrows (L n k : Nat) : List Value := (List.range n).map fun i => if i < k then Value.slice (some ⟨L, i * n, none⟩) n n else .slice none 0 0
theorem mrows_len (L n k : Nat) : (mrows L n k).length = n := by simp [mrows]
theorem mrows_zero (L n : Nat) : List.replicate n (Value.slice none 0 0) = mrows L n 0 := by
  apply List.ext_getElem
  · simp [mrows]
  · intro i h1 h2
    simp [mrows]
theorem mrows_set (L n k : Nat) : (mrows L n k).set k (Value.slice (some ⟨L, k * n, none⟩) n n) = mrows L n (k + 1) := by
  apply List.ext_getElem
  · simp [mrows]
  · intro i h1 h2
    rw [List.getElem_set]
    by_cases e : k = i
    · subst e
      simp [mrows]
    · rw [if_neg e]
      simp only [mrows, List.getElem_map, List.getElem_range]
      by_cases h : i < k
      · rw [if_pos h, if_pos (by omega)]
      · rw [if_neg h, if_neg (by omega)]
theorem mrows_at (L n i : Nat) (h : i < n) : (mrows L n n)[i]? = some (Value.slice (some ⟨L, i * n, none⟩) n n) := by
  simp [mrows, h]
/-- A matrix of n rows of n numbers in block L, whose slices lie in block g. -/
structure MatW (w : World) (L g n : Nat) (Y : List Int) : Prop where
  row : RowI w L Y
  len : Y.length = n * n
  sl : RowS w g (mrows L n n)
  ne : L ≠ g
theorem MatW.below {w w' : World} {B L g n : Nat} {Y : List Int} (h : MatW w L g n Y) (hb : Below B w w') (h1 : L < B) (h2 : g < B) : MatW w' L g n Y :=
  ⟨h.row.below hb h1, h.len, h.sl.below hb h2, h.ne⟩
theorem MatW.next {w w' : World} {L g n : Nat} {Y : List Int} (h : MatW w L g n Y) (hb : Below w.heap.size w w') : MatW w' L g n Y :=
  h.below hb h.row.lt h.sl.lt
theorem MatW.cell {w : World} {L g n : Nat} {Y : List Int} (h : MatW w L g n Y) (i : Nat) (hi : i < n) : w.cell? ⟨g, i, none⟩ = some (Value.slice (some ⟨L, i * n, none⟩) n n) := by
  rw [h.sl.cell, mrows_at _ _ _ hi]
theorem mat_lt {n i j : Nat} (hi : i < n) (hj : j < n) : i * n + j < n * n := by
  have : (i + 1) * n ≤ n * n := Nat.mul_le_mul_right n (by omega)
  rw [Nat.add_mul] at this
  omega
theorem MatW.num {w : World} {L g n : Nat} {Y : List Int} (h : MatW w L g n Y) (i j : Nat) (hi : i < n) (hj : j < n) : w.cell? ⟨L, i * n + j, none⟩ = some (.int .i64 (Y.getD (i * n + j) 0)) :=
  h.row.cell _ (by rw [h.len]; exact mat_lt hi hj)
theorem MatW.free {w : World} {L g n : Nat} {Y : List Int} (h : MatW w L g n Y) (k : Nat) : w.frozen? ⟨L, k, none⟩ = false := h.row.free k
theorem MatW.set {w : World} {L g n : Nat} {Y : List Int} (h : MatW w L g n Y) (k : Nat) (u : Int) : MatW (w.setCell ⟨L, k, none⟩ (.int .i64 u)) L g n (Y.set k u) :=
  ⟨h.row.set k u, by rw [List.length_set]; exact h.len, h.sl.other h.ne _, h.ne⟩
/-- Row i of the matrix. -/
def rowM (n : Nat) (Y : List Int) (i : Nat) : List Int := tab n (fun j => Y.getD (i * n + j) 0)
theorem MatW.slr {w : World} {L g n : Nat} {Y : List Int} (h : MatW w L g n Y) (i : Nat) (hi : i < n) : SL w (some ⟨L, i * n, none⟩) n n (rowM n Y i) :=
  ⟨tab_len _ _, ⟨Nat.le_refl _, by simp⟩, .inr ⟨L, i * n, rfl, fun j hj => by rw [h.num i j hi hj]; unfold rowM; rw [tab_at _ _ _ hj]⟩⟩
set_option maxRecDepth 100000 in
set_option maxHeartbeats 1600000 in
theorem zeroMatrix_any (n : Nat) (w : World) (hn : n ≤ 1000) :
    Calls Try.prog 112 #[.int .i64 n] w fun e w' => e = .returned (.slice (some ⟨w.heap.size + 1, 0, none⟩) n n) ∧ MatW w' w.heap.size (w.heap.size + 1) n (tab (n * n) (fun _ => 0)) ∧ Below w.heap.size w w' := by
  obtain ⟨NN, hNN⟩ : ∃ NN, n * n = NN := ⟨_, rfl⟩
  have HNN := hide hNN
  have hNl : NN ≤ 1000000 := by rw [← hNN]; exact Nat.mul_le_mul hn hn
  have v0 : IntKind.i64.wrap ((n : Int) * (n : Int)) = (NN : Int) := by
    rw [show (n : Int) * (n : Int) = (NN : Int) by rw [← hNN]; simp]; exact IntWalk.i64_in _ (by omega)
  have k1 := run_mk NN (by omega)
  have k2 := run_mkZ n (by omega)
  have hb0 := bl2 w (.cells (zrow NN) 2) (.cells (zrowZ n) 24)
  have hR0 : RowI ((w.alloc (.cells (zrow NN) 2)).alloc (.cells (zrowZ n) 24)) w.heap.size (tab NN (fun _ => 0)) := (zrow_row w NN).next (bl1 _ _)
  have hS0 : RowS ((w.alloc (.cells (zrow NN) 2)).alloc (.cells (zrowZ n) 24)) (w.heap.size + 1) (mrows w.heap.size n 0) := by
    have := zrowZ_row (w.alloc (.cells (zrow NN) 2)) n
    rw [mrows_zero w.heap.size] at this
    simpa using this
  have HR0 := hide hR0
  have HS0 := hide hS0
  clear hR0 hS0 hNN
  go_enter Try.func112, Try.ntmps112
  go_wp2
  clear v0 k1 k2
  go_loopw [14] (fun iv wr => ∃ i : Nat, i ≤ n ∧ iv = .int .i64 i ∧ Hid (RowI wr w.heap.size (tab NN (fun _ => 0))) ∧ Hid (RowS wr (w.heap.size + 1) (mrows w.heap.size n i)) ∧ Below w.heap.size w wr) (fun iv _ => n - (intOf iv).toNat)
  case atStart => exact ⟨0, by omega, rfl, HR0, HS0, hb0⟩
  case round =>
    obtain ⟨i, hi, rfl, hR, hS, hBr⟩ := hrel
    clear HR0 HS0 hb0
    by_cases hlt : i < n
    · obtain ⟨P, hP⟩ : ∃ P, i * n = P := ⟨_, rfl⟩
      have hQ : P + n ≤ NN := by rw [← hP, ← HNN.out]; have := mat_lt (j := n - 1) hlt (by omega); omega
      have v1 : IntKind.i64.wrap ((i : Int) * (n : Int)) = (P : Int) := by
        rw [show (i : Int) * (n : Int) = (P : Int) by rw [← hP]; simp]; exact IntWalk.i64_in _ (by omega)
      have v2 : IntKind.i64.wrap ((i : Int) + 1) = (i : Int) + 1 := IntWalk.i64_in _ (by omega)
      have v3 : IntKind.i64.wrap (((i : Int) + 1) * (n : Int)) = ((P + n : Nat) : Int) := by
        rw [show ((i : Int) + 1) * (n : Int) = ((P + n : Nat) : Int) by rw [Int.add_mul, ← hP]; simp]; exact IntWalk.i64_in _ (by omega)
      obtain ⟨Q, hQd⟩ : ∃ Q, P + n = Q := ⟨_, rfl⟩
      rw [hQd] at v3 hQ
      have q1 : (P : Int) ≤ (Q : Int) := by omega
      have q2 : (Q : Int) ≤ (NN : Int) := by omega
      have q3 : (0 : Int) ≤ (P : Int) := by omega
      have q4 : (0 : Int) ≤ (Q : Int) := by omega
      have q5 : ¬ P = Q := by omega
      have q6 : Q - P = n := by omega
      have q7 : (i : Int) < (n : Int) := by omega
      have hfr := hS.out.free i
      have hcl : wr.cell? ⟨w.heap.size + 1, i, none⟩ = some (.slice none 0 0) := by rw [hS.out.cell]; simp [mrows, hlt]
      have hst := hS.out.set i (Value.slice (some ⟨w.heap.size, P, none⟩) n n)
      rw [← hP, mrows_set, hP] at hst
      have Hst := hide hst
      have Hrw := hide (hR.out.other (b := w.heap.size + 1) (j := i) (by omega) (Value.slice (some ⟨w.heap.size, P, none⟩) n n))
      have hBn := hBr.setCell (p := ⟨w.heap.size + 1, i, none⟩) (by simp) (Value.slice (some ⟨w.heap.size, P, none⟩) n n)
      clear hst hS hR hP hQd
      go_wp2
      go_roundw
      case rel => exact ⟨i + 1, by omega, by go_num, Hrw, Hst, hBn⟩
      case measure => simp [intOf]; omega
    · obtain rfl : i = n := by omega
      go_wp2
      go_ret
      exact ⟨rfl, ⟨by rw [HNN.out]; exact hR.out, by rw [tab_len], hS.out, by omega⟩, hBr⟩
end Go.Proofs.Ytmdfgibpkfkceaa
/- Contracts: slices.Clone at lists, slices.IndexFunc with the pivot's closure, eliminate (program). -/
namespace Go.Proofs.Ytmdfgibpkfkceaa
open Go.RowKit
set_option linter.unusedVariables false
set_option linter.unusedSimpArgs false

set_option maxRecDepth 100000 in
set_option maxHeartbeats 800000 in
theorem cloneV_any (g0 n m cap0 : Nat) (X : Nat → List Int) (w : World) (hc : ∀ i, i < m → ∃ a c, w.cell? ⟨g0, i, none⟩ = some (.slice a n c) ∧ SL w a n c (X i)) (hm : m ≤ 1000) (hn : 1 ≤ n) :
    Calls Try.prog 229 #[.slice (some ⟨g0, 0, none⟩) m cap0] w fun e w' => ∃ ad cap vs, e = .returned (.slice ad m cap) ∧ OwnV w.heap.size w' ad cap vs ∧ vs.length = m ∧ (∀ i, i < m → ∃ a c, vs[i]? = some (.slice a n c) ∧ SL w' a n c (X i) ∧ ∀ b, blk a = some b → b < w.heap.size) ∧ Below w.heap.size w w' := by
  have hq := fun w => Lib.run_eql_slice_nil (P := Try.prog) w 22 24 (some ⟨g0, 0, none⟩) m cap0 0 0 Try.underlying22
  have hvs : ∃ vs : List Value, vs.length = m ∧ (∀ i, i < m → ∃ a c, vs[i]? = some (.slice a n c) ∧ w.cell? ⟨g0, i, none⟩ = some (.slice a n c) ∧ SL w a n c (X i)) := by
    refine ⟨(List.range m).map (fun i => (w.cell? ⟨g0, i, none⟩).getD undef), by simp, fun i hi => ?_⟩
    obtain ⟨a, c, h1, h2⟩ := hc i hi
    exact ⟨a, c, by simp [hi, h1], h1, h2⟩
  obtain ⟨vs, hl, hv⟩ := hvs
  have Hv := hide hv
  have Hl := hide hl
  have hb1 := bl1 w (.cells #[] 24)
  have ho : OwnV w.heap.size (w.alloc (.cells #[] 24)) (some ⟨w.heap.size, 0, none⟩) 0 [] := World.ownsRow_lit w (base := w.heap.size) (e := 24) (size := 1) #[] 0 (Nat.le_refl _) (by simp) rfl
  have hz : ∀ j u, vs[j]? = some u → (w.alloc (.cells #[] 24)).cell? ((⟨g0, 0, none⟩ : Addr).add j) = some u := fun j u hj => by
    have hj' : j < m := by have := (List.getElem?_eq_some_iff.1 hj).1; omega
    obtain ⟨a, c, h1, h2, _⟩ := hv j hj'
    rw [h1] at hj
    cases hj
    rw [Addr.add_lit, Nat.zero_add]
    exact cell_be hb1 h2
  have h1 : ∀ u ∈ vs, u.oneCell' = true := fun u hu => by
    obtain ⟨i, hi, rfl⟩ := List.mem_iff_getElem.1 hu
    obtain ⟨a, c, h1, _⟩ := hv i (by omega)
    rw [List.getElem?_eq_getElem hi] at h1
    rw [Option.some.inj h1]
    rfl
  have Hz := hide hz
  have H1 := hide h1
  clear hv hl hz h1 hc
  go_enter Try.func229, Try.ntmps229
  go_wp2_with (at_builtin; refine wp_appendV rfl _ _ rfl w.heap.size _ _ _ [] rfl rfl ho _ m cap0 vs rfl Hl.out Hz.out H1.out (by omega) (by simp) ?_; intro ad' cap' w1 hown hb; simp only [List.nil_append] at hown)
  refine bodyPost_ret (v := .slice ad' vs.length cap') (by simp [results, Try.results229]) rfl ?_
  have hB := hb1.trans hb
  exact ⟨ad', ⟨cap', ⟨vs, by rw [Hl.out], hown, Hl.out, (fun i hi => by
    obtain ⟨a, c, h1, h2, h3⟩ := Hv.out i hi
    refine ⟨a, c, h1, h3.below hB, fun b hb' => ?_⟩
    obtain ⟨bb, oo, rfl, hw, _⟩ := h3.at (by omega)
    simp [blk] at hb'
    omega), hB⟩⟩⟩
set_option maxRecDepth 100000 in
set_option maxHeartbeats 800000 in
theorem pivot_any (a : Option Addr) (n c k : Nat) (xs : List Int) (x : Int) (kb : Nat) (w : World) (hs : SL w a n c xs) (hk : w.cell? ⟨kb, 0, none⟩ = some (.int .i64 k)) (hkn : k < n) (hn : n ≤ 1000) (hx : xs.getD k 0 = x) :
    Calls Try.prog 231 #[.slice a n c, .pointer (some ⟨kb, 0, none⟩)] w fun e w' => e = .returned (.bool (x != 0)) ∧ w = w' := by
  obtain ⟨b, off, rfl, hbw, hcell⟩ := hs.at (by omega)
  have e1 := hcell k hkn
  rw [hx] at e1
  have hlt : (k : Int) < (n : Int) := by omega
  clear hcell hs hx
  go_enter Try.func231, Try.ntmps231
  go_wp2
  go_ret
  exact ⟨rfl, rfl⟩
set_option maxRecDepth 100000 in
set_option maxHeartbeats 1600000 in
theorem indexFunc_any (B g n cap : Nat) (vs : List Value) (X : Nat → List Int) (k kb : Nat) (w : World) (h : RowsX B g n cap w vs X n) (hk : w.cell? ⟨kb, 0, none⟩ = some (.int .i64 k)) (hkn : k < n) (hn : n ≤ 1000) :
    Calls Try.prog 230 #[.slice (some ⟨g, k, none⟩) (n - k) (cap - k), .func (.func 231) #[] #[.pointer (some ⟨kb, 0, none⟩)]] w
      fun e w' => ∃ r : Int, e = .returned (.int .i64 r) ∧ ((pivF X k (n - k) k = n ∧ r = -1) ∨ (∃ j : Nat, pivF X k (n - k) k = k + j ∧ r = j ∧ k + j < n)) ∧ w = w' := by
  have H := hide h
  obtain ⟨m, hm⟩ : ∃ m, m = n - k := ⟨_, rfl⟩
  rw [← hm]
  have Hm := hide (show k + m = n by omega)
  have hm9 : m ≤ 1000 := by omega
  have hz0 : Hid (∀ i, k ≤ i → i < k + 0 → (X i).getD k 0 = 0) := hide (fun i h1 h2 => by omega)
  clear h hm
  go_enter Try.func230, Try.ntmps230
  go_wp2
  go_loop [8] (fun iv => ∃ j : Nat, j ≤ m ∧ iv = .int .i64 j ∧ Hid (∀ i, k ≤ i → i < k + j → (X i).getD k 0 = 0)) (fun iv => m - (intOf iv).toNat)
  case atStart => exact ⟨0, by omega, rfl, hz0⟩
  case round =>
    obtain ⟨j, hj, rfl, hZ⟩ := hrel
    clear hz0
    by_cases hlt : j < m
    · obtain ⟨a, c, e1, s1, _, _⟩ := H.out.get (k + j) (by have := Hm.out; omega)
      obtain ⟨x, hx⟩ : ∃ x, (X (k + j)).getD k 0 = x := ⟨_, rfl⟩
      have HX := hide hx
      clear hx
      have hlt' : (j : Int) < (m : Int) := by omega
      by_cases hz : x = 0
      · subst hz
        go_wp2_with fail
        refine (pivot_any _ _ _ k _ 0 kb _ s1 hk hkn hn HX.out).mono ?_
        rintro e w2 ⟨rfl, rfl⟩
        go_wp2
        go_round
        case rel => exact ⟨j + 1, by omega, by go_num, hide (fun i h1 h2 => by
          by_cases e : i = k + j
          · rw [e]; exact HX.out
          · exact hZ.out i h1 (by omega))⟩
        case measure => simp [intOf]; omega
      · have ob : (x != 0) = true := by simpa using hz
        have hp : Hid (pivF X k m k = k + j) := hide (pivF_stop X k m k j hlt hZ.out (by rw [HX.out]; exact hz))
        clear hz
        go_wp2_with fail
        refine (pivot_any _ _ _ k _ x kb _ s1 hk hkn hn HX.out).mono ?_
        rintro e w2 ⟨rfl, rfl⟩
        go_wp2
        refine bodyPost_ret (v := .int .i64 (j : Int)) (by simp [results, Try.results230]) rfl ?_
        exact ⟨_, rfl, .inr ⟨j, hp.out, rfl, by have := Hm.out; omega⟩, rfl⟩
    · have hjm : j = m := by omega
      have hp : Hid (pivF X k m k = n) := hide (by rw [pivF_skip X k m k (fun i h1 h2 => hZ.out i h1 (by omega))]; exact Hm.out)
      have hge : ¬ (j : Int) < (m : Int) := by omega
      clear hjm
      go_wp2
      refine bodyPost_ret (v := .int .i64 (-1)) (by simp [results, Try.results230]) rfl ?_
      exact ⟨_, rfl, .inl ⟨hp.out, rfl⟩, rfl⟩
end Go.Proofs.Ytmdfgibpkfkceaa
