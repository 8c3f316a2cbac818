/- Merged texts. -/
import Derived.Test.YtcadiepghhnbeaaYW130
import Derived.Test.YtcadiepghhnbeaaYW122
import Derived.Test.YtcadiepghhnbeaaYW127
/- Lists of nodes with weights that are made and written: weightedNodes. -/
namespace Go.Proofs.Ytcadiepghhnbeaa
open Go.RowKit Go.Sort
set_option linter.unusedVariables false
set_option linter.unusedSimpArgs false

theorem pget_set {L : List (Int × Int)} {i j : Nat} {v : Int × Int} (hj : j < L.length) : (L.set i v).getD j (0, 0) = if i = j then v else L.getD j (0, 0) := by
  rw [List.getD, List.getElem?_set, List.getD]
  by_cases h : i = j
  · subst h; simp [hj]
  · simp [h]
theorem PR.setTwo {w : World} {g i : Nat} {L : List (Int × Int)} (h : PR w g L) (hi : i < L.length) (a b : Int) : PR ((w.setCell ⟨g, i * 2, none⟩ (.int .i64 a)).setCell ⟨g, i * 2 + 1, none⟩ (.int .i64 b)) g (L.set i (a, b)) := by
  refine ⟨fun j hj => ?_, fun j hj => ?_, fun j hj => ?_, fun j hj => ?_, by simpa using h.lt⟩
  · rw [List.length_set] at hj
    rw [pget_set hj]
    by_cases e : i = j
    · subst e
      rw [if_pos rfl]
      exact cell_set2' (World.cell?_setCell_same _ _ _ (h.c0 i hj)) (by omega) _
    · rw [if_neg e]
      exact cell_set2' (cell_set2' (h.c0 j hj) (by omega) _) (by omega) _
  · rw [List.length_set] at hj
    rw [pget_set hj]
    by_cases e : i = j
    · subst e
      rw [if_pos rfl]
      exact World.cell?_setCell_same _ _ _ (cell_set2' (h.c1 i hj) (by omega) _)
    · rw [if_neg e]
      exact cell_set2' (cell_set2' (h.c1 j hj) (by omega) _) (by omega) _
  · rw [List.length_set] at hj
    simpa using h.f0 j hj
  · rw [List.length_set] at hj
    simpa using h.f1 j hj
theorem PR.setOne {w : World} {g i : Nat} {L : List (Int × Int)} (h : PR w g L) (hi : i < L.length) (a : Int) : PR (w.setCell ⟨g, i * 2, none⟩ (.int .i64 a)) g (L.set i (a, (L.getD i (0, 0)).2)) := by
  refine ⟨fun j hj => ?_, fun j hj => ?_, fun j hj => ?_, fun j hj => ?_, by simpa using h.lt⟩
  · rw [List.length_set] at hj
    rw [pget_set hj]
    by_cases e : i = j
    · subst e
      rw [if_pos rfl]
      exact World.cell?_setCell_same _ _ _ (h.c0 i hj)
    · rw [if_neg e]
      exact cell_set2' (h.c0 j hj) (by omega) _
  · rw [List.length_set] at hj
    rw [pget_set hj]
    by_cases e : i = j
    · subst e
      rw [if_pos rfl]
      exact cell_set2' (h.c1 i hj) (by omega) _
    · rw [if_neg e]
      exact cell_set2' (h.c1 j hj) (by omega) _
  · rw [List.length_set] at hj
    simpa using h.f0 j hj
  · rw [List.length_set] at hj
    simpa using h.f1 j hj
theorem PR.setWt {w : World} {g i : Nat} {L : List (Int × Int)} (h : PR w g L) (hi : i < L.length) (b : Int) : PR (w.setCell ⟨g, i * 2 + 1, none⟩ (.int .i64 b)) g (L.set i ((L.getD i (0, 0)).1, b)) := by
  refine ⟨fun j hj => ?_, fun j hj => ?_, fun j hj => ?_, fun j hj => ?_, by simpa using h.lt⟩
  · rw [List.length_set] at hj
    rw [pget_set hj]
    by_cases e : i = j
    · subst e
      rw [if_pos rfl]
      exact cell_set2' (h.c0 i hj) (by omega) _
    · rw [if_neg e]
      exact cell_set2' (h.c0 j hj) (by omega) _
  · rw [List.length_set] at hj
    rw [pget_set hj]
    by_cases e : i = j
    · subst e
      rw [if_pos rfl]
      exact World.cell?_setCell_same _ _ _ (h.c1 i hj)
    · rw [if_neg e]
      exact cell_set2' (h.c1 j hj) (by omega) _
  · rw [List.length_set] at hj
    simpa using h.f0 j hj
  · rw [List.length_set] at hj
    simpa using h.f1 j hj
theorem PR.other {w : World} {g b j : Nat} {L : List (Int × Int)} (h : PR w g L) (hne : b ≠ g) (u : Value) : PR (w.setCell ⟨b, j, none⟩ u) g L :=
  ⟨fun i hi => cell_set2 (h.c0 i hi) hne u, fun i hi => cell_set2 (h.c1 i hi) hne u, fun i hi => by simpa using h.f0 i hi, fun i hi => by simpa using h.f1 i hi, by simpa using h.lt⟩
/-- The pairs of two lists, from the first k of them; zeros behind. -/
def zipK (xs ys : List Int) (n k : Nat) : List (Int × Int) := (List.range n).map fun i => if i < k then (xs.getD i 0, ys.getD i 0) else (0, 0)
theorem zipK_len (xs ys : List Int) (n k : Nat) : (zipK xs ys n k).length = n := by simp [zipK]
theorem zipK_at (xs ys : List Int) (n k i : Nat) (h : i < n) : (zipK xs ys n k).getD i (0, 0) = if i < k then (xs.getD i 0, ys.getD i 0) else (0, 0) := by
  rw [List.getD, zipK, List.getElem?_map, List.getElem?_range h]; rfl
theorem pext {L M : List (Int × Int)} (hl : L.length = M.length) (h : ∀ i, i < L.length → L.getD i (0, 0) = M.getD i (0, 0)) : L = M := by
  refine List.ext_getElem hl fun i h1 h2 => ?_
  have := h i h1
  rw [List.getD, List.getD, List.getElem?_eq_getElem h1, List.getElem?_eq_getElem h2] at this
  exact this
theorem zipK_step (xs ys : List Int) (n k : Nat) (h : k < n) : (zipK xs ys n k).set k (xs.getD k 0, ys.getD k 0) = zipK xs ys n (k + 1) := by
  refine pext (by rw [List.length_set, zipK_len, zipK_len]) fun i hi => ?_
  rw [List.length_set, zipK_len] at hi
  rw [pget_set (by rw [zipK_len]; exact hi), zipK_at _ _ _ _ _ hi, zipK_at _ _ _ _ _ hi]
  by_cases e : k = i
  · subst e; rw [if_pos rfl, if_pos (by omega)]
  · rw [if_neg e]
    by_cases q : i < k
    · rw [if_pos q, if_pos (by omega)]
    · rw [if_neg q, if_neg (by omega)]
/-- The parts of a rule. -/
def zipW (xs ys : List Int) : List (Int × Int) := zipK xs ys xs.length xs.length
theorem infoW : (Try.prog.info? 101).map (fun i => (i.zero, i.size, i.bytes)) = some (some (.agg #[.int .i64 0, .int .i64 0]), 2, 16) := by kernel_rfl
def zrowW (n : Nat) : Array Value := madeCells #[.int .i64 0, .int .i64 0] (n * 2)
set_option maxRecDepth 100000 in
theorem run_mkW (n : Nat) (hn : n ≤ 4000000) : ∀ W : World, (Instr.makeSlice 97 (.int .i64 (n : Int)) (.int .i64 (n : Int))).run Try.prog W = .ok (.slice (some ⟨W.heap.size, 0, none⟩) n n) (W.alloc (.cells (zrowW n) 101)) := by
  intro W
  obtain ⟨i0, hi, hz0, hz1, hz2⟩ := info_parts infoW
  have hr := run_make (P := Try.prog) W 97 101 i0 (.agg #[.int .i64 0, .int .i64 0]) Try.underlying97 hi hz0 .i64 .i64 n n (by omega) (by omega) (by rw [hz2]; omega) (by omega)
  simp only [Int.toNat_natCast] at hr
  rw [hr, hz1]
  have e : (Value.agg #[.int .i64 0, .int .i64 0]).cells = #[.int .i64 0, .int .i64 0] := by simp [Value.cells.eq_def]
  rw [e]
  rfl
theorem PR.made (W : World) (n : Nat) (xs ys : List Int) : PR (W.alloc (.cells (zrowW n) 101)) W.heap.size (zipK xs ys n 0) := by
  have hb := heap_alloc_new W (.cells (zrowW n) 101)
  have hc : ∀ j, j < n * 2 → (zrowW n)[j]? = some (.int .i64 0) := fun j hj => by
    unfold zrowW madeCells
    rw [Array.getElem?_map]
    rcases Nat.mod_two_eq_zero_or_one j with h | h <;> simp [h, hj]
  refine ⟨fun i hi => ?_, fun i hi => ?_, fun i hi => ?_, fun i hi => ?_, by simp⟩
  · rw [zipK_len] at hi
    rw [cell_of_row _ _ _ _ _ _ hb, hc _ (by omega), zipK_at _ _ _ _ _ hi, if_neg (by omega)]
  · rw [zipK_len] at hi
    rw [cell_of_row _ _ _ _ _ _ hb, hc _ (by omega), zipK_at _ _ _ _ _ hi, if_neg (by omega)]
  · exact frozen_of_row _ _ _ _ _ hb
  · exact frozen_of_row _ _ _ _ _ hb
end Go.Proofs.Ytcadiepghhnbeaa
/- The parts of moved rules. -/
namespace Go.Proofs.Ytcadiepghhnbeaa
open Go.RowKit Go.Sort
set_option linter.unusedVariables false
set_option linter.unusedSimpArgs false

def mvK (p A B : Int) (L : List (Int × Int)) (k : Nat) : List (Int × Int) := (List.range L.length).map fun i => if i < k then ((B + A * (L.getD i (0, 0)).1) % p, (L.getD i (0, 0)).2) else L.getD i (0, 0)
theorem mvK_len (p A B : Int) (L : List (Int × Int)) (k : Nat) : (mvK p A B L k).length = L.length := by simp [mvK]
theorem mvK_at (p A B : Int) (L : List (Int × Int)) (k i : Nat) (h : i < L.length) : (mvK p A B L k).getD i (0, 0) = if i < k then ((B + A * (L.getD i (0, 0)).1) % p, (L.getD i (0, 0)).2) else L.getD i (0, 0) := by
  rw [List.getD, mvK, List.getElem?_map, List.getElem?_range h]; rfl
theorem mvK_zero (p A B : Int) (L : List (Int × Int)) : mvK p A B L 0 = L :=
  pext (mvK_len _ _ _ _ _) fun i hi => by rw [mvK_len] at hi; rw [mvK_at _ _ _ _ _ _ hi, if_neg (by omega)]
theorem mvK_step (p A B : Int) (L : List (Int × Int)) (k : Nat) (h : k < L.length) : (mvK p A B L k).set k ((B + A * (L.getD k (0, 0)).1) % p, (L.getD k (0, 0)).2) = mvK p A B L (k + 1) := by
  refine pext (by rw [List.length_set, mvK_len, mvK_len]) fun i hi => ?_
  rw [List.length_set, mvK_len] at hi
  rw [pget_set (by rw [mvK_len]; exact hi), mvK_at _ _ _ _ _ _ hi, mvK_at _ _ _ _ _ _ hi]
  by_cases e : k = i
  · subst e; rw [if_pos rfl, if_pos (by omega)]
  · rw [if_neg e]
    by_cases q : i < k
    · rw [if_pos q, if_pos (by omega)]
    · rw [if_neg q, if_neg (by omega)]
def movW (p A B : Int) (L : List (Int × Int)) : List (Int × Int) := mvK p A B L L.length
theorem zipW_len (xs ys : List Int) : (zipW xs ys).length = xs.length := zipK_len _ _ _ _
theorem zipW_at (xs ys : List Int) (i : Nat) (h : i < xs.length) : (zipW xs ys).getD i (0, 0) = (xs.getD i 0, ys.getD i 0) := by
  unfold zipW; rw [zipK_at _ _ _ _ _ h, if_pos h]
end Go.Proofs.Ytcadiepghhnbeaa
