/- Merged texts. -/
import Derived.Test.YtllcgoachgfpjaaYD428
import Derived.Test.YtllcgoachgfpjaaYD422
/- Lists of nodes with weights that are made and written: weightedNodes. -/
namespace Go.Proofs.Ytllcgoachgfpjaa
open Go.RowKit Go.Sort
set_option linter.unusedVariables false
set_option linter.unusedSimpArgs false

theorem pget_set {L : List (Int × Int)} {i j : Nat} {v : Int × Int} (hj : j < L.length) : (L.set i v).getD j (0, 0) = if i = j then v else L.getD j (0, 0) := by
  rw [List.getD, List.getElem?_set, List.getD]
  by_cases h : i = j
  · subst h; simp [hj]
  · simp [h]
theorem PR.setTwo {w : World} {g i : Nat} {L : List (Int × Int)} (h : PR w g L) (hi : i < L.length) (a b : Int) : PR ((w.setCell ⟨g, i * 2, none⟩ (.int .i64 a)).setCell ⟨g, i * 2 + 1, none⟩ (.int .i64 b)) g (L.set i (a, b)) := by
  refine ⟨fun j hj => ?_, fun j hj => ?_, fun j hj => ?_, fun j hj => ?_, by simpa using h.lt⟩
  · rw [List.length_set] at hj
    rw [pget_set hj]
    by_cases e : i = j
    · subst e
      rw [if_pos rfl]
      exact cell_set2' (World.cell?_setCell_same _ _ _ (h.c0 i hj)) (by omega) _
    · rw [if_neg e]
      exact cell_set2' (cell_set2' (h.c0 j hj) (by omega) _) (by omega) _
  · rw [List.length_set] at hj
    rw [pget_set hj]
    by_cases e : i = j
    · subst e
      rw [if_pos rfl]
      exact World.cell?_setCell_same _ _ _ (cell_set2' (h.c1 i hj) (by omega) _)
    · rw [if_neg e]
      exact cell_set2' (cell_set2' (h.c1 j hj) (by omega) _) (by omega) _
  · rw [List.length_set] at hj
    simpa using h.f0 j hj
  · rw [List.length_set] at hj
    simpa using h.f1 j hj
theorem PR.setOne {w : World} {g i : Nat} {L : List (Int × Int)} (h : PR w g L) (hi : i < L.length) (a : Int) : PR (w.setCell ⟨g, i * 2, none⟩ (.int .i64 a)) g (L.set i (a, (L.getD i (0, 0)).2)) := by
  refine ⟨fun j hj => ?_, fun j hj => ?_, fun j hj => ?_, fun j hj => ?_, by simpa using h.lt⟩
  · rw [List.length_set] at hj
    rw [pget_set hj]
    by_cases e : i = j
    · subst e
      rw [if_pos rfl]
      exact World.cell?_setCell_same _ _ _ (h.c0 i hj)
    · rw [if_neg e]
      exact cell_set2' (h.c0 j hj) (by omega) _
  · rw [List.length_set] at hj
    rw [pget_set hj]
    by_cases e : i = j
    · subst e
      rw [if_pos rfl]
      exact cell_set2' (h.c1 i hj) (by omega) _
    · rw [if_neg e]
      exact cell_set2' (h.c1 j hj) (by omega) _
  · rw [List.length_set] at hj
    simpa using h.f0 j hj
  · rw [List.length_set] at hj
    simpa using h.f1 j hj
theorem PR.setWt {w : World} {g i : Nat} {L : List (Int × Int)} (h : PR w g L) (hi : i < L.length) (b : Int) : PR (w.setCell ⟨g, i * 2 + 1, none⟩ (.int .i64 b)) g (L.set i ((L.getD i (0, 0)).1, b)) := by
  refine ⟨fun j hj => ?_, fun j hj => ?_, fun j hj => ?_, fun j hj => ?_, by simpa using h.lt⟩
  · rw [List.length_set] at hj
    rw [pget_set hj]
    by_cases e : i = j
    · subst e
      rw [if_pos rfl]
      exact cell_set2' (h.c0 i hj) (by omega) _
    · rw [if_neg e]
      exact cell_set2' (h.c0 j hj) (by omega) _
  · rw [List.length_set] at hj
    rw [pget_set hj]
    by_cases e : i = j
    · subst e
      rw [if_pos rfl]
      exact World.cell?_setCell_same _ _ _ (h.c1 i hj)
    · rw [if_neg e]
      exact cell_set2' (h.c1 j hj) (by omega) _
  · rw [List.length_set] at hj
    simpa using h.f0 j hj
  · rw [List.length_set] at hj
    simpa using h.f1 j hj
theorem PR.other {w : World} {g b j : Nat} {L : List (Int × Int)} (h : PR w g L) (hne : b ≠ g) (u : Value) : PR (w.setCell ⟨b, j, none⟩ u) g L :=
  ⟨fun i hi => cell_set2 (h.c0 i hi) hne u, fun i hi => cell_set2 (h.c1 i hi) hne u, fun i hi => by simpa using h.f0 i hi, fun i hi => by simpa using h.f1 i hi, by simpa using h.lt⟩
/-- The pairs of two lists, from the first k of them; zeros behind. -/
def zipK (xs ys : List Int) (n k : Nat) : List (Int × Int) := (List.range n).map fun i => if i < k then (xs.getD i 0, ys.getD i 0) else (0, 0)
theorem zipK_len (xs ys : List Int) (n k : Nat) : (zipK xs ys n k).length = n := by simp [zipK]
theorem zipK_at (xs ys : List Int) (n k i : Nat) (h : i < n) : (zipK xs ys n k).getD i (0, 0) = if i < k then (xs.getD i 0, ys.getD i 0) else (0, 0) := by
  rw [List.getD, zipK, List.getElem?_map, List.getElem?_range h]; rfl
theorem pext {L M : List (Int × Int)} (hl : L.length = M.length) (h : ∀ i, i < L.length → L.getD i (0, 0) = M.getD i (0, 0)) : L = M := by
  refine List.ext_getElem hl fun i h1 h2 => ?_
  have := h i h1
  rw [List.getD, List.getD, List.getElem?_eq_getElem h1, List.getElem?_eq_getElem h2] at this
  exact this
theorem zipK_step (xs ys : List Int) (n k : Nat) (h : k < n) : (zipK xs ys n k).set k (xs.getD k 0, ys.getD k 0) = zipK xs ys n (k + 1) := by
  refine pext (by rw [List.length_set, zipK_len, zipK_len]) fun i hi => ?_
  rw [List.length_set, zipK_len] at hi
  rw [pget_set (by rw [zipK_len]; exact hi), zipK_at _ _ _ _ _ hi, zipK_at _ _ _ _ _ hi]
  by_cases e : k = i
  · subst e; rw [if_pos rfl, if_pos (by omega)]
  · rw [if_neg e]
    by_cases q : i < k
    · rw [if_pos q, if_pos (by omega)]
    · rw [if_neg q, if_neg (by omega)]
/-- The parts of a rule. -/
def zipW (xs ys : List Int) : List (Int × Int) := zipK xs ys xs.length xs.length
theorem infoW : (Try.prog.info? 131).map (fun i => (i.zero, i.size, i.bytes)) = some (some (.agg #[.int .i64 0, .int .i64 0]), 2, 16) := by kernel_rfl
def zrowW (n : Nat) : Array Value := madeCells #[.int .i64 0, .int .i64 0] (n * 2)
set_option maxRecDepth 100000 in
theorem run_mkW (n : Nat) (hn : n ≤ 4000000) : ∀ W : World, (Instr.makeSlice 127 (.int .i64 (n : Int)) (.int .i64 (n : Int))).run Try.prog W = .ok (.slice (some ⟨W.heap.size, 0, none⟩) n n) (W.alloc (.cells (zrowW n) 131)) := by
  intro W
  obtain ⟨i0, hi, hz0, hz1, hz2⟩ := info_parts infoW
  have hr := run_make (P := Try.prog) W 127 131 i0 (.agg #[.int .i64 0, .int .i64 0]) Try.underlying127 hi hz0 .i64 .i64 n n (by omega) (by omega) (by rw [hz2]; omega) (by omega)
  simp only [Int.toNat_natCast] at hr
  rw [hr, hz1]
  have e : (Value.agg #[.int .i64 0, .int .i64 0]).cells = #[.int .i64 0, .int .i64 0] := by simp [Value.cells.eq_def]
  rw [e]
  rfl
theorem PR.made (W : World) (n : Nat) (xs ys : List Int) : PR (W.alloc (.cells (zrowW n) 131)) W.heap.size (zipK xs ys n 0) := by
  have hb := heap_alloc_new W (.cells (zrowW n) 131)
  have hc : ∀ j, j < n * 2 → (zrowW n)[j]? = some (.int .i64 0) := fun j hj => by
    unfold zrowW madeCells
    rw [Array.getElem?_map]
    rcases Nat.mod_two_eq_zero_or_one j with h | h <;> simp [h, hj]
  refine ⟨fun i hi => ?_, fun i hi => ?_, fun i hi => ?_, fun i hi => ?_, by simp⟩
  · rw [zipK_len] at hi
    rw [cell_of_row _ _ _ _ _ _ hb, hc _ (by omega), zipK_at _ _ _ _ _ hi, if_neg (by omega)]
  · rw [zipK_len] at hi
    rw [cell_of_row _ _ _ _ _ _ hb, hc _ (by omega), zipK_at _ _ _ _ _ hi, if_neg (by omega)]
  · exact frozen_of_row _ _ _ _ _ hb
  · exact frozen_of_row _ _ _ _ _ hb
set_option maxRecDepth 100000 in
set_option maxHeartbeats 1600000 in
theorem weightedNodes_any (p : Int) (a : Option Addr) (n c : Nat) (xs : List Int) (b : Option Addr) (d : Nat) (ys : List Int) (w : World) (hs : SL w a n c xs) (ht : SL w b n d ys) (hn : n ≤ 1000) :
    Calls Try.prog 164 #[jac p a n c b n d] w fun e w' => ∃ g, e = .returned (.slice (some ⟨g, 0, none⟩) n n) ∧ w.heap.size ≤ g ∧ PR w' g (zipW xs ys) ∧ Below w.heap.size w w' := by
  have hl := hide hs.len
  have hb0 := bl1 w (.cells #[.int .i64 p, .slice a n c, .slice b n d] 56)
  have hb1 := bl2 w (.cells #[.int .i64 p, .slice a n c, .slice b n d] 56) (.cells (zrowW n) 131)
  have hmk := run_mkW n (by omega) (w.alloc (.cells #[.int .i64 p, .slice a n c, .slice b n d] 56))
  have hP0 := hide (PR.made (w.alloc (.cells #[.int .i64 p, .slice a n c, .slice b n d] 56)) n xs ys)
  have hW : Hid (zipK xs ys n n = zipW xs ys) := hide (by unfold zipW; rw [hl.out])
  have e1 := show ((w.alloc (.cells #[.int .i64 p, .slice a n c, .slice b n d] 56)).alloc (.cells (zrowW n) 131)).heap.size = w.heap.size + 2 by simp
  by_cases h0 : n = 0
  · subst h0
    rw [show ((0 : Nat) : Int) = 0 from rfl] at hmk
    go_enter Try.func164, Try.ntmps164
    go_wp2
    refine wp_loop_rounds 1 ?_
    rw [rounds_succ]
    go_wp2
    go_ret
    refine ⟨_, rfl, by simp, ?_, hb1⟩
    rw [← hW.out]
    simpa using hP0.out
  simp only [World.size_alloc] at hmk hP0
  obtain ⟨b1, o1, rfl, hw1, hc1⟩ := hs.at (by omega)
  obtain ⟨b2, o2, rfl, hw2, hc2⟩ := ht.at (by omega)
  go_enter Try.func164, Try.ntmps164
  go_wp2
  clear hmk
  go_loopw [13] (fun iv wr => ∃ k : Nat, k ≤ n ∧ iv = .int .i64 k ∧ Hid (PR wr (w.heap.size + 1) (zipK xs ys n k)) ∧ Hid (Below w.heap.size w wr) ∧ Hid (wr.cell? ⟨w.heap.size, 2, none⟩ = some (.slice (some ⟨b2, o2, none⟩) n d))) (fun iv _ => n - (intOf iv).toNat)
  case atStart => exact ⟨0, by omega, rfl, hP0, hide hb1, hide (by simp [go_sem])⟩
  case round =>
    obtain ⟨k, hk, rfl, hP, hB, hj⟩ := hrel
    clear hP0 hb1
    by_cases hlt : k < n
    · have hlt' : (k : Int) < (n : Int) := by omega
      have q1 : wr.cell? ⟨b1, o1 + k, none⟩ = some (.int .i64 (xs.getD k 0)) := cell_be hB.out (hc1 k hlt)
      have q2 : wr.cell? ⟨b2, o2 + k, none⟩ = some (.int .i64 (ys.getD k 0)) := cell_be hB.out (hc2 k hlt)
      have j2 := hj.out
      have st := hide (zipK_step xs ys n k hlt)
      obtain ⟨X, hX⟩ : ∃ X, xs.getD k 0 = X := ⟨_, rfl⟩
      obtain ⟨Y, hY⟩ : ∃ Y, ys.getD k 0 = Y := ⟨_, rfl⟩
      rw [hX] at q1 st
      rw [hY] at q2 st
      have hlen := zipK_len xs ys n k
      have c0 := hP.out.c0 k (by omega)
      have c1 := hP.out.c1 k (by omega)
      have f0 := hP.out.f0 k (by omega)
      have f1 := hP.out.f1 k (by omega)
      have hS := hide (hP.out.setTwo (show k < (zipK xs ys n k).length by omega) X Y)
      rw [st.out] at hS
      have hBS := hide ((hB.out.setCell (p := ⟨w.heap.size + 1, k * 2, none⟩) (by simp) (.int .i64 X)).setCell (p := ⟨w.heap.size + 1, k * 2 + 1, none⟩) (by simp) (.int .i64 Y))
      have hJS := hide (cell_set2 (cell_set2 j2 (show w.heap.size + 1 ≠ w.heap.size by omega) (.int .i64 X) (a := ⟨w.heap.size + 1, k * 2, none⟩)) (show w.heap.size + 1 ≠ w.heap.size by omega) (.int .i64 Y) (a := ⟨w.heap.size + 1, k * 2 + 1, none⟩))
      clear hX hY hlen hP hB hj
      go_wp2
      go_roundw
      case rel => exact ⟨k + 1, by omega, by go_num, hS, hBS, hJS⟩
      case measure => simp [intOf]; omega
    · have hkn : k = n := by omega
      subst hkn
      have hge : ¬ (k : Int) < (k : Int) := by omega
      go_wp2
      go_ret
      refine ⟨_, rfl, by omega, ?_, hB.out⟩
      rw [← hW.out]
      exact hP.out
end Go.Proofs.Ytllcgoachgfpjaa
/- Lists of nodes with weights that a call owns, and how they are appended. -/
namespace Go.Proofs.Ytllcgoachgfpjaa
open Go.RowKit Go.Sort
set_option linter.unusedVariables false
set_option linter.unusedSimpArgs false

def fl (L : List (Int × Int)) : List Value := L.flatMap encW
theorem fl_len (L : List (Int × Int)) : (fl L).length = L.length * 2 := by
  induction L with
  | nil => rfl
  | cons e l ih =>
    show (encW e ++ fl l).length = _
    rw [List.length_append, ih]
    simp [encW]
    omega
theorem fl_app (L M : List (Int × Int)) : fl (L ++ M) = fl L ++ fl M := List.flatMap_append
theorem fl_at (L : List (Int × Int)) : ∀ i, i < L.length → (fl L)[i * 2]? = some (.int .i64 (L.getD i (0, 0)).1) ∧ (fl L)[i * 2 + 1]? = some (.int .i64 (L.getD i (0, 0)).2) := by
  induction L with
  | nil => intro i hi; simp at hi
  | cons e l ih =>
    intro i hi
    have hc : fl (e :: l) = .int .i64 e.1 :: .int .i64 e.2 :: fl l := rfl
    rw [hc]
    cases i with
    | zero => exact ⟨rfl, rfl⟩
    | succ i =>
      have := ih i (by simpa using hi)
      rw [show (i + 1) * 2 = i * 2 + 1 + 1 by omega]
      exact this
theorem fl_cell {w : World} {g : Nat} {L : List (Int × Int)} (h : PR w g L) (j : Nat) (u : Value) (hj : (fl L)[j]? = some u) : w.cell? ⟨g, j, none⟩ = some u := by
  have hl : j < L.length * 2 := by rw [← fl_len]; exact (List.getElem?_eq_some_iff.1 hj).1
  rcases Nat.mod_two_eq_zero_or_one j with hm | hm
  · have e : j = j / 2 * 2 := by omega
    have := (fl_at L (j / 2) (by omega)).1
    rw [← e, hj] at this
    have hc := h.c0 (j / 2) (by omega)
    rw [← e] at hc
    rw [hc, this]
  · have e : j = j / 2 * 2 + 1 := by omega
    have := (fl_at L (j / 2) (by omega)).2
    rw [← e, hj] at this
    have hc := h.c1 (j / 2) (by omega)
    rw [← e] at hc
    rw [hc, this]
/-- A block of nodes with weights as it is made: room for n of them. -/
def TyW (w : World) (g n : Nat) : Prop := ∃ cs : Array Value, w.heap[g]? = some (.cells cs 131 (0, 0)) ∧ cs.size = n * 2
theorem TyW.lt {w : World} {g n : Nat} (h : TyW w g n) : g < w.heap.size := by obtain ⟨cs, h, _⟩ := h; exact lt_of_block h
theorem TyW.below {w w' : World} {g n : Nat} (h : TyW w g n) (hb : Below w.heap.size w w') : TyW w' g n := by
  have hl := h.lt
  obtain ⟨cs, h1, h2⟩ := h
  exact ⟨cs, (hb.block g hl).trans h1, h2⟩
theorem TyW.set {w : World} {g n : Nat} (h : TyW w g n) (j : Nat) (u : Value) : TyW (w.setCell ⟨g, j, none⟩ u) g n := by
  obtain ⟨cs, h1, h2⟩ := h
  exact ⟨_, heap_setCell_same w g j _ _ u h1, by simpa using h2⟩
/-- The slice of the list is the call's own. -/
def OwnW (B : Nat) (w : World) (g cap : Nat) (L : List (Int × Int)) : Prop := w.ownsRow B 131 2 (.slice (some ⟨g, 0, none⟩) L.length cap) L.length (fl L)
theorem PR.own {w : World} {g : Nat} {L : List (Int × Int)} (h : PR w g L) {n : Nat} (ht : TyW w g n) (hn : L.length = n) (hm : n ≤ 4000000) {B : Nat} (hB : B ≤ g) : OwnW B w g n L := by
  obtain ⟨cs, h1, h2⟩ := ht
  refine ⟨fl_len L, .inr ⟨g, n, cs, rfl, hB, h1, by omega, by unfold maxLen; omega, h2, ?_⟩⟩
  refine List.ext_getElem? fun j => ?_
  by_cases hj : j < L.length * 2
  · obtain ⟨u, hu⟩ : ∃ u, (fl L)[j]? = some u := ⟨_, List.getElem?_eq_getElem (by rw [fl_len]; exact hj)⟩
    have hc := fl_cell h j u hu
    rw [cell_of_row w g j _ _ (0, 0) h1] at hc
    rw [hu, List.getElem?_take, if_pos hj, Array.getElem?_toList]
    exact hc
  · rw [List.getElem?_eq_none (by simp; omega), List.getElem?_eq_none (by rw [fl_len]; omega)]
theorem OwnW.pr {B : Nat} {w : World} {g cap : Nat} {L : List (Int × Int)} (h : OwnW B w g cap L) : PR w g L := by
  rcases h.2 with ⟨h1, _⟩ | ⟨g', c, cur, h1, _, h3, h4, _, h6, h7⟩
  · cases h1
  · simp only [Value.slice.injEq, Option.some.injEq, Addr.mk.injEq, and_true, true_and] at h1
    obtain ⟨rfl, rfl⟩ := h1
    have key : ∀ j u, (fl L)[j]? = some u → w.cell? ⟨g, j, none⟩ = some u := fun j u hj => by
      rw [cell_of_row w g j _ _ (0, 0) h3]
      have hl : j < L.length * 2 := by rw [← fl_len]; exact (List.getElem?_eq_some_iff.1 hj).1
      rw [← h7, List.getElem?_take, if_pos hl, Array.getElem?_toList] at hj
      exact hj
    exact ⟨fun i hi => key _ _ (fl_at L i hi).1, fun i hi => key _ _ (fl_at L i hi).2, fun i hi => frozen_of_row w g _ _ _ h3, fun i hi => frozen_of_row w g _ _ _ h3, lt_of_block h3⟩
set_option maxRecDepth 100000 in
theorem op_appW {w : World} {o : Oper} {a : Act} {K : Act → World → Prop} {Q : Exit → Act → World → Prop}
    (s x : Operand) (ho : o.op = .call { callee := .builtin .append, args := #[s, x], argTypes := #[127, 127] })
    (B g n cap : Nat) (L : List (Int × Int)) (hs : a.eval s = .slice (some ⟨g, 0, none⟩) n cap) (hn : n = L.length) (hown : OwnW B w g cap L)
    (h m c : Nat) (M : List (Int × Int)) (hx : a.eval x = .slice (some ⟨h, 0, none⟩) m c) (hm : m = M.length) (hM : PR w h M) (hmax : n + m ≤ 4000000) (hB : B ≤ w.heap.size)
    (hK : ∀ g' cap' w', OwnW B w' g' cap' (L ++ M) → w.grownBy w' (some g) → (g' = g ∨ g' = w.heap.size) → K (a.put o.dst (.slice (some ⟨g', 0, none⟩) (L ++ M).length cap')) w') :
    o.wp Try.prog a w K Q := by
  subst hn
  subst hm
  obtain ⟨i0, hi, hz0, hz1, hz2⟩ := info_parts infoW
  have hnews : ∀ j u, (fl M)[j]? = some u → w.cell? ((⟨h, 0, none⟩ : Addr).add j) = some u := by
    intro j u hj
    rw [Addr.add_lit, Nat.zero_add]
    exact fl_cell hM j u hj
  have h1 : ∀ u ∈ fl M, u.oneCell' = true := by
    intro u hu
    obtain ⟨e, _, he⟩ := List.mem_flatMap.1 hu
    simp [encW] at he
    rcases he with rfl | rfl <;> rfl
  obtain ⟨v', w1, hr, hown', hgrow, hnone, hloc⟩ := run_append_own_at (P := Try.prog) w B 127 o.type 131 i0 (.agg #[.int .i64 0, .int .i64 0]) 2 16 Try.underlying127 hi hz0 hz1 hz2 (by simp [Value.cells.eq_def]) (by decide) _ _ _ hown ⟨h, 0, none⟩ M.length c (fl M) (fl_len M) hnews h1 (by unfold maxLen; omega) (by omega) hB
  have hv : ∃ g' cap', v' = .slice (some ⟨g', 0, none⟩) (L ++ M).length cap' := by
    rcases hown'.2 with ⟨h1, h2⟩ | ⟨g', c', cur, h1, h2⟩
    · have := (hnone.1 h1).1; cases this
    · exact ⟨g', c', by rw [h1]; congr 1; simp⟩
  obtain ⟨g', cap', rfl⟩ := hv
  unfold Oper.wp execOp
  simp only [ho, resolve, invoke, builtin, Sem.run_bind, Sem.run_pure, Result.andThen_ok, List.map_toArray, List.map_cons, List.map_nil, hs, hx, hr]
  refine hK g' cap' w1 ?_ hgrow ?_
  · unfold OwnW
    rw [fl_app]
    have e : (L ++ M).length = L.length + M.length := by simp
    rw [e] at hown' ⊢
    exact hown'
  · rcases hloc with h | h
    · exact .inl (Option.some.inj h)
    · exact .inr (Option.some.inj h)
theorem wp_appW {w : World} {ops : Array Oper} {rest : List Oper} {o : Oper} {a : Act} {Q : Exit → Act → World → Prop}
    (hgd : o.guard = none) (s x : Operand) (ho : o.op = .call { callee := .builtin .append, args := #[s, x], argTypes := #[127, 127] })
    (B g n cap : Nat) (L : List (Int × Int)) (hs : a.eval s = .slice (some ⟨g, 0, none⟩) n cap) (hn : n = L.length) (hown : OwnW B w g cap L)
    (h m c : Nat) (M : List (Int × Int)) (hx : a.eval x = .slice (some ⟨h, 0, none⟩) m c) (hm : m = M.length) (hM : PR w h M) (hmax : n + m ≤ 4000000) (hB : B ≤ w.heap.size)
    (hK : ∀ g' cap' w', OwnW B w' g' cap' (L ++ M) → w.grownBy w' (some g) → (g' = g ∨ g' = w.heap.size) → wpList Try.prog ops Q rest (a.put o.dst (.slice (some ⟨g', 0, none⟩) (L ++ M).length cap')) w') :
    wpList Try.prog ops Q (o :: rest) a w :=
  wpList_plain hgd fun K hK' => op_appW s x ho B g n cap L hs hn hown h m c M hx hm hM hmax hB fun g' cap' w' h1 h2 h3 => hK' _ _ (hK g' cap' w' h1 h2 h3)
end Go.Proofs.Ytllcgoachgfpjaa
