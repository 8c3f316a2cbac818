/- Merged texts. -/
import Derived.Test.YtkpmonopjkjflaaYC525
/- Lists of nodes with weights that are made and written: weightedNodes. -/
namespace Go.Proofs.Ytkpmonopjkjflaa
open Go.RowKit Go.Sort
set_option linter.unusedVariables false
set_option linter.unusedSimpArgs false

theorem pget_set {L : List (Int × Int)} {i j : Nat} {v : Int × Int} (hj : j < L.length) : (L.set i v).getD j (0, 0) = if i = j then v else L.getD j (0, 0) := by
  rw [List.getD, List.getElem?_set, List.getD]
  by_cases h : i = j
  · subst h; simp [hj]
  · simp [h]
theorem PR.setTwo {w : World} {g i : Nat} {L : List (Int × Int)} (h : PR w g L) (hi : i < L.length) (a b : Int) : PR ((w.setCell ⟨g, i * 2, none⟩ (.int .i64 a)).setCell ⟨g, i * 2 + 1, none⟩ (.int .i64 b)) g (L.set i (a, b)) := by
  refine ⟨fun j hj => ?_, fun j hj => ?_, fun j hj => ?_, fun j hj => ?_, by simpa using h.lt⟩
  · rw [List.length_set] at hj
    rw [pget_set hj]
    by_cases e : i = j
    · subst e
      rw [if_pos rfl]
      exact cell_set2' (World.cell?_setCell_same _ _ _ (h.c0 i hj)) (by omega) _
    · rw [if_neg e]
      exact cell_set2' (cell_set2' (h.c0 j hj) (by omega) _) (by omega) _
  · rw [List.length_set] at hj
    rw [pget_set hj]
    by_cases e : i = j
    · subst e
      rw [if_pos rfl]
      exact World.cell?_setCell_same _ _ _ (cell_set2' (h.c1 i hj) (by omega) _)
    · rw [if_neg e]
      exact cell_set2' (cell_set2' (h.c1 j hj) (by omega) _) (by omega) _
  · rw [List.length_set] at hj
    simpa using h.f0 j hj
  · rw [List.length_set] at hj
    simpa using h.f1 j hj
theorem PR.setOne {w : World} {g i : Nat} {L : List (Int × Int)} (h : PR w g L) (hi : i < L.length) (a : Int) : PR (w.setCell ⟨g, i * 2, none⟩ (.int .i64 a)) g (L.set i (a, (L.getD i (0, 0)).2)) := by
  refine ⟨fun j hj => ?_, fun j hj => ?_, fun j hj => ?_, fun j hj => ?_, by simpa using h.lt⟩
  · rw [List.length_set] at hj
    rw [pget_set hj]
    by_cases e : i = j
    · subst e
      rw [if_pos rfl]
      exact World.cell?_setCell_same _ _ _ (h.c0 i hj)
    · rw [if_neg e]
      exact cell_set2' (h.c0 j hj) (by omega) _
  · rw [List.length_set] at hj
    rw [pget_set hj]
    by_cases e : i = j
    · subst e
      rw [if_pos rfl]
      exact cell_set2' (h.c1 i hj) (by omega) _
    · rw [if_neg e]
      exact cell_set2' (h.c1 j hj) (by omega) _
  · rw [List.length_set] at hj
    simpa using h.f0 j hj
  · rw [List.length_set] at hj
    simpa using h.f1 j hj
theorem PR.setWt {w : World} {g i : Nat} {L : List (Int × Int)} (h : PR w g L) (hi : i < L.length) (b : Int) : PR (w.setCell ⟨g, i * 2 + 1, none⟩ (.int .i64 b)) g (L.set i ((L.getD i (0, 0)).1, b)) := by
  refine ⟨fun j hj => ?_, fun j hj => ?_, fun j hj => ?_, fun j hj => ?_, by simpa using h.lt⟩
  · rw [List.length_set] at hj
    rw [pget_set hj]
    by_cases e : i = j
    · subst e
      rw [if_pos rfl]
      exact cell_set2' (h.c0 i hj) (by omega) _
    · rw [if_neg e]
      exact cell_set2' (h.c0 j hj) (by omega) _
  · rw [List.length_set] at hj
    rw [pget_set hj]
    by_cases e : i = j
    · subst e
      rw [if_pos rfl]
      exact World.cell?_setCell_same _ _ _ (h.c1 i hj)
    · rw [if_neg e]
      exact cell_set2' (h.c1 j hj) (by omega) _
  · rw [List.length_set] at hj
    simpa using h.f0 j hj
  · rw [List.length_set] at hj
    simpa using h.f1 j hj
theorem PR.other {w : World} {g b j : Nat} {L : List (Int × Int)} (h : PR w g L) (hne : b ≠ g) (u : Value) : PR (w.setCell ⟨b, j, none⟩ u) g L :=
  ⟨fun i hi => cell_set2 (h.c0 i hi) hne u, fun i hi => cell_set2 (h.c1 i hi) hne u, fun i hi => by simpa using h.f0 i hi, fun i hi => by simpa using h.f1 i hi, by simpa using h.lt⟩
/-- The pairs of two lists, from the first k of them; zeros behind. -/
def zipK (xs ys : List Int) (n k : Nat) : List (Int × Int) := (List.range n).map fun i => if i < k then (xs.getD i 0, ys.getD i 0) else (0, 0)
theorem zipK_len (xs ys : List Int) (n k : Nat) : (zipK xs ys n k).length = n := by simp [zipK]
theorem zipK_at (xs ys : List Int) (n k i : Nat) (h : i < n) : (zipK xs ys n k).getD i (0, 0) = if i < k then (xs.getD i 0, ys.getD i 0) else (0, 0) := by
  rw [List.getD, zipK, List.getElem?_map, List.getElem?_range h]; rfl
theorem pext {L M : List (Int × Int)} (hl : L.length = M.length) (h : ∀ i, i < L.length → L.getD i (0, 0) = M.getD i (0, 0)) : L = M := by
  refine List.ext_getElem hl fun i h1 h2 => ?_
  have := h i h1
  rw [List.getD, List.getD, List.getElem?_eq_getElem h1, List.getElem?_eq_getElem h2] at this
  exact this
theorem zipK_step (xs ys : List Int) (n k : Nat) (h : k < n) : (zipK xs ys n k).set k (xs.getD k 0, ys.getD k 0) = zipK xs ys n (k + 1) := by
  refine pext (by rw [List.length_set, zipK_len, zipK_len]) fun i hi => ?_
  rw [List.length_set, zipK_len] at hi
  rw [pget_set (by rw [zipK_len]; exact hi), zipK_at _ _ _ _ _ hi, zipK_at _ _ _ _ _ hi]
  by_cases e : k = i
  · subst e; rw [if_pos rfl, if_pos (by omega)]
  · rw [if_neg e]
    by_cases q : i < k
    · rw [if_pos q, if_pos (by omega)]
    · rw [if_neg q, if_neg (by omega)]
/-- The parts of a rule. -/
def zipW (xs ys : List Int) : List (Int × Int) := zipK xs ys xs.length xs.length
theorem infoW : (Try.prog.info? 142).map (fun i => (i.zero, i.size, i.bytes)) = some (some (.agg #[.int .i64 0, .int .i64 0]), 2, 16) := by kernel_rfl
def zrowW (n : Nat) : Array Value := madeCells #[.int .i64 0, .int .i64 0] (n * 2)
set_option maxRecDepth 100000 in
theorem run_mkW (n : Nat) (hn : n ≤ 4000000) : ∀ W : World, (Instr.makeSlice 138 (.int .i64 (n : Int)) (.int .i64 (n : Int))).run Try.prog W = .ok (.slice (some ⟨W.heap.size, 0, none⟩) n n) (W.alloc (.cells (zrowW n) 142)) := by
  intro W
  obtain ⟨i0, hi, hz0, hz1, hz2⟩ := info_parts infoW
  have hr := run_make (P := Try.prog) W 138 142 i0 (.agg #[.int .i64 0, .int .i64 0]) Try.underlying138 hi hz0 .i64 .i64 n n (by omega) (by omega) (by rw [hz2]; omega) (by omega)
  simp only [Int.toNat_natCast] at hr
  rw [hr, hz1]
  have e : (Value.agg #[.int .i64 0, .int .i64 0]).cells = #[.int .i64 0, .int .i64 0] := by simp [Value.cells.eq_def]
  rw [e]
  rfl
theorem PR.made (W : World) (n : Nat) (xs ys : List Int) : PR (W.alloc (.cells (zrowW n) 142)) W.heap.size (zipK xs ys n 0) := by
  have hb := heap_alloc_new W (.cells (zrowW n) 142)
  have hc : ∀ j, j < n * 2 → (zrowW n)[j]? = some (.int .i64 0) := fun j hj => by
    unfold zrowW madeCells
    rw [Array.getElem?_map]
    rcases Nat.mod_two_eq_zero_or_one j with h | h <;> simp [h, hj]
  refine ⟨fun i hi => ?_, fun i hi => ?_, fun i hi => ?_, fun i hi => ?_, by simp⟩
  · rw [zipK_len] at hi
    rw [cell_of_row _ _ _ _ _ _ hb, hc _ (by omega), zipK_at _ _ _ _ _ hi, if_neg (by omega)]
  · rw [zipK_len] at hi
    rw [cell_of_row _ _ _ _ _ _ hb, hc _ (by omega), zipK_at _ _ _ _ _ hi, if_neg (by omega)]
  · exact frozen_of_row _ _ _ _ _ hb
  · exact frozen_of_row _ _ _ _ _ hb
set_option maxRecDepth 100000 in
set_option maxHeartbeats 1600000 in
theorem weightedNodes_any (p : Int) (a : Option Addr) (n c : Nat) (xs : List Int) (b : Option Addr) (d : Nat) (ys : List Int) (w : World) (hs : SL w a n c xs) (ht : SL w b n d ys) (hn : n ≤ 1000) :
    Calls Try.prog 191 #[jac p a n c b n d] w fun e w' => ∃ g, e = .returned (.slice (some ⟨g, 0, none⟩) n n) ∧ w.heap.size ≤ g ∧ PR w' g (zipW xs ys) ∧ Below w.heap.size w w' := by
  have hl := hide hs.len
  have hb0 := bl1 w (.cells #[.int .i64 p, .slice a n c, .slice b n d] 52)
  have hb1 := bl2 w (.cells #[.int .i64 p, .slice a n c, .slice b n d] 52) (.cells (zrowW n) 142)
  have hmk := run_mkW n (by omega) (w.alloc (.cells #[.int .i64 p, .slice a n c, .slice b n d] 52))
  have hP0 := hide (PR.made (w.alloc (.cells #[.int .i64 p, .slice a n c, .slice b n d] 52)) n xs ys)
  have hW : Hid (zipK xs ys n n = zipW xs ys) := hide (by unfold zipW; rw [hl.out])
  have e1 := show ((w.alloc (.cells #[.int .i64 p, .slice a n c, .slice b n d] 52)).alloc (.cells (zrowW n) 142)).heap.size = w.heap.size + 2 by simp
  by_cases h0 : n = 0
  · subst h0
    rw [show ((0 : Nat) : Int) = 0 from rfl] at hmk
    go_enter Try.func191, Try.ntmps191
    go_wp2
    refine wp_loop_rounds 1 ?_
    rw [rounds_succ]
    go_wp2
    go_ret
    refine ⟨_, rfl, by simp, ?_, hb1⟩
    rw [← hW.out]
    simpa using hP0.out
  simp only [World.size_alloc] at hmk hP0
  obtain ⟨b1, o1, rfl, hw1, hc1⟩ := hs.at (by omega)
  obtain ⟨b2, o2, rfl, hw2, hc2⟩ := ht.at (by omega)
  go_enter Try.func191, Try.ntmps191
  go_wp2
  clear hmk
  go_loopw [13] (fun iv wr => ∃ k : Nat, k ≤ n ∧ iv = .int .i64 k ∧ Hid (PR wr (w.heap.size + 1) (zipK xs ys n k)) ∧ Hid (Below w.heap.size w wr) ∧ Hid (wr.cell? ⟨w.heap.size, 2, none⟩ = some (.slice (some ⟨b2, o2, none⟩) n d))) (fun iv _ => n - (intOf iv).toNat)
  case atStart => exact ⟨0, by omega, rfl, hP0, hide hb1, hide (by simp [go_sem])⟩
  case round =>
    obtain ⟨k, hk, rfl, hP, hB, hj⟩ := hrel
    clear hP0 hb1
    by_cases hlt : k < n
    · have hlt' : (k : Int) < (n : Int) := by omega
      have q1 : wr.cell? ⟨b1, o1 + k, none⟩ = some (.int .i64 (xs.getD k 0)) := cell_be hB.out (hc1 k hlt)
      have q2 : wr.cell? ⟨b2, o2 + k, none⟩ = some (.int .i64 (ys.getD k 0)) := cell_be hB.out (hc2 k hlt)
      have j2 := hj.out
      have st := hide (zipK_step xs ys n k hlt)
      obtain ⟨X, hX⟩ : ∃ X, xs.getD k 0 = X := ⟨_, rfl⟩
      obtain ⟨Y, hY⟩ : ∃ Y, ys.getD k 0 = Y := ⟨_, rfl⟩
      rw [hX] at q1 st
      rw [hY] at q2 st
      have hlen := zipK_len xs ys n k
      have c0 := hP.out.c0 k (by omega)
      have c1 := hP.out.c1 k (by omega)
      have f0 := hP.out.f0 k (by omega)
      have f1 := hP.out.f1 k (by omega)
      have hS := hide (hP.out.setTwo (show k < (zipK xs ys n k).length by omega) X Y)
      rw [st.out] at hS
      have hBS := hide ((hB.out.setCell (p := ⟨w.heap.size + 1, k * 2, none⟩) (by simp) (.int .i64 X)).setCell (p := ⟨w.heap.size + 1, k * 2 + 1, none⟩) (by simp) (.int .i64 Y))
      have hJS := hide (cell_set2 (cell_set2 j2 (show w.heap.size + 1 ≠ w.heap.size by omega) (.int .i64 X) (a := ⟨w.heap.size + 1, k * 2, none⟩)) (show w.heap.size + 1 ≠ w.heap.size by omega) (.int .i64 Y) (a := ⟨w.heap.size + 1, k * 2 + 1, none⟩))
      clear hX hY hlen hP hB hj
      go_wp2
      go_roundw
      case rel => exact ⟨k + 1, by omega, by go_num, hS, hBS, hJS⟩
      case measure => simp [intOf]; omega
    · have hkn : k = n := by omega
      subst hkn
      have hge : ¬ (k : Int) < (k : Int) := by omega
      go_wp2
      go_ret
      refine ⟨_, rfl, by omega, ?_, hB.out⟩
      rw [← hW.out]
      exact hP.out
end Go.Proofs.Ytkpmonopjkjflaa
/- Mathematics of rules out of parts: weights put at nodes, in whatever order. -/
namespace Go.Proofs.Ytkpmonopjkjflaa
open Go.RowKit Go.Sort
set_option linter.unusedVariables false
set_option linter.unusedSimpArgs false

/-- A rule's parts: a weight put at a node. -/
def putR (p : Int) : List (Int × Int) → Int → Int → List (Int × Int)
  | [], x, v => [(x, v)]
  | (y, u) :: l, x, v => if y < x then (y, u) :: putR p l x v else if y = x then (y, (u + v) % p) :: l else (x, v) :: (y, u) :: l
def putsR (p : Int) (r l : List (Int × Int)) : List (Int × Int) := l.foldl (fun r e => putR p r e.1 e.2) r
theorem putR_comm (p : Int) (r : List (Int × Int)) (x v y u : Int) : putR p (putR p r x v) y u = putR p (putR p r y u) x v := by
  induction r with
  | nil =>
    simp only [putR]
    rcases Int.lt_trichotomy x y with h | h | h
    · rw [if_pos h, if_neg (by omega), if_neg (by omega)]
    · subst h
      rw [if_neg (by omega), if_pos rfl, if_neg (by omega), if_pos rfl, Int.add_comm]
    · rw [if_neg (by omega), if_neg (by omega), if_pos h]
  | cons e l ih =>
    obtain ⟨z, t⟩ := e
    by_cases h1 : z < x
    · have e1 : putR p ((z, t) :: l) x v = (z, t) :: putR p l x v := by rw [putR, if_pos h1]
      by_cases h2 : z < y
      · have e2 : putR p ((z, t) :: l) y u = (z, t) :: putR p l y u := by rw [putR, if_pos h2]
        rw [e1, e2, putR, if_pos h2, putR, if_pos h1, ih]
      · by_cases h3 : z = y
        · have e2 : putR p ((z, t) :: l) y u = (z, (t + u) % p) :: l := by rw [putR, if_neg h2, if_pos h3]
          rw [e1, e2, putR, if_neg h2, if_pos h3, putR, if_pos h1]
        · have e2 : putR p ((z, t) :: l) y u = (y, u) :: (z, t) :: l := by rw [putR, if_neg h2, if_neg h3]
          rw [e1, e2, putR, if_neg h2, if_neg h3, putR, if_pos (by omega), putR, if_pos h1]
    · by_cases h1' : z = x
      · subst h1'
        have e1 : putR p ((z, t) :: l) z v = (z, (t + v) % p) :: l := by rw [putR, if_neg h1, if_pos rfl]
        by_cases h2 : z < y
        · have e2 : putR p ((z, t) :: l) y u = (z, t) :: putR p l y u := by rw [putR, if_pos h2]
          rw [e1, e2, putR, if_pos h2, putR, if_neg h1, if_pos rfl]
        · by_cases h3 : z = y
          · subst h3
            have e2 : putR p ((z, t) :: l) z u = (z, (t + u) % p) :: l := by rw [putR, if_neg h2, if_pos rfl]
            rw [e1, e2, putR, if_neg h2, if_pos rfl, putR, if_neg h2, if_pos rfl, Int.emod_add_emod, Int.emod_add_emod]
            congr 3; omega
          · have e2 : putR p ((z, t) :: l) y u = (y, u) :: (z, t) :: l := by rw [putR, if_neg h2, if_neg h3]
            rw [e1, e2, putR, if_neg h2, if_neg h3, putR, if_pos (by omega), putR, if_neg h1, if_pos rfl]
      · have e1 : putR p ((z, t) :: l) x v = (x, v) :: (z, t) :: l := by rw [putR, if_neg h1, if_neg h1']
        rcases Int.lt_trichotomy x y with h | h | h
        · have e2 : putR p ((x, v) :: (z, t) :: l) y u = (x, v) :: putR p ((z, t) :: l) y u := by rw [putR, if_pos h]
          rw [e1, e2]
          by_cases h2 : z < y
          · rw [show putR p ((z, t) :: l) y u = (z, t) :: putR p l y u by rw [putR, if_pos h2], putR, if_neg h1, if_neg h1']
          · by_cases h3 : z = y
            · rw [show putR p ((z, t) :: l) y u = (z, (t + u) % p) :: l by rw [putR, if_neg h2, if_pos h3], putR, if_neg h1, if_neg h1']
            · rw [show putR p ((z, t) :: l) y u = (y, u) :: (z, t) :: l by rw [putR, if_neg h2, if_neg h3], putR, if_neg (by omega), if_neg (by omega)]
        · subst h
          rw [e1, show putR p ((z, t) :: l) x u = (x, u) :: (z, t) :: l by rw [putR, if_neg h1, if_neg h1'], putR, if_neg (by omega), if_pos rfl, putR, if_neg (by omega), if_pos rfl, Int.add_comm]
        · have e2 : putR p ((z, t) :: l) y u = (y, u) :: (z, t) :: l := by rw [putR, if_neg (by omega), if_neg (by omega)]
          rw [e1, e2, putR, if_neg (by omega), if_neg (by omega), putR, if_pos h, e1]
theorem putsR_perm (p : Int) {l l' : List (Int × Int)} (h : l.Perm l') : ∀ r, putsR p r l = putsR p r l' := by
  induction h with
  | nil => intro r; rfl
  | cons x _ ih => intro r; exact ih _
  | swap x y l => intro r; show putsR p (putR p (putR p r y.1 y.2) x.1 x.2) l = putsR p (putR p (putR p r x.1 x.2) y.1 y.2) l; rw [putR_comm]
  | trans _ _ h1 h2 => intro r; exact (h1 r).trans (h2 r)
/-- What the program does with a list that is ascending. -/
def appR (p : Int) (r : List (Int × Int)) (x v : Int) : List (Int × Int) :=
  match r.getLast? with
  | none => [(x, v)]
  | some e => if e.1 = x then r.dropLast ++ [(e.1, (e.2 + v) % p)] else r ++ [(x, v)]
def AscR (r : List (Int × Int)) : Prop := r.Pairwise (fun a b => a.1 < b.1)
theorem putR_app (p : Int) (r : List (Int × Int)) (x v : Int) (hr : AscR r) (hx : ∀ e ∈ r, e.1 ≤ x) : putR p r x v = appR p r x v := by
  induction r with
  | nil => rfl
  | cons e l ih =>
    obtain ⟨y, u⟩ := e
    rw [AscR, List.pairwise_cons] at hr
    cases l with
    | nil =>
      have h1 := hx (y, u) (by simp)
      simp only at h1
      by_cases h : y = x
      · subst h; simp [putR, appR]
      · simp [putR, appR, h, show y < x by omega]
    | cons f l =>
      have h1 := hr.1 f (by simp)
      have h2 := hx f (by simp)
      simp only at h1
      rw [putR, if_pos (by omega), ih hr.2 (fun e he => hx e (by simp [he]))]
      unfold appR
      rw [List.getLast?_cons_cons]
      cases hg : (f :: l).getLast? with
      | none => simp at hg
      | some g =>
        simp only
        by_cases hq : g.1 = x
        · rw [if_pos hq, if_pos hq]; rfl
        · rw [if_neg hq, if_neg hq]; rfl
theorem appR_asc (p : Int) (r : List (Int × Int)) (x v : Int) (hr : AscR r) (hx : ∀ e ∈ r, e.1 ≤ x) : AscR (appR p r x v) ∧ ∀ e ∈ appR p r x v, e.1 ≤ x := by
  unfold appR
  cases hg : r.getLast? with
  | none => exact ⟨by simp [AscR], by simp⟩
  | some g =>
    have hd : r.dropLast ++ [g] = r := by
      have hne : r ≠ [] := fun e => by subst e; cases hg
      rw [List.getLast?_eq_some_getLast hne] at hg
      cases hg
      exact List.dropLast_concat_getLast hne
    simp only
    rw [← hd] at hr hx
    rw [AscR, List.pairwise_append] at hr
    by_cases hq : g.1 = x
    · rw [if_pos hq]
      refine ⟨?_, fun e he => ?_⟩
      · rw [AscR, List.pairwise_append]
        exact ⟨hr.1, by simp, fun a ha b hb => by simp at hb; subst hb; exact hr.2.2 a ha g (by simp)⟩
      · rw [List.mem_append] at he
        rcases he with he | he
        · exact hx e (by simp [he])
        · simp at he; subst he; simp; omega
    · rw [if_neg hq, ← hd]
      have hgx := hx g (by simp)
      refine ⟨?_, fun e he => ?_⟩
      · rw [AscR, List.pairwise_append]
        refine ⟨by rw [List.pairwise_append]; exact hr, by simp, fun a ha b hb => ?_⟩
        simp at hb; subst hb
        rw [List.mem_append] at ha
        rcases ha with ha | ha
        · have := hr.2.2 a ha g (by simp); simp; omega
        · simp at ha; subst ha; simp; omega
      · rw [List.mem_append] at he
        rcases he with he | he
        · exact hx e he
        · simp at he; subst he; simp
/-- The program's pass over the first k of a list. -/
def appK (p : Int) (d : List (Int × Int)) : List (Int × Int) := d.foldl (fun r e => appR p r e.1 e.2) []
theorem puts_app (p : Int) (d : List (Int × Int)) (hd : d.Pairwise (fun a b => a.1 ≤ b.1)) : ∀ r, AscR r → (∀ e ∈ r, ∀ f ∈ d, e.1 ≤ f.1) → d.foldl (fun r e => appR p r e.1 e.2) r = putsR p r d := by
  induction d with
  | nil => intro r _ _; rfl
  | cons f d ih =>
    intro r hr hx
    rw [List.pairwise_cons] at hd
    have h1 := appR_asc p r f.1 f.2 hr (fun e he => hx e he f (by simp))
    rw [List.foldl_cons, ih hd.2 _ h1.1 (fun e he g hg => Int.le_trans (h1.2 e he) (hd.1 g hg)), ← putR_app p r f.1 f.2 hr (fun e he => hx e he f (by simp))]
    rfl
theorem appK_puts (p : Int) {d l : List (Int × Int)} (hd : d.Pairwise (fun a b => a.1 ≤ b.1)) (hp : d.Perm l) : appK p d = putsR p [] l := by
  unfold appK
  rw [puts_app p d hd [] (by simp [AscR]) (by simp)]
  exact putsR_perm p hp []
/-- A list that is strictly ascending stays as it is. -/
theorem puts_id (p : Int) (l : List (Int × Int)) : ∀ r, AscR (r ++ l) → putsR p r l = r ++ l := by
  induction l with
  | nil => intro r _; simp [putsR]
  | cons f l ih =>
    intro r h
    have h' := h
    rw [AscR, List.pairwise_append] at h
    have hx : ∀ e ∈ r, e.1 < f.1 := fun e he => h.2.2 e he f (by simp)
    have e1 : putR p r f.1 f.2 = r ++ [f] := by
      rw [putR_app p r f.1 f.2 h.1 (fun e he => by have := hx e he; omega)]
      unfold appR
      cases hg : r.getLast? with
      | none => simp at hg; subst hg; rfl
      | some g =>
        have hm := List.mem_of_getLast? hg
        have := hx g hm
        simp only
        rw [if_neg (by omega)]
    show putsR p (putR p r f.1 f.2) l = _
    rw [e1, ih _ (by simpa using h')]
    simp
def nodesR (r : List (Int × Int)) : List Int := r.map (·.1)
def wtsR (r : List (Int × Int)) : List Int := r.map (·.2)
theorem nodesR_len (r : List (Int × Int)) : (nodesR r).length = r.length := by simp [nodesR]
theorem wtsR_len (r : List (Int × Int)) : (wtsR r).length = r.length := by simp [wtsR]
theorem nodesR_last (r : List (Int × Int)) (e : Int × Int) (h : r.getLast? = some e) : (nodesR r).getD (r.length - 1) 0 = e.1 ∧ (wtsR r).getD (r.length - 1) 0 = e.2 := by
  rw [List.getLast?_eq_getElem?] at h
  unfold nodesR wtsR
  rw [List.getD, List.getD, List.getElem?_map, List.getElem?_map, h]
  exact ⟨rfl, rfl⟩
theorem appR_new (p : Int) (r : List (Int × Int)) (x v : Int) (h : r.length = 0 ∨ (nodesR r).getD (r.length - 1) 0 ≠ x) : appR p r x v = r ++ [(x, v)] := by
  unfold appR
  cases hg : r.getLast? with
  | none => simp at hg; subst hg; rfl
  | some e =>
    have := nodesR_last r e hg
    rcases h with h | h
    · have : r = [] := List.eq_nil_of_length_eq_zero h
      subst this
      cases hg
    · rw [this.1] at h
      simp only
      rw [if_neg h]
theorem set_last {α : Type} (r : List α) (hne : r ≠ []) (u : α) : r.dropLast ++ [u] = r.set (r.length - 1) u := by
  have h := List.dropLast_concat_getLast hne
  have hl : r.dropLast.length = r.length - 1 := List.length_dropLast
  conv => rhs; rw [← h]
  rw [List.set_append_right _ _ (by simp), show (r.dropLast ++ [r.getLast hne]).length - 1 - r.dropLast.length = 0 by simp]
  rfl
theorem appR_old (p : Int) (r : List (Int × Int)) (x v : Int) (h0 : r.length ≠ 0) (h : (nodesR r).getD (r.length - 1) 0 = x) : nodesR (appR p r x v) = nodesR r ∧ wtsR (appR p r x v) = (wtsR r).set (r.length - 1) (((wtsR r).getD (r.length - 1) 0 + v) % p) ∧ (appR p r x v).length = r.length := by
  unfold appR
  cases hg : r.getLast? with
  | none => simp at hg; subst hg; exact absurd rfl h0
  | some e =>
    have hl := nodesR_last r e hg
    have hne : r ≠ [] := fun q => by subst q; cases hg
    have hge : r.getLast hne = e := by rw [List.getLast?_eq_some_getLast hne] at hg; exact Option.some.inj hg
    rw [hl.1] at h
    simp only
    rw [if_pos h, hl.2]
    have hd := List.dropLast_concat_getLast hne
    rw [hge] at hd
    refine ⟨?_, ?_, ?_⟩
    · conv => rhs; rw [← hd]
      simp [nodesR]
    · rw [set_last r hne]
      unfold wtsR
      rw [List.map_set]
    · have := List.length_dropLast (xs := r)
      have : r.length ≠ 0 := h0
      simp
      omega
/-- The pass over the first k. -/
def appT (p : Int) (d : List (Int × Int)) (k : Nat) : List (Int × Int) := appK p (d.take k)
theorem appT_zero (p : Int) (d : List (Int × Int)) : appT p d 0 = [] := by simp [appT, appK]
theorem appT_succ (p : Int) (d : List (Int × Int)) (k : Nat) (h : k < d.length) : appT p d (k + 1) = appR p (appT p d k) (d.getD k (0, 0)).1 (d.getD k (0, 0)).2 := by
  have e : d.take (k + 1) = d.take k ++ [d.getD k (0, 0)] := by
    rw [List.take_add_one, List.getD, List.getElem?_eq_getElem h]; rfl
  unfold appT appK
  rw [e, List.foldl_append]
  rfl
theorem appT_all (p : Int) (d : List (Int × Int)) : appT p d d.length = appK p d := by unfold appT; rw [List.take_length]
theorem appR_len (p : Int) (r : List (Int × Int)) (x v : Int) : (appR p r x v).length ≤ r.length + 1 := by
  by_cases h : r.length = 0 ∨ (nodesR r).getD (r.length - 1) 0 ≠ x
  · rw [appR_new p r x v h]; simp
  · have h1 : r.length ≠ 0 := fun q => h (.inl q)
    have h2 : (nodesR r).getD (r.length - 1) 0 = x := by
      by_cases q : (nodesR r).getD (r.length - 1) 0 = x
      · exact q
      · exact absurd (.inr q) h
    rw [(appR_old p r x v h1 h2).2.2]; omega
theorem appT_len (p : Int) (d : List (Int × Int)) (k : Nat) : (appT p d k).length ≤ k := by
  induction k with
  | zero => rw [appT_zero]; simp
  | succ k ih =>
    by_cases h : k < d.length
    · rw [appT_succ p d k h]
      have := appR_len p (appT p d k) (d.getD k (0, 0)).1 (d.getD k (0, 0)).2
      omega
    · have : appT p d (k + 1) = appT p d k := by unfold appT; rw [List.take_of_length_le (by omega), List.take_of_length_le (by omega)]
      rw [this]; omega
/-- The weights stay numbers modulo p. -/
theorem appT_are {p : Int} (hp : 2 ≤ p) {d : List (Int × Int)} (hd : ∀ e ∈ d, 0 ≤ e.2 ∧ e.2 < p) (k : Nat) (hk : k ≤ d.length) : areB p (wtsR (appT p d k)) = true := by
  induction k with
  | zero => rw [appT_zero]; rfl
  | succ k ih =>
    have ih := ih (by omega)
    have hm : d.getD k (0, 0) ∈ d := by rw [List.getD, List.getElem?_eq_getElem (by omega)]; exact List.getElem_mem _
    have hv := hd _ hm
    rw [appT_succ p d k (by omega)]
    obtain ⟨r, hr⟩ : ∃ r, appT p d k = r := ⟨_, rfl⟩
    obtain ⟨e, he⟩ : ∃ e, d.getD k (0, 0) = e := ⟨_, rfl⟩
    rw [hr] at ih ⊢
    rw [he] at hv ⊢
    by_cases h : r.length = 0 ∨ (nodesR r).getD (r.length - 1) 0 ≠ e.1
    · rw [appR_new p r e.1 e.2 h]
      have : wtsR (r ++ [(e.1, e.2)]) = wtsR r ++ [e.2] := by simp [wtsR]
      rw [this]
      unfold areB at ih ⊢
      rw [List.all_append, ih]
      simp [okN, hv]
    · have h1 : r.length ≠ 0 := fun q => h (.inl q)
      have h2 : (nodesR r).getD (r.length - 1) 0 = e.1 := by
        by_cases q : (nodesR r).getD (r.length - 1) 0 = e.1
        · exact q
        · exact absurd (.inr q) h
      rw [(appR_old p r e.1 e.2 h1 h2).2.1]
      refine areB_mk fun j hj => ?_
      rw [List.length_set] at hj
      rw [List.getD, List.getElem?_set]
      by_cases q : r.length - 1 = j
      · subst q
        rw [if_pos rfl, if_pos hj]
        exact modb hp
      · rw [if_neg q, ← List.getD]
        exact getD_rng ih hp j
theorem ownLt {B : Nat} {w : World} {a : Option Addr} {c : Nat} {ys : List Int} (h : Own B w a c ys) : ∀ g, blk a = some g → g < w.heap.size := fun g hg => by
  rcases h.shape with ⟨rfl, _, _⟩ | ⟨g', cur, rfl, _, hgc, _⟩
  · cases hg
  · cases hg; exact lt_of_block hgc
end Go.Proofs.Ytkpmonopjkjflaa
