/- Merged texts. -/
import Derived.Test.YtkpmonopjkjflaaYC528
import Derived.Test.YtkpmonopjkjflaaYC529
/- Contracts: MoveRule (model). -/
namespace Go.Proofs.Ytkpmonopjkjflaa
open Go.RowKit Go.Sort
set_option linter.unusedVariables false
set_option linter.unusedSimpArgs false

theorem putR_wts {p : Int} (hp : 2 ≤ p) (r : List (Int × Int)) (x v : Int) (v0 : 0 ≤ v) (v1 : v < p) : (∀ e ∈ r, 0 ≤ e.2 ∧ e.2 < p) → ∀ e ∈ putR p r x v, 0 ≤ e.2 ∧ e.2 < p := by
  induction r with
  | nil =>
    intro _ e he
    simp [putR] at he
    subst he
    exact ⟨v0, v1⟩
  | cons f l ih =>
    obtain ⟨y, u⟩ := f
    intro h e he
    have hl := ih (fun e he => h e (by simp [he]))
    have hf := h (y, u) (by simp)
    unfold putR at he
    split at he
    · rcases List.mem_cons.1 he with rfl | he
      · exact hf
      · exact hl e he
    · split at he
      · rcases List.mem_cons.1 he with rfl | he
        · exact ⟨Int.emod_nonneg _ (by omega), Int.emod_lt_of_pos _ (by omega)⟩
        · exact h e (by simp [he])
      · rcases List.mem_cons.1 he with rfl | he
        · exact ⟨v0, v1⟩
        · exact h e he
theorem putsR_wts {p : Int} (hp : 2 ≤ p) (L : List (Int × Int)) : ∀ r : List (Int × Int), (∀ e ∈ r, 0 ≤ e.2 ∧ e.2 < p) → (∀ e ∈ L, 0 ≤ e.2 ∧ e.2 < p) → ∀ e ∈ putsR p r L, 0 ≤ e.2 ∧ e.2 < p := by
  induction L with
  | nil => intro r h _; exact h
  | cons f l ih =>
    intro r h hL
    have hf := hL f (by simp)
    exact ih _ (putR_wts hp r f.1 f.2 hf.1 hf.2 h) (fun e he => hL e (by simp [he]))
theorem wtsR_are {p : Int} {r : List (Int × Int)} (h : ∀ e ∈ r, 0 ≤ e.2 ∧ e.2 < p) : areB p (wtsR r) = true := areB_mk fun j hj => by
  have e : (wtsR r).getD j 0 = (wtsR r)[j] := by rw [List.getD, List.getElem?_eq_getElem hj]; rfl
  rw [e]
  obtain ⟨f, hf, he⟩ := List.mem_map.1 (show (wtsR r)[j] ∈ r.map (·.2) from List.getElem_mem _)
  rw [← he]
  exact h f hf
theorem a3_0 (w : World) (A B C : Obj) : (((w.alloc A).alloc B).alloc C).heap[w.heap.size]? = some A := by
  show (((w.heap.push A).push B).push C)[w.heap.size]? = some A
  rw [Array.getElem?_push, if_neg (by simp; omega), Array.getElem?_push, if_neg (by simp), Array.getElem?_push, if_pos rfl]
theorem a3_1 (w : World) (A B C : Obj) : (((w.alloc A).alloc B).alloc C).heap[w.heap.size + 1]? = some B := by
  show (((w.heap.push A).push B).push C)[w.heap.size + 1]? = some B
  rw [Array.getElem?_push, if_neg (by simp), Array.getElem?_push, if_pos (by simp)]
theorem a3_2 (w : World) (A B C : Obj) : (((w.alloc A).alloc B).alloc C).heap[w.heap.size + 2]? = some C := by
  show (((w.heap.push A).push B).push C)[w.heap.size + 2]? = some C
  rw [Array.getElem?_push, if_pos (by simp)]
/-- A rule in a variable of its own. -/
def OutR (w : World) (q : Nat) (p : Int) (ga n c gb m d : Nat) : Prop := w.heap[q]? = some (.cells #[.int .i64 p, .slice (some ⟨ga, 0, none⟩) n c, .slice (some ⟨gb, 0, none⟩) m d] 52 (0, 0))
section
variable {w w' : World} {q : Nat} {p : Int} {ga n c gb m d : Nat}
theorem OutR.c0 (h : OutR w q p ga n c gb m d) : w.cell? ⟨q, 0, none⟩ = some (.int .i64 p) := by rw [cell_of_row w q 0 _ _ (0, 0) h]; rfl
theorem OutR.c1 (h : OutR w q p ga n c gb m d) : w.cell? ⟨q, 1, none⟩ = some (.slice (some ⟨ga, 0, none⟩) n c) := by rw [cell_of_row w q 1 _ _ (0, 0) h]; rfl
theorem OutR.c2 (h : OutR w q p ga n c gb m d) : w.cell? ⟨q, 2, none⟩ = some (.slice (some ⟨gb, 0, none⟩) m d) := by rw [cell_of_row w q 2 _ _ (0, 0) h]; rfl
theorem OutR.fr (h : OutR w q p ga n c gb m d) (j : Nat) : w.frozen? ⟨q, j, none⟩ = false := frozen_of_row w q j _ _ h
theorem OutR.lt (h : OutR w q p ga n c gb m d) : q < w.heap.size := lt_of_block h
theorem OutR.next (h : OutR w q p ga n c gb m d) (hb : Below w.heap.size w w') : OutR w' q p ga n c gb m d := (hb.block q h.lt).trans h
theorem OutR.put (h : OutR w q p ga n c gb m d) (p' : Int) (ga' n' c' gb' m' d' : Nat) : OutR (((w.setCell ⟨q, 0, none⟩ (.int .i64 p')).setCell ⟨q, 1, none⟩ (.slice (some ⟨ga', 0, none⟩) n' c')).setCell ⟨q, 2, none⟩ (.slice (some ⟨gb', 0, none⟩) m' d')) q p' ga' n' c' gb' m' d' := by
  unfold OutR
  have h1 := heap_setCell_same w q 0 _ _ (.int .i64 p') h
  have h2 := heap_setCell_same _ q 1 _ _ (.slice (some ⟨ga', 0, none⟩) n' c') h1
  have h3 := heap_setCell_same _ q 2 _ _ (.slice (some ⟨gb', 0, none⟩) m' d') h2
  rw [h3]
  rfl
theorem OutR.ne (h : OutR w q p ga n c gb m d) {B g cap : Nat} {ys : List Int} (ho : Own B w (some ⟨g, 0, none⟩) cap ys) : g ≠ q := by
  rintro rfl
  rcases ho.shape with ⟨h1, _⟩ | ⟨g', cur, h1, _, h2, _⟩
  · cases h1
  · obtain rfl : g = g' := by cases h1; rfl
    rw [OutR] at h
    rw [h] at h2
    simp at h2
end
theorem putsR_take (p : Int) (L : List (Int × Int)) (k : Nat) (h : k < L.length) : putsR p [] (L.take (k + 1)) = putR p (putsR p [] (L.take k)) (L.getD k (0, 0)).1 (L.getD k (0, 0)).2 := by
  have e : L.getD k (0, 0) = L[k] := by rw [List.getD, List.getElem?_eq_getElem h]; rfl
  rw [e, List.take_add_one, List.getElem?_eq_getElem h]
  unfold putsR
  rw [List.foldl_append]
  rfl
set_option maxRecDepth 100000 in
set_option maxHeartbeats 3200000 in
theorem specMoveRule (p : Int) (a : Option Addr) (n c : Nat) (xs : List Int) (b : Option Addr) (m d : Nat) (ys : List Int) (x y : Int) (w : World) (hs : SL w a n c xs) (ht : SL w b m d ys) (hn : n ≤ 4000000) (hm : m ≤ 4000000) :
    Calls Try.prog 53 #[jac p a n c b m d, .int .i64 x, .int .i64 y] w (ResJ w (mvrP p xs ys x y) (mvrV p xs ys x y) (mvrU p xs ys x y) (mvrC p xs ys x y)) := by
  have hl := hide hs.len
  have hl2 := hide ht.len
  have hb0 := bl2 w (.cells #[.int .i64 p, .slice a n c, .slice b m d] 52) (.cells #[.int .i64 0, .slice none 0 0, .slice none 0 0] 52)
  have g1 := hs.below hb0
  have g2 := ht.below hb0
  cases hj : rulB p xs ys
  · have HC := hide (show mvrC p xs ys x y = 1 by simp [mvrC, hj])
    have HE := hide (mvr_err HC.out (by decide))
    have Hj := hide hj
    clear hj
    go_enter Try.func53, Try.ntmps53
    go_wp2_with fail
    refine (l07Is_any _ _ _ _ _ _ _ _ _ _ g1 g2 hn hm).mono ?_
    rintro e w2 ⟨rfl, hm2⟩
    rw [Hj.out]
    have hB2 := bnext hb0 hm2
    have r0 : w2.cell? ⟨w.heap.size + 1, 0, none⟩ = some (.int .i64 0) := cell_be hm2 (by simp [go_sem])
    have r1 : w2.cell? ⟨w.heap.size + 1, 1, none⟩ = some (.slice none 0 0) := cell_be hm2 (by simp [go_sem])
    have r2 : w2.cell? ⟨w.heap.size + 1, 2, none⟩ = some (.slice none 0 0) := cell_be hm2 (by simp [go_sem])
    have y0 : w2.frozen? ⟨w.heap.size + 1, 0, none⟩ = false := (hm2.frozen (by simp)).trans (by simp [go_sem])
    have y1 : w2.frozen? ⟨w.heap.size + 1, 1, none⟩ = false := (hm2.frozen (by simp)).trans (by simp [go_sem])
    have y2 : w2.frozen? ⟨w.heap.size + 1, 2, none⟩ = false := (hm2.frozen (by simp)).trans (by simp [go_sem])
    go_wp2
    refine bodyPost_ret (v := .tuple #[jac 0 none 0 0 none 0 0, .int .i64 1]) (by simp [results, Try.results53, go_sem, r0, r1, r2]) rfl ?_
    exact ResJ.nil HE.out.1 HE.out.2.1 HE.out.2.2 HC.out (((hB2.setCell (by simp) _).setCell (by simp) _).setCell (by simp) _)
  have Hj := hide hj
  obtain ⟨hpr, n2, n3, hx, hy, hasc⟩ := rulB_rng hj
  obtain ⟨hp, hp2⟩ := primeB_lo hpr
  rw [hl.out] at n2 n3
  rw [hl2.out] at n3
  subst n3
  have vp : IntKind.i64.wrap (p - 1) = p - 1 := IntWalk.i64_in _ (by omega)
  by_cases h1 : 1 ≤ x ∧ x ≤ p - 1
  rotate_left
  · have HC := hide (show mvrC p xs ys x y = 2 by simp only [mvrC, hj, if_true]; rw [if_neg (by omega)])
    have HE := hide (mvr_err HC.out (by decide))
    have Hn := hide h1
    clear hj h1 hpr hx hy hasc
    go_enter Try.func53, Try.ntmps53
    go_wp2_with fail
    refine (l07Is_any _ _ _ _ _ _ _ _ _ _ g1 g2 hn hm).mono ?_
    rintro e w2 ⟨rfl, hm2⟩
    rw [Hj.out]
    have hB2 := bnext hb0 hm2
    have f0 : w2.cell? ⟨w.heap.size, 0, none⟩ = some (.int .i64 p) := cell_be hm2 (by simp [go_sem])
    have r0 : w2.cell? ⟨w.heap.size + 1, 0, none⟩ = some (.int .i64 0) := cell_be hm2 (by simp [go_sem])
    have r1 : w2.cell? ⟨w.heap.size + 1, 1, none⟩ = some (.slice none 0 0) := cell_be hm2 (by simp [go_sem])
    have r2 : w2.cell? ⟨w.heap.size + 1, 2, none⟩ = some (.slice none 0 0) := cell_be hm2 (by simp [go_sem])
    have y0 : w2.frozen? ⟨w.heap.size + 1, 0, none⟩ = false := (hm2.frozen (by simp)).trans (by simp [go_sem])
    have y1 : w2.frozen? ⟨w.heap.size + 1, 1, none⟩ = false := (hm2.frozen (by simp)).trans (by simp [go_sem])
    have y2 : w2.frozen? ⟨w.heap.size + 1, 2, none⟩ = false := (hm2.frozen (by simp)).trans (by simp [go_sem])
    go_wp2_with fail
    refine (l01In_no _ _ _ _ Hn.out).mono ?_
    rintro e w2' ⟨rfl, rfl⟩
    go_wp2
    refine bodyPost_ret (v := .tuple #[jac 0 none 0 0 none 0 0, .int .i64 2]) (by simp [results, Try.results53, go_sem, r0, r1, r2]) rfl ?_
    exact ResJ.nil HE.out.1 HE.out.2.1 HE.out.2.2 HC.out (((hB2.setCell (by simp) _).setCell (by simp) _).setCell (by simp) _)
  by_cases h3 : 0 ≤ y ∧ y ≤ p - 1
  rotate_left
  · have HC := hide (show mvrC p xs ys x y = 2 by simp only [mvrC, hj, if_true]; rw [if_neg (by omega)])
    have HE := hide (mvr_err HC.out (by decide))
    have Hn := hide h3
    obtain ⟨x0, x1⟩ := h1
    clear hj h3 hpr hx hy hasc
    go_enter Try.func53, Try.ntmps53
    go_wp2_with fail
    refine (l07Is_any _ _ _ _ _ _ _ _ _ _ g1 g2 hn hm).mono ?_
    rintro e w2 ⟨rfl, hm2⟩
    rw [Hj.out]
    have hB2 := bnext hb0 hm2
    have f0 : w2.cell? ⟨w.heap.size, 0, none⟩ = some (.int .i64 p) := cell_be hm2 (by simp [go_sem])
    have r0 : w2.cell? ⟨w.heap.size + 1, 0, none⟩ = some (.int .i64 0) := cell_be hm2 (by simp [go_sem])
    have r1 : w2.cell? ⟨w.heap.size + 1, 1, none⟩ = some (.slice none 0 0) := cell_be hm2 (by simp [go_sem])
    have r2 : w2.cell? ⟨w.heap.size + 1, 2, none⟩ = some (.slice none 0 0) := cell_be hm2 (by simp [go_sem])
    have y0 : w2.frozen? ⟨w.heap.size + 1, 0, none⟩ = false := (hm2.frozen (by simp)).trans (by simp [go_sem])
    have y1 : w2.frozen? ⟨w.heap.size + 1, 1, none⟩ = false := (hm2.frozen (by simp)).trans (by simp [go_sem])
    have y2 : w2.frozen? ⟨w.heap.size + 1, 2, none⟩ = false := (hm2.frozen (by simp)).trans (by simp [go_sem])
    go_wp2_with fail
    refine (l01In_yes _ _ _ _ x0 x1).mono ?_
    rintro e w2' ⟨rfl, rfl⟩
    go_wp2_with fail
    refine (l01In_no _ _ _ _ Hn.out).mono ?_
    rintro e w2' ⟨rfl, rfl⟩
    go_wp2
    refine bodyPost_ret (v := .tuple #[jac 0 none 0 0 none 0 0, .int .i64 2]) (by simp [results, Try.results53, go_sem, r0, r1, r2]) rfl ?_
    exact ResJ.nil HE.out.1 HE.out.2.1 HE.out.2.2 HC.out (((hB2.setCell (by simp) _).setCell (by simp) _).setCell (by simp) _)
  have HC := hide (show mvrC p xs ys x y = 0 by simp only [mvrC, hj, if_true]; rw [if_pos (by omega)])
  have HQ := hide (show mvrP p xs ys x y = p by unfold mvrP; rw [if_pos HC.out])
  have HV := hide (show mvrV p xs ys x y = nodesR (mvrR p xs ys x y) by unfold mvrV; rw [if_pos HC.out])
  have HU := hide (show mvrU p xs ys x y = wtsR (mvrR p xs ys x y) by unfold mvrU; rw [if_pos HC.out])
  obtain ⟨x0, x1⟩ := h1
  obtain ⟨y0', y1'⟩ := h3
  have HW := hide (movW_wts (A := x) (B := y) (zipW_wts (xs := xs) hp hy))
  have HX := hide hx
  have HY := hide hy
  clear hj hpr hx hy hasc
  go_enter Try.func53, Try.ntmps53
  go_wp2_with fail
  refine (l07Is_any _ _ _ _ _ _ _ _ _ _ g1 g2 hn hm).mono ?_
  rintro e w2 ⟨rfl, hm2⟩
  rw [Hj.out]
  have hB2 := bnext hb0 hm2
  have z2 := hm2.size
  simp at z2
  have f0 : w2.cell? ⟨w.heap.size, 0, none⟩ = some (.int .i64 p) := cell_be hm2 (by simp [go_sem])
  have f1 : w2.cell? ⟨w.heap.size, 1, none⟩ = some (.slice a m c) := cell_be hm2 (by simp [go_sem])
  have f2 : w2.cell? ⟨w.heap.size, 2, none⟩ = some (.slice b m d) := cell_be hm2 (by simp [go_sem])
  have r0 : w2.cell? ⟨w.heap.size + 1, 0, none⟩ = some (.int .i64 0) := cell_be hm2 (by simp [go_sem])
  have r1 : w2.cell? ⟨w.heap.size + 1, 1, none⟩ = some (.slice none 0 0) := cell_be hm2 (by simp [go_sem])
  have r2 : w2.cell? ⟨w.heap.size + 1, 2, none⟩ = some (.slice none 0 0) := cell_be hm2 (by simp [go_sem])
  have y0 : w2.frozen? ⟨w.heap.size + 1, 0, none⟩ = false := (hm2.frozen (by simp)).trans (by simp [go_sem])
  have y1 : w2.frozen? ⟨w.heap.size + 1, 1, none⟩ = false := (hm2.frozen (by simp)).trans (by simp [go_sem])
  have y2 : w2.frozen? ⟨w.heap.size + 1, 2, none⟩ = false := (hm2.frozen (by simp)).trans (by simp [go_sem])
  go_wp2_with fail
  refine (l01In_yes _ _ _ _ x0 x1).mono ?_
  rintro e w2' ⟨rfl, rfl⟩
  go_wp2_with fail
  refine (l01In_yes _ _ _ _ y0' y1').mono ?_
  rintro e w2' ⟨rfl, rfl⟩
  go_upto_region 6 with fail
  have hb3 := bl3 w2 (.cells #[] 2) (.cells #[] 2) (.cells #[.int .i64 p, .slice (some ⟨w2.heap.size, 0, none⟩) 0 0, .slice (some ⟨w2.heap.size + 1, 0, none⟩) 0 0] 52)
  have oq : OutR (((w2.alloc (.cells #[] 2)).alloc (.cells #[] 2)).alloc (.cells #[.int .i64 p, .slice (some ⟨w2.heap.size, 0, none⟩) 0 0, .slice (some ⟨w2.heap.size + 1, 0, none⟩) 0 0] 52)) (w2.heap.size + 2) p w2.heap.size 0 0 (w2.heap.size + 1) 0 0 := a3_2 _ _ _ _
  have hU : UOwn w2.heap.size (((w2.alloc (.cells #[] 2)).alloc (.cells #[] 2)).alloc (.cells #[.int .i64 p, .slice (some ⟨w2.heap.size, 0, none⟩) 0 0, .slice (some ⟨w2.heap.size + 1, 0, none⟩) 0 0] 52)) w2.heap.size 0 (w2.heap.size + 1) 0 [] := by
    refine ⟨⟨rfl, .inr ⟨_, 0, #[], rfl, by omega, a3_0 _ _ _ _, Nat.le_refl _, Nat.zero_le _, rfl, rfl⟩⟩, ⟨rfl, .inr ⟨_, 0, #[], rfl, by omega, a3_1 _ _ _ _, Nat.le_refl _, Nat.zero_le _, rfl, rfl⟩⟩, by omega⟩
  obtain ⟨w3, hw3⟩ : ∃ w3, w3 = ((w2.alloc (.cells #[] 2)).alloc (.cells #[] 2)).alloc (.cells #[.int .i64 p, .slice (some ⟨w2.heap.size, 0, none⟩) 0 0, .slice (some ⟨w2.heap.size + 1, 0, none⟩) 0 0] 52) := ⟨_, rfl⟩
  rw [← hw3] at hb3 oq hU ⊢
  clear hw3
  replace y0 := (hb3.frozen (World.block_lt_of_cell? _ _ r0)).trans y0
  replace y1 := (hb3.frozen (World.block_lt_of_cell? _ _ r1)).trans y1
  replace y2 := (hb3.frozen (World.block_lt_of_cell? _ _ r2)).trans y2
  replace f0 := cell_be hb3 f0
  replace f1 := cell_be hb3 f1
  replace f2 := cell_be hb3 f2
  replace r0 := cell_be hb3 r0
  replace r1 := cell_be hb3 r1
  replace r2 := cell_be hb3 r2
  have hB3 := bnext hB2 hb3
  have z3 := hb3.size
  have HLl : Hid ((movW p x y (zipW xs ys)).length = m) := hide (by rw [movW_len, zipW_len]; exact hl.out)
  have HLv : Hid (∀ i, i < m → (movW p x y (zipW xs ys)).getD i (0, 0) = ((y + x * xs.getD i 0) % p, ys.getD i 0)) := hide fun i hi => by
    rw [movW_at _ _ _ _ _ (by rw [zipW_len, hl.out]; exact hi), zipW_at xs ys i (by rw [hl.out]; exact hi)]
  have HRe : Hid (mvrR p xs ys x y = putsR p [] (movW p x y (zipW xs ys))) := hide rfl
  obtain ⟨L, hL⟩ : ∃ L, movW p x y (zipW xs ys) = L := ⟨_, rfl⟩
  rw [hL] at HLl HLv HRe HW
  clear hL
  have hRw : Hid (∀ k, k ≤ m → areB p (wtsR (putsR p [] (L.take k))) = true ∧ (putsR p [] (L.take k)).length ≤ 24) := hide fun k hk => by
    refine ⟨wtsR_are (putsR_wts hp _ [] (by simp) (fun e he => HW.out e (List.mem_of_mem_take he))), ?_⟩
    have := putsR_len p (L.take k) []
    rw [List.length_take, HLl.out] at this
    simp at this
    omega
  go_wp2
  go_loopw [9] (fun iv wr => ∃ k ga ca gb cb N : Nat, k ≤ m ∧ iv = .int .i64 k ∧ Hid (wr.cell? ⟨w.heap.size, 0, none⟩ = some (.int .i64 p) ∧ wr.cell? ⟨w.heap.size, 1, none⟩ = some (.slice a m c) ∧ wr.cell? ⟨w.heap.size, 2, none⟩ = some (.slice b m d)) ∧ Hid (wr.cell? ⟨w.heap.size + 1, 0, none⟩ = some (.int .i64 0) ∧ wr.cell? ⟨w.heap.size + 1, 1, none⟩ = some (.slice none 0 0) ∧ wr.cell? ⟨w.heap.size + 1, 2, none⟩ = some (.slice none 0 0) ∧ wr.frozen? ⟨w.heap.size + 1, 0, none⟩ = false ∧ wr.frozen? ⟨w.heap.size + 1, 1, none⟩ = false ∧ wr.frozen? ⟨w.heap.size + 1, 2, none⟩ = false) ∧ Hid ((putsR p [] (L.take k)).length = N) ∧ Hid (OutR wr (w2.heap.size + 2) p ga N ca gb N cb) ∧ Hid (UOwn w2.heap.size wr ga ca gb cb (putsR p [] (L.take k))) ∧ Hid (Below w.heap.size w wr) ∧ w3.heap.size ≤ wr.heap.size) (fun iv _ => m - (intOf iv).toNat)
  case atStart => exact ⟨0, _, _, _, _, 0, by omega, rfl, hide ⟨f0, f1, f2⟩, hide ⟨r0, r1, r2, y0, y1, y2⟩, hide rfl, hide oq, hide hU, hide hB3, Nat.le_refl _⟩
  case round =>
    clear f0 f1 f2 r0 r1 r2 y0 y1 y2 oq hU hB3
    obtain ⟨k, ga, ca, gb, cb, N, hk, rfl, hF, hR, hN, oq, hU, hB3, z4⟩ := hrel
    obtain ⟨f0, f1, f2⟩ := hF.out
    obtain ⟨r0, r1, r2, y0, y1, y2⟩ := hR.out
    by_cases hkm : k < m
    · have hkm' : (k : Int) < (m : Int) := by omega
      have hk0 : (0 : Int) ≤ (k : Int) := by omega
      obtain ⟨b1, o1, rfl, hb1, e1'⟩ := (hs.below hB3.out).at (show 0 < m by omega)
      obtain ⟨b2, o2, rfl, hb2, e2'⟩ := (ht.below hB3.out).at (show 0 < m by omega)
      have e1 := e1' k hkm
      have e2 := e2' k hkm
      have hLk := HLv.out k hkm
      have rX := getD_rng HX.out hp k
      have rY := getD_rng HY.out hp k
      obtain ⟨X, hX⟩ : ∃ X, xs.getD k 0 = X := ⟨_, rfl⟩
      obtain ⟨Y, hY⟩ : ∃ Y, ys.getD k 0 = Y := ⟨_, rfl⟩
      rw [hX] at e1 hLk rX
      rw [hY] at e2 hLk rY
      have hst := putsR_take p L k (by rw [HLl.out]; exact hkm)
      rw [hLk] at hst
      have q0 := oq.out.c0
      have q1 := oq.out.c1
      have q2 := oq.out.c2
      have q3 := oq.out.fr 0
      have q4 := oq.out.fr 1
      have q5 := oq.out.fr 2
      have m1 : x * X ≤ 10007 * 10007 := Int.mul_le_mul (by omega) (by omega) (by omega) (by omega)
      have m0 : 0 ≤ x * X := Int.mul_nonneg (by omega) (by omega)
      have v1 : IntKind.i64.wrap (x * X) = x * X := IntWalk.i64_in _ (by omega)
      have v2 : IntKind.i64.wrap (x * X + y) = x * X + y := IntWalk.i64_in _ (by omega)
      have v3 : (x * X + y).tmod p = (y + x * X) % p := by rw [Int.tmod_eq_emod_of_nonneg (by omega), Int.add_comm]
      have rV := modb (x := y + x * X) hp
      obtain ⟨V, hV⟩ : ∃ V, (y + x * X) % p = V := ⟨_, rfl⟩
      rw [hV] at v3 rV hst
      have v4 : IntKind.i64.wrap V = V := IntWalk.i64_in _ (by omega)
      have hp0 : ¬ p = 0 := by omega
      have Hst := hide hst
      have HRk := hRw.out k hk
      obtain ⟨R, hR'⟩ : ∃ R, putsR p [] (L.take k) = R := ⟨_, rfl⟩
      rw [hR'] at hN hU Hst HRk
      have HRk := hide HRk
      clear hX hY e1' e2' hLk hst hV hR' m1 m0
      go_upto_region 9 with fail
      have hbd := (Below.refl wr.heap.size wr).drew
      have F : ∀ w', Below wr.heap.size wr w' → w'.cell? ⟨w.heap.size, 0, none⟩ = some (.int .i64 p) ∧ w'.cell? ⟨w.heap.size, 1, none⟩ = some (.slice (some ⟨b1, o1, none⟩) m c) ∧ w'.cell? ⟨w.heap.size, 2, none⟩ = some (.slice (some ⟨b2, o2, none⟩) m d) ∧ w'.cell? ⟨w2.heap.size + 2, 0, none⟩ = some (.int .i64 p) ∧ w'.cell? ⟨w2.heap.size + 2, 1, none⟩ = some (.slice (some ⟨ga, 0, none⟩) N ca) ∧ w'.cell? ⟨w2.heap.size + 2, 2, none⟩ = some (.slice (some ⟨gb, 0, none⟩) N cb) ∧ w'.cell? ⟨b1, o1 + k, none⟩ = some (.int .i64 X) ∧ w'.cell? ⟨b2, o2 + k, none⟩ = some (.int .i64 Y) := fun w' h => ⟨cell_be h f0, cell_be h f1, cell_be h f2, cell_be h q0, cell_be h q1, cell_be h q2, cell_be h e1, cell_be h e2⟩
      refine region_E (fun w' => w'.cell? ⟨w.heap.size, 0, none⟩ = some (.int .i64 p) ∧ w'.cell? ⟨w.heap.size, 1, none⟩ = some (.slice (some ⟨b1, o1, none⟩) m c) ∧ w'.cell? ⟨w.heap.size, 2, none⟩ = some (.slice (some ⟨b2, o2, none⟩) m d) ∧ w'.cell? ⟨w2.heap.size + 2, 0, none⟩ = some (.int .i64 p) ∧ w'.cell? ⟨w2.heap.size + 2, 1, none⟩ = some (.slice (some ⟨ga, 0, none⟩) N ca) ∧ w'.cell? ⟨w2.heap.size + 2, 2, none⟩ = some (.slice (some ⟨gb, 0, none⟩) N cb) ∧ w'.cell? ⟨b1, o1 + k, none⟩ = some (.int .i64 X) ∧ w'.cell? ⟨b2, o2 + k, none⟩ = some (.int .i64 Y)) 19 (by kernel_rfl) (F _ hbd) ?_
      intro hS
      refine anyE_takeL 0 rfl (by kernel_rfl) (fun _ _ _ h => h) hS (by rfl) (v := ?_) ?_ ?_
      rotate_left
      · intro w' hSw; (try dsimp only at hSw); go_simp; (try with_reducible rfl)
      try simp only [Act.put, List.setIfInBounds_toArray, List.set_cons_zero, List.set_cons_succ]
      refine anyE_takeL 1 rfl (by kernel_rfl) (fun _ _ _ h => h) hS (by rfl) (v := ?_) ?_ ?_
      rotate_left
      · intro w' hSw; (try dsimp only at hSw); go_simp; (try with_reducible rfl)
      try simp only [Act.put, List.setIfInBounds_toArray, List.set_cons_zero, List.set_cons_succ]
      refine anyE_takeL 2 rfl (by kernel_rfl) (fun _ _ _ h => h) hS (by rfl) (v := ?_) ?_ ?_
      rotate_left
      · intro w' hSw; (try dsimp only at hSw); go_simp; (try with_reducible rfl)
      try simp only [Act.put, List.setIfInBounds_toArray, List.set_cons_zero, List.set_cons_succ]
      refine anyE_takeL 3 rfl (by kernel_rfl) (fun _ _ _ h => h) hS (by rfl) (v := ?_) ?_ ?_
      rotate_left
      · intro w' hSw; (try dsimp only at hSw); go_simp; (try with_reducible rfl)
      try simp only [Act.put, List.setIfInBounds_toArray, List.set_cons_zero, List.set_cons_succ]
      refine anyE_takeL 4 rfl (by kernel_rfl) (fun _ _ _ h => h) hS (by rfl) (v := ?_) ?_ ?_
      rotate_left
      · intro w' hSw; (try dsimp only at hSw); go_simp; (try with_reducible rfl)
      try simp only [Act.put, List.setIfInBounds_toArray, List.set_cons_zero, List.set_cons_succ]
      refine anyE_takeL 5 rfl (by kernel_rfl) (fun _ _ _ h => h) hS (by rfl) (v := ?_) ?_ ?_
      rotate_left
      · intro w' hSw; (try dsimp only at hSw); go_simp; (try with_reducible rfl)
      try simp only [Act.put, List.setIfInBounds_toArray, List.set_cons_zero, List.set_cons_succ]
      refine anyE_takeL 6 rfl (by kernel_rfl) (fun _ _ _ h => h) hS (by rfl) (v := ?_) ?_ ?_
      rotate_left
      · intro w' hSw; (try dsimp only at hSw); go_simp; (try with_reducible rfl)
      try simp only [Act.put, List.setIfInBounds_toArray, List.set_cons_zero, List.set_cons_succ]
      refine anyE_takeL 7 rfl (by kernel_rfl) (fun _ _ _ h => h) hS (by rfl) (v := ?_) ?_ ?_
      rotate_left
      · intro w' hSw; (try dsimp only at hSw); go_simp; (try with_reducible rfl)
      try simp only [Act.put, List.setIfInBounds_toArray, List.set_cons_zero, List.set_cons_succ]
      refine anyE_takeL 8 rfl (by kernel_rfl) (fun _ _ _ h => h) hS (by rfl) (v := ?_) ?_ ?_
      rotate_left
      · intro w' hSw; (try dsimp only at hSw); go_simp; (try with_reducible rfl)
      try simp only [Act.put, List.setIfInBounds_toArray, List.set_cons_zero, List.set_cons_succ]
      refine anyE_takeL 9 rfl (by kernel_rfl) (fun _ _ _ h => h) hS (by rfl) (v := ?_) ?_ ?_
      rotate_left
      · intro w' hSw; (try dsimp only at hSw); go_simp; (try with_reducible rfl)
      try simp only [Act.put, List.setIfInBounds_toArray, List.set_cons_zero, List.set_cons_succ]
      refine anyE_takeL 10 rfl (by kernel_rfl) (fun _ _ _ h => h) hS (by rfl) (v := ?_) ?_ ?_
      rotate_left
      · intro w' hSw; (try dsimp only at hSw); go_simp; (try with_reducible rfl)
      try simp only [Act.put, List.setIfInBounds_toArray, List.set_cons_zero, List.set_cons_succ]
      refine anyE_takeL 11 rfl (by kernel_rfl) (fun _ _ _ h => h) hS (by rfl) (v := ?_) ?_ ?_
      rotate_left
      · intro w' hSw; (try dsimp only at hSw); go_simp; (try with_reducible rfl)
      try simp only [Act.put, List.setIfInBounds_toArray, List.set_cons_zero, List.set_cons_succ]
      refine anyE_takeL 12 rfl (by kernel_rfl) (fun _ _ _ h => h) hS (by rfl) (v := ?_) ?_ ?_
      rotate_left
      · intro w' hSw; (try dsimp only at hSw); go_simp; (try with_reducible rfl)
      try simp only [Act.put, List.setIfInBounds_toArray, List.set_cons_zero, List.set_cons_succ]
      refine anyE_takeL 13 rfl (by kernel_rfl) (fun _ _ _ h => h) hS (by rfl) (v := ?_) ?_ ?_
      rotate_left
      · intro w' hSw; (try dsimp only at hSw); go_simp; (try with_reducible rfl)
      try simp only [Act.put, List.setIfInBounds_toArray, List.set_cons_zero, List.set_cons_succ]
      refine anyE_takeL 14 rfl (by kernel_rfl) (fun _ _ _ h => h) hS (by rfl) (v := ?_) ?_ ?_
      rotate_left
      · intro w' hSw; (try dsimp only at hSw); go_simp; (try with_reducible rfl)
      try simp only [Act.put, List.setIfInBounds_toArray, List.set_cons_zero, List.set_cons_succ]
      refine anyE_takeL 15 rfl (by kernel_rfl) (fun _ _ _ h => h) hS (by rfl) (v := ?_) ?_ ?_
      rotate_left
      · intro w' hSw; (try dsimp only at hSw); go_simp; (try with_reducible rfl)
      try simp only [Act.put, List.setIfInBounds_toArray, List.set_cons_zero, List.set_cons_succ]
      refine anyE_takeL 16 rfl (by kernel_rfl) (fun _ _ _ h => h) hS (by rfl) (v := ?_) ?_ ?_
      rotate_left
      · intro w' hSw; (try dsimp only at hSw); go_simp; (try with_reducible rfl)
      try simp only [Act.put, List.setIfInBounds_toArray, List.set_cons_zero, List.set_cons_succ]
      refine anyE_takeL 17 rfl (by kernel_rfl) (fun _ _ _ h => h) hS (by rfl) (v := ?_) ?_ ?_
      rotate_left
      · intro w' hSw; (try dsimp only at hSw); go_simp; (try with_reducible rfl)
      try simp only [Act.put, List.setIfInBounds_toArray, List.set_cons_zero, List.set_cons_succ]
      clear hS
      refine anyE_oneL 18 (by kernel_rfl) rfl (fun K' hK' => ?_)
      go_simp
      have hUd : UOwn w2.heap.size wr.drew ga ca gb cb R := ⟨hU.out.1.below hbd, hU.out.2.1.below hbd, hU.out.2.2⟩
      refine (l07Put_any p ga N ca gb cb R V Y w2.heap.size _ hUd hN.out (by have := hbd.size; omega) (by have := HRk.out.2; rw [hN.out] at this; omega) hp hp2 HRk.out.1 (by omega) (by omega)).mono ?_
      rintro e w5 ⟨ga', ca', gb', cb', rfl, hU5, t5⟩
      dsimp only
      have hm5 := bnext hbd t5
      rw [← Hst.out] at hU5 ⊢
      obtain ⟨R', hR'⟩ : ∃ R', putsR p [] (L.take (k + 1)) = R' := ⟨_, rfl⟩
      rw [hR'] at hU5 ⊢
      obtain ⟨N', hN'⟩ : ∃ N', R'.length = N' := ⟨_, rfl⟩
      rw [hN']
      refine hK'.out _ _ (F _ hm5) ?_
      clear hK' K'
      try simp only [Act.put, List.setIfInBounds_toArray, List.set_cons_zero, List.set_cons_succ]
      have oq5 := oq.out.next hm5
      have p0 := oq5.c0
      have p1 := oq5.c1
      have p2 := oq5.c2
      have p3 := oq5.fr 0
      have p4 := oq5.fr 1
      have p5 := oq5.fr 2
      have oq6 := oq5.put p ga' N' ca' gb' N' cb'
      have n1 := oq5.ne hU5.1
      have n2 := oq5.ne hU5.2.1
      have HU5 := hide hU5
      have hz := oq.out.lt
      have hm5' := hide hm5
      have hw2 := hide (show w2.heap.size + 2 ≠ w.heap.size by omega)
      clear hU5 oq5
      refine anyE_lastL (by kernel_rfl) rfl (by kernel_rfl) (fun K' hK' => ?_)
      go_simp
      refine hK'.out _ _ ?_
      clear hK' K'
      try simp only [Act.put, List.setIfInBounds_toArray, List.set_cons_zero, List.set_cons_succ]
      have hE : ∀ b o v, b ≠ w2.heap.size + 2 → w5.cell? ⟨b, o, none⟩ = some v → (((w5.setCell ⟨w2.heap.size + 2, 0, none⟩ (.int .i64 p)).setCell ⟨w2.heap.size + 2, 1, none⟩ (.slice (some ⟨ga', 0, none⟩) N' ca')).setCell ⟨w2.heap.size + 2, 2, none⟩ (.slice (some ⟨gb', 0, none⟩) N' cb')).cell? ⟨b, o, none⟩ = some v := fun b o v hb h => cell_set2 (cell_set2 (cell_set2 h (Ne.symm hb) _) (Ne.symm hb) _) (Ne.symm hb) _
      have hEf : ∀ a, w5.frozen? a = false → (((w5.setCell ⟨w2.heap.size + 2, 0, none⟩ (.int .i64 p)).setCell ⟨w2.heap.size + 2, 1, none⟩ (.slice (some ⟨ga', 0, none⟩) N' ca')).setCell ⟨w2.heap.size + 2, 2, none⟩ (.slice (some ⟨gb', 0, none⟩) N' cb')).frozen? a = false := fun a h => by simpa using h
      have hO : ∀ {g cap : Nat} {ys : List Int}, Own w2.heap.size w5 (some ⟨g, 0, none⟩) cap ys → g ≠ w2.heap.size + 2 → Own w2.heap.size (((w5.setCell ⟨w2.heap.size + 2, 0, none⟩ (.int .i64 p)).setCell ⟨w2.heap.size + 2, 1, none⟩ (.slice (some ⟨ga', 0, none⟩) N' ca')).setCell ⟨w2.heap.size + 2, 2, none⟩ (.slice (some ⟨gb', 0, none⟩) N' cb')) (some ⟨g, 0, none⟩) cap ys := fun {g cap ys} h hne => by
        have hr : blk (some (⟨g, 0, none⟩ : Addr)) ≠ some (w2.heap.size + 2) := fun e => hne (Option.some.inj e)
        exact ((h.otherG hr _).otherG hr _).otherG hr _
      have hU6 := hide (show UOwn w2.heap.size _ ga' ca' gb' cb' R' from ⟨hO HU5.out.1 n1, hO HU5.out.2.1 n2, HU5.out.2.2⟩)
      have hB6 := hide (show Below w.heap.size w _ from ((((hB3.out.trans (hm5'.out.mono (by have := hB3.out.size; omega))).setCell (p := ⟨w2.heap.size + 2, 0, none⟩) (show w.heap.size ≤ w2.heap.size + 2 by omega) (.int .i64 p)).setCell (p := ⟨w2.heap.size + 2, 1, none⟩) (show w.heap.size ≤ w2.heap.size + 2 by omega) (.slice (some ⟨ga', 0, none⟩) N' ca')).setCell (p := ⟨w2.heap.size + 2, 2, none⟩) (show w.heap.size ≤ w2.heap.size + 2 by omega) (.slice (some ⟨gb', 0, none⟩) N' cb')))
      have hF6 := hide (And.intro (hE _ _ _ hw2.out.symm (cell_be hm5'.out f0)) (And.intro (hE _ _ _ hw2.out.symm (cell_be hm5'.out f1)) (hE _ _ _ hw2.out.symm (cell_be hm5'.out f2))))
      have hqr : w.heap.size + 1 ≠ w2.heap.size + 2 := by omega
      have hfz : ∀ o v, wr.cell? ⟨w.heap.size + 1, o, none⟩ = some v → wr.frozen? ⟨w.heap.size + 1, o, none⟩ = false → w5.frozen? ⟨w.heap.size + 1, o, none⟩ = false := fun o v h hf => (hm5'.out.frozen (World.block_lt_of_cell? _ _ h)).trans hf
      have hR6 := hide (And.intro (hE _ _ _ hqr (cell_be hm5'.out r0)) (And.intro (hE _ _ _ hqr (cell_be hm5'.out r1)) (And.intro (hE _ _ _ hqr (cell_be hm5'.out r2)) (And.intro (hEf _ (hfz _ _ r0 y0)) (And.intro (hEf _ (hfz _ _ r1 y1)) (hEf _ (hfz _ _ r2 y2)))))))
      have z6 : w3.heap.size ≤ (((w5.setCell ⟨w2.heap.size + 2, 0, none⟩ (.int .i64 p)).setCell ⟨w2.heap.size + 2, 1, none⟩ (.slice (some ⟨ga', 0, none⟩) N' ca')).setCell ⟨w2.heap.size + 2, 2, none⟩ (.slice (some ⟨gb', 0, none⟩) N' cb')).heap.size := by have := hm5'.out.size; simp; omega
      have hN6 := hide (show (putsR p [] (L.take (k + 1))).length = N' by rw [hR', hN'])
      have oq6' := hide oq6
      rw [← hR'] at hU6
      clear hE hEf hO hfz p0 p1 p2 p3 p4 p5 oq6
      obtain ⟨w6, hw6⟩ : ∃ w6, w6 = (((w5.setCell ⟨w2.heap.size + 2, 0, none⟩ (.int .i64 p)).setCell ⟨w2.heap.size + 2, 1, none⟩ (.slice (some ⟨ga', 0, none⟩) N' ca')).setCell ⟨w2.heap.size + 2, 2, none⟩ (.slice (some ⟨gb', 0, none⟩) N' cb')) := ⟨_, rfl⟩
      rw [show w2.heap.size + 1 + 1 = w2.heap.size + 2 from rfl, ← hw6]
      rw [← hw6] at hU6 hB6 hF6 hR6 z6 oq6'
      clear hw6
      go_wp2
      go_roundw
      case rel => exact ⟨k + 1, by omega, by omega, ga', ca', gb', cb', N', hN6, oq6', hU6⟩
      case measure => simp [intOf]; omega
    · obtain rfl : k = m := by omega
      have hkm' : ¬ (k : Int) < (k : Int) := by omega
      have q0 := oq.out.c0
      have q1 := oq.out.c1
      have q2 := oq.out.c2
      have hLm : L.take k = L := List.take_of_length_le (by rw [HLl.out]; omega)
      rw [hLm, ← HRe.out] at hN hU
      have hNl : N ≤ 24 := by have := (hRw.out k (by omega)).2; rw [hLm, ← HRe.out, hN.out] at this; exact this
      go_wp2
      refine bodyPost_ret (v := .tuple #[jac p (some ⟨ga, 0, none⟩) N ca (some ⟨gb, 0, none⟩) N cb, .int .i64 0]) (by simp [results, Try.results53, go_sem, r0, r1, r2]) rfl ?_
      have g1' := own_blk_ge hU.out.1 ga rfl
      have g2' := own_blk_ge hU.out.2.1 gb rfl
      have ha : blk (some (⟨ga, 0, none⟩ : Addr)) ≠ some (w.heap.size + 1) := fun e => by have e2 : some ga = some (w.heap.size + 1) := e; have e3 := Option.some.inj e2; omega
      have hb : blk (some (⟨gb, 0, none⟩ : Addr)) ≠ some (w.heap.size + 1) := fun e => by have e2 : some gb = some (w.heap.size + 1) := e; have e3 := Option.some.inj e2; omega
      have j1 := (((hU.out.1.mono (show w.heap.size ≤ w2.heap.size by omega)).otherG (j := 0) ha (.int .i64 p)).otherG (j := 1) ha (.slice (some ⟨ga, 0, none⟩) N ca)).otherG (j := 2) ha (.slice (some ⟨gb, 0, none⟩) N cb)
      have j2 := (((hU.out.2.1.mono (show w.heap.size ≤ w2.heap.size by omega)).otherG (j := 0) hb (.int .i64 p)).otherG (j := 1) hb (.slice (some ⟨ga, 0, none⟩) N ca)).otherG (j := 2) hb (.slice (some ⟨gb, 0, none⟩) N cb)
      have j3 := JZ_of (OZ.of j1 (show N = _ by rw [nodesR_len]; exact hN.out.symm)) (OZ.of j2 (show N = _ by rw [wtsR_len]; exact hN.out.symm)) (fun g e1 e2 => hU.out.2.2 (by have q1 : some ga = some g := e1; have q2 : some gb = some g := e2; rw [Option.some.inj q1, Option.some.inj q2]))
      exact ResJ.mk HQ.out HC.out (by rw [HV.out, nodesR_len]; exact hN.out.symm) (by rw [HU.out, wtsR_len]; exact hN.out.symm) (by rw [HV.out, HU.out]; exact j3) (by rw [HV.out, nodesR_len, hN.out]; omega) (by rw [HU.out, wtsR_len, hN.out]; omega) (((hB3.out.setCell (by simp) _).setCell (by simp) _).setCell (by simp) _)

end Go.Proofs.Ytkpmonopjkjflaa
/- Mathematics of MergeRules, and a copy that has a place. -/
namespace Go.Proofs.Ytkpmonopjkjflaa
open Go.RowKit Go.Sort
set_option linter.unusedVariables false
set_option linter.unusedSimpArgs false

set_option maxHeartbeats 800000 in
theorem l01Own_some (a : Option Addr) (n c : Nat) (xs : List Int) (w : World) (hs : SL w a n c xs) (hn : n ≤ 4000000) :
    Calls Try.prog 93 #[.slice a n c] w fun e w' => ∃ g c', e = .returned (.slice (some ⟨g, 0, none⟩) n c') ∧ Own w.heap.size w' (some ⟨g, 0, none⟩) c' xs ∧ Below w.heap.size w w' := by
  have hl := hs.len
  have hs' := hs.below (bl1 w (.cells #[] 2))
  have ho : Own w.heap.size (w.alloc (.cells #[] 2)) (some ⟨w.heap.size, 0, none⟩) 0 [] := by
    have := World.ownsRow_lit w (base := w.heap.size) (e := 2) (size := 1) #[] 0 (Nat.le_refl _) (by simp) rfl
    exact this
  have hsz : (w.alloc (.cells #[] 2)).heap.size = w.heap.size + 1 := by simp
  subst hl
  go_enter Try.func93, Try.ntmps93
  go_wp2_with (at_builtin; refine wp_appG rfl _ _ rfl w.heap.size (some ⟨w.heap.size, 0, none⟩) 0 0 [] rfl rfl ho a xs.length c xs rfl hs' (by omega) (by simp) ?_; intro ad' cap' w1 hown hgr hloc; simp only [List.nil_append] at hown)
  obtain ⟨g, hg⟩ : ∃ g, ad' = some ⟨g, 0, none⟩ := by
    rcases hown.shape with ⟨rfl, _, _⟩ | ⟨g, cur, rfl, _⟩
    · rcases hloc with h | h <;> cases h
    · exact ⟨g, rfl⟩
  subst hg
  go_ret
  exact ⟨g, cap', rfl, hown, (bl1 w (.cells #[] 2)).grown hgr (by simp) (fun g hg => by cases hg; exact Nat.le_refl _)⟩
def mulW (p k : Int) (L : List (Int × Int)) : List (Int × Int) := L.map fun e => (e.1, e.2 * k % p)
theorem mulW_len (p k : Int) (L : List (Int × Int)) : (mulW p k L).length = L.length := by simp [mulW]
theorem mulW_at (p k : Int) (L : List (Int × Int)) (i : Nat) (h : i < L.length) : (mulW p k L).getD i (0, 0) = ((L.getD i (0, 0)).1, (L.getD i (0, 0)).2 * k % p) := by
  rw [List.getD, List.getD, mulW, List.getElem?_map, List.getElem?_eq_getElem h]; rfl
theorem mulW_wts {p : Int} (hp : 2 ≤ p) (k : Int) (L : List (Int × Int)) : ∀ e ∈ mulW p k L, 0 ≤ e.2 ∧ e.2 < p := by
  intro e he
  obtain ⟨f, _, rfl⟩ := List.mem_map.1 he
  exact ⟨Int.emod_nonneg _ (by omega), Int.emod_lt_of_pos _ (by omega)⟩
theorem nodesR_zip {xs ys : List Int} : nodesR (zipW xs ys) = xs := by
  refine List.ext_getElem (by rw [nodesR_len, zipW_len]) fun i h1 h2 => ?_
  have := zipW_at xs ys i h2
  have hz : i < (zipW xs ys).length := by rw [zipW_len]; exact h2
  rw [List.getD, List.getElem?_eq_getElem hz, List.getD, List.getElem?_eq_getElem h2] at this
  simp only [Option.getD_some] at this
  simp [nodesR, this]
theorem wtsR_zip {xs ys : List Int} (h : ys.length = xs.length) : wtsR (zipW xs ys) = ys := by
  refine List.ext_getElem (by rw [wtsR_len, zipW_len, h]) fun i h1 h2 => ?_
  have := zipW_at xs ys i (by omega)
  have hz : i < (zipW xs ys).length := by rw [zipW_len]; omega
  rw [List.getD, List.getElem?_eq_getElem hz, List.getD, List.getD, List.getElem?_eq_getElem h2] at this
  simp only [Option.getD_some] at this
  simp [wtsR, this]
def mrgR (p : Int) (xs ys zs ws : List Int) (k : Int) : List (Int × Int) := putsR p (zipW xs ys) (mulW p k (zipW zs ws))
def mrgC (p : Int) (xs ys : List Int) (q : Int) (zs ws : List Int) (k : Int) : Int := if (rulB p xs ys && rulB q zs ws) = true then (if p = q ∧ 0 ≤ k ∧ k < p then (if 24 < (mrgR p xs ys zs ws k).length then 3 else 0) else 2) else 1
def mrgP (p : Int) (xs ys : List Int) (q : Int) (zs ws : List Int) (k : Int) : Int := if mrgC p xs ys q zs ws k = 0 then p else 0
def mrgV (p : Int) (xs ys : List Int) (q : Int) (zs ws : List Int) (k : Int) : List Int := if mrgC p xs ys q zs ws k = 0 then nodesR (mrgR p xs ys zs ws k) else []
def mrgU (p : Int) (xs ys : List Int) (q : Int) (zs ws : List Int) (k : Int) : List Int := if mrgC p xs ys q zs ws k = 0 then wtsR (mrgR p xs ys zs ws k) else []
theorem mrg_err {p : Int} {xs ys : List Int} {q : Int} {zs ws : List Int} {k e : Int} (h : mrgC p xs ys q zs ws k = e) (he : e ≠ 0) : mrgP p xs ys q zs ws k = 0 ∧ mrgV p xs ys q zs ws k = [] ∧ mrgU p xs ys q zs ws k = [] := by
  have : mrgC p xs ys q zs ws k ≠ 0 := by rw [h]; exact he
  exact ⟨if_neg this, if_neg this, if_neg this⟩
theorem mrg_out {p : Int} {xs ys : List Int} {q : Int} {zs ws : List Int} {k : Int} (h : mrgC p xs ys q zs ws k = 0) : mrgP p xs ys q zs ws k = p ∧ mrgV p xs ys q zs ws k = nodesR (mrgR p xs ys zs ws k) ∧ mrgU p xs ys q zs ws k = wtsR (mrgR p xs ys zs ws k) :=
  ⟨if_pos h, if_pos h, if_pos h⟩
theorem asc_zip {xs ys : List Int} (h : ascB xs = true) : AscR (zipW xs ys) := by
  unfold AscR
  rw [List.pairwise_iff_getElem]
  intro i j hi hj hij
  have h1 := zipW_at xs ys i (by rw [zipW_len] at hi; exact hi)
  have h2 := zipW_at xs ys j (by rw [zipW_len] at hj; exact hj)
  rw [List.getD, List.getElem?_eq_getElem hi] at h1
  rw [List.getD, List.getElem?_eq_getElem hj] at h2
  simp only [Option.getD_some] at h1 h2
  rw [h1, h2]
  exact asc_lt h hij (by rw [zipW_len] at hj; exact hj)
/-- What the program sorts. -/
theorem mrgR_sort {p : Int} {xs ys zs ws : List Int} {k : Int} (h : ascB xs = true) : putsR p [] (mulW p k (zipW zs ws) ++ zipW xs ys) = mrgR p xs ys zs ws k := by
  rw [putsR_perm p List.perm_append_comm]
  unfold mrgR
  have e := puts_id p (zipW xs ys) [] (by simpa using asc_zip (ys := ys) h)
  have e2 : ∀ (l m r : List (Int × Int)), putsR p r (l ++ m) = putsR p (putsR p r l) m := fun l m r => by unfold putsR; rw [List.foldl_append]
  rw [e2, e]
  simp
end Go.Proofs.Ytkpmonopjkjflaa
