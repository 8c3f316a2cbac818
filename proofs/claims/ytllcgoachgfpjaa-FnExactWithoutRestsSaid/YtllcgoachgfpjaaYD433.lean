/- Merged texts. -/
import Derived.Test.YtllcgoachgfpjaaYD431
import Derived.Test.YtllcgoachgfpjaaYD432
/- Contracts: MoveRule (model). -/
namespace Go.Proofs.Ytllcgoachgfpjaa
open Go.RowKit Go.Sort
set_option linter.unusedVariables false
set_option linter.unusedSimpArgs false

theorem putR_wts {p : Int} (hp : 2 ≤ p) (r : List (Int × Int)) (x v : Int) (v0 : 0 ≤ v) (v1 : v < p) : (∀ e ∈ r, 0 ≤ e.2 ∧ e.2 < p) → ∀ e ∈ putR p r x v, 0 ≤ e.2 ∧ e.2 < p := by
  induction r with
  | nil =>
    intro _ e he
    simp [putR] at he
    subst he
    exact ⟨v0, v1⟩
  | cons f l ih =>
    obtain ⟨y, u⟩ := f
    intro h e he
    have hl := ih (fun e he => h e (by simp [he]))
    have hf := h (y, u) (by simp)
    unfold putR at he
    split at he
    · rcases List.mem_cons.1 he with rfl | he
      · exact hf
      · exact hl e he
    · split at he
      · rcases List.mem_cons.1 he with rfl | he
        · exact ⟨Int.emod_nonneg _ (by omega), Int.emod_lt_of_pos _ (by omega)⟩
        · exact h e (by simp [he])
      · rcases List.mem_cons.1 he with rfl | he
        · exact ⟨v0, v1⟩
        · exact h e he
theorem putsR_wts {p : Int} (hp : 2 ≤ p) (L : List (Int × Int)) : ∀ r : List (Int × Int), (∀ e ∈ r, 0 ≤ e.2 ∧ e.2 < p) → (∀ e ∈ L, 0 ≤ e.2 ∧ e.2 < p) → ∀ e ∈ putsR p r L, 0 ≤ e.2 ∧ e.2 < p := by
  induction L with
  | nil => intro r h _; exact h
  | cons f l ih =>
    intro r h hL
    have hf := hL f (by simp)
    exact ih _ (putR_wts hp r f.1 f.2 hf.1 hf.2 h) (fun e he => hL e (by simp [he]))
theorem wtsR_are {p : Int} {r : List (Int × Int)} (h : ∀ e ∈ r, 0 ≤ e.2 ∧ e.2 < p) : areB p (wtsR r) = true := areB_mk fun j hj => by
  have e : (wtsR r).getD j 0 = (wtsR r)[j] := by rw [List.getD, List.getElem?_eq_getElem hj]; rfl
  rw [e]
  obtain ⟨f, hf, he⟩ := List.mem_map.1 (show (wtsR r)[j] ∈ r.map (·.2) from List.getElem_mem _)
  rw [← he]
  exact h f hf
theorem a3_0 (w : World) (A B C : Obj) : (((w.alloc A).alloc B).alloc C).heap[w.heap.size]? = some A := by
  show (((w.heap.push A).push B).push C)[w.heap.size]? = some A
  rw [Array.getElem?_push, if_neg (by simp; omega), Array.getElem?_push, if_neg (by simp), Array.getElem?_push, if_pos rfl]
theorem a3_1 (w : World) (A B C : Obj) : (((w.alloc A).alloc B).alloc C).heap[w.heap.size + 1]? = some B := by
  show (((w.heap.push A).push B).push C)[w.heap.size + 1]? = some B
  rw [Array.getElem?_push, if_neg (by simp), Array.getElem?_push, if_pos (by simp)]
theorem a3_2 (w : World) (A B C : Obj) : (((w.alloc A).alloc B).alloc C).heap[w.heap.size + 2]? = some C := by
  show (((w.heap.push A).push B).push C)[w.heap.size + 2]? = some C
  rw [Array.getElem?_push, if_pos (by simp)]
/-- A rule in a variable of its own. -/
def OutR (w : World) (q : Nat) (p : Int) (ga n c gb m d : Nat) : Prop := w.heap[q]? = some (.cells #[.int .i64 p, .slice (some ⟨ga, 0, none⟩) n c, .slice (some ⟨gb, 0, none⟩) m d] 56 (0, 0))
section
variable {w w' : World} {q : Nat} {p : Int} {ga n c gb m d : Nat}
theorem OutR.c0 (h : OutR w q p ga n c gb m d) : w.cell? ⟨q, 0, none⟩ = some (.int .i64 p) := by rw [cell_of_row w q 0 _ _ (0, 0) h]; rfl
theorem OutR.c1 (h : OutR w q p ga n c gb m d) : w.cell? ⟨q, 1, none⟩ = some (.slice (some ⟨ga, 0, none⟩) n c) := by rw [cell_of_row w q 1 _ _ (0, 0) h]; rfl
theorem OutR.c2 (h : OutR w q p ga n c gb m d) : w.cell? ⟨q, 2, none⟩ = some (.slice (some ⟨gb, 0, none⟩) m d) := by rw [cell_of_row w q 2 _ _ (0, 0) h]; rfl
theorem OutR.fr (h : OutR w q p ga n c gb m d) (j : Nat) : w.frozen? ⟨q, j, none⟩ = false := frozen_of_row w q j _ _ h
theorem OutR.lt (h : OutR w q p ga n c gb m d) : q < w.heap.size := lt_of_block h
theorem OutR.next (h : OutR w q p ga n c gb m d) (hb : Below w.heap.size w w') : OutR w' q p ga n c gb m d := (hb.block q h.lt).trans h
theorem OutR.put (h : OutR w q p ga n c gb m d) (p' : Int) (ga' n' c' gb' m' d' : Nat) : OutR (((w.setCell ⟨q, 0, none⟩ (.int .i64 p')).setCell ⟨q, 1, none⟩ (.slice (some ⟨ga', 0, none⟩) n' c')).setCell ⟨q, 2, none⟩ (.slice (some ⟨gb', 0, none⟩) m' d')) q p' ga' n' c' gb' m' d' := by
  unfold OutR
  have h1 := heap_setCell_same w q 0 _ _ (.int .i64 p') h
  have h2 := heap_setCell_same _ q 1 _ _ (.slice (some ⟨ga', 0, none⟩) n' c') h1
  have h3 := heap_setCell_same _ q 2 _ _ (.slice (some ⟨gb', 0, none⟩) m' d') h2
  rw [h3]
  rfl
theorem OutR.ne (h : OutR w q p ga n c gb m d) {B g cap : Nat} {ys : List Int} (ho : Own B w (some ⟨g, 0, none⟩) cap ys) : g ≠ q := by
  rintro rfl
  rcases ho.shape with ⟨h1, _⟩ | ⟨g', cur, h1, _, h2, _⟩
  · cases h1
  · obtain rfl : g = g' := by cases h1; rfl
    rw [OutR] at h
    rw [h] at h2
    simp at h2
end
theorem putsR_take (p : Int) (L : List (Int × Int)) (k : Nat) (h : k < L.length) : putsR p [] (L.take (k + 1)) = putR p (putsR p [] (L.take k)) (L.getD k (0, 0)).1 (L.getD k (0, 0)).2 := by
  have e : L.getD k (0, 0) = L[k] := by rw [List.getD, List.getElem?_eq_getElem h]; rfl
  rw [e, List.take_add_one, List.getElem?_eq_getElem h]
  unfold putsR
  rw [List.foldl_append]
  rfl

end Go.Proofs.Ytllcgoachgfpjaa
/- Mathematics of MergeRules, and a copy that has a place. -/
namespace Go.Proofs.Ytllcgoachgfpjaa
open Go.RowKit Go.Sort
set_option linter.unusedVariables false
set_option linter.unusedSimpArgs false

set_option maxHeartbeats 800000 in
theorem l01Own_some (a : Option Addr) (n c : Nat) (xs : List Int) (w : World) (hs : SL w a n c xs) (hn : n ≤ 4000000) :
    Calls Try.prog 91 #[.slice a n c] w fun e w' => ∃ g c', e = .returned (.slice (some ⟨g, 0, none⟩) n c') ∧ Own w.heap.size w' (some ⟨g, 0, none⟩) c' xs ∧ Below w.heap.size w w' := by
  have hl := hs.len
  have hs' := hs.below (bl1 w (.cells #[] 2))
  have ho : Own w.heap.size (w.alloc (.cells #[] 2)) (some ⟨w.heap.size, 0, none⟩) 0 [] := by
    have := World.ownsRow_lit w (base := w.heap.size) (e := 2) (size := 1) #[] 0 (Nat.le_refl _) (by simp) rfl
    exact this
  have hsz : (w.alloc (.cells #[] 2)).heap.size = w.heap.size + 1 := by simp
  subst hl
  go_enter Try.func91, Try.ntmps91
  go_wp2_with (at_builtin; refine wp_appG rfl _ _ rfl w.heap.size (some ⟨w.heap.size, 0, none⟩) 0 0 [] rfl rfl ho a xs.length c xs rfl hs' (by omega) (by simp) ?_; intro ad' cap' w1 hown hgr hloc; simp only [List.nil_append] at hown)
  obtain ⟨g, hg⟩ : ∃ g, ad' = some ⟨g, 0, none⟩ := by
    rcases hown.shape with ⟨rfl, _, _⟩ | ⟨g, cur, rfl, _⟩
    · rcases hloc with h | h <;> cases h
    · exact ⟨g, rfl⟩
  subst hg
  go_ret
  exact ⟨g, cap', rfl, hown, (bl1 w (.cells #[] 2)).grown hgr (by simp) (fun g hg => by cases hg; exact Nat.le_refl _)⟩
def mulW (p k : Int) (L : List (Int × Int)) : List (Int × Int) := L.map fun e => (e.1, e.2 * k % p)
theorem mulW_len (p k : Int) (L : List (Int × Int)) : (mulW p k L).length = L.length := by simp [mulW]
theorem mulW_at (p k : Int) (L : List (Int × Int)) (i : Nat) (h : i < L.length) : (mulW p k L).getD i (0, 0) = ((L.getD i (0, 0)).1, (L.getD i (0, 0)).2 * k % p) := by
  rw [List.getD, List.getD, mulW, List.getElem?_map, List.getElem?_eq_getElem h]; rfl
theorem mulW_wts {p : Int} (hp : 2 ≤ p) (k : Int) (L : List (Int × Int)) : ∀ e ∈ mulW p k L, 0 ≤ e.2 ∧ e.2 < p := by
  intro e he
  obtain ⟨f, _, rfl⟩ := List.mem_map.1 he
  exact ⟨Int.emod_nonneg _ (by omega), Int.emod_lt_of_pos _ (by omega)⟩
theorem nodesR_zip {xs ys : List Int} : nodesR (zipW xs ys) = xs := by
  refine List.ext_getElem (by rw [nodesR_len, zipW_len]) fun i h1 h2 => ?_
  have := zipW_at xs ys i h2
  have hz : i < (zipW xs ys).length := by rw [zipW_len]; exact h2
  rw [List.getD, List.getElem?_eq_getElem hz, List.getD, List.getElem?_eq_getElem h2] at this
  simp only [Option.getD_some] at this
  simp [nodesR, this]
theorem wtsR_zip {xs ys : List Int} (h : ys.length = xs.length) : wtsR (zipW xs ys) = ys := by
  refine List.ext_getElem (by rw [wtsR_len, zipW_len, h]) fun i h1 h2 => ?_
  have := zipW_at xs ys i (by omega)
  have hz : i < (zipW xs ys).length := by rw [zipW_len]; omega
  rw [List.getD, List.getElem?_eq_getElem hz, List.getD, List.getD, List.getElem?_eq_getElem h2] at this
  simp only [Option.getD_some] at this
  simp [wtsR, this]
def mrgR (p : Int) (xs ys zs ws : List Int) (k : Int) : List (Int × Int) := putsR p (zipW xs ys) (mulW p k (zipW zs ws))
def mrgC (p : Int) (xs ys : List Int) (q : Int) (zs ws : List Int) (k : Int) : Int := if (rulB p xs ys && rulB q zs ws) = true then (if p = q ∧ 0 ≤ k ∧ k < p then (if 24 < (mrgR p xs ys zs ws k).length then 3 else 0) else 2) else 1
def mrgP (p : Int) (xs ys : List Int) (q : Int) (zs ws : List Int) (k : Int) : Int := if mrgC p xs ys q zs ws k = 0 then p else 0
def mrgV (p : Int) (xs ys : List Int) (q : Int) (zs ws : List Int) (k : Int) : List Int := if mrgC p xs ys q zs ws k = 0 then nodesR (mrgR p xs ys zs ws k) else []
def mrgU (p : Int) (xs ys : List Int) (q : Int) (zs ws : List Int) (k : Int) : List Int := if mrgC p xs ys q zs ws k = 0 then wtsR (mrgR p xs ys zs ws k) else []
theorem mrg_err {p : Int} {xs ys : List Int} {q : Int} {zs ws : List Int} {k e : Int} (h : mrgC p xs ys q zs ws k = e) (he : e ≠ 0) : mrgP p xs ys q zs ws k = 0 ∧ mrgV p xs ys q zs ws k = [] ∧ mrgU p xs ys q zs ws k = [] := by
  have : mrgC p xs ys q zs ws k ≠ 0 := by rw [h]; exact he
  exact ⟨if_neg this, if_neg this, if_neg this⟩
theorem mrg_out {p : Int} {xs ys : List Int} {q : Int} {zs ws : List Int} {k : Int} (h : mrgC p xs ys q zs ws k = 0) : mrgP p xs ys q zs ws k = p ∧ mrgV p xs ys q zs ws k = nodesR (mrgR p xs ys zs ws k) ∧ mrgU p xs ys q zs ws k = wtsR (mrgR p xs ys zs ws k) :=
  ⟨if_pos h, if_pos h, if_pos h⟩
theorem asc_zip {xs ys : List Int} (h : ascB xs = true) : AscR (zipW xs ys) := by
  unfold AscR
  rw [List.pairwise_iff_getElem]
  intro i j hi hj hij
  have h1 := zipW_at xs ys i (by rw [zipW_len] at hi; exact hi)
  have h2 := zipW_at xs ys j (by rw [zipW_len] at hj; exact hj)
  rw [List.getD, List.getElem?_eq_getElem hi] at h1
  rw [List.getD, List.getElem?_eq_getElem hj] at h2
  simp only [Option.getD_some] at h1 h2
  rw [h1, h2]
  exact asc_lt h hij (by rw [zipW_len] at hj; exact hj)
/-- What the program sorts. -/
theorem mrgR_sort {p : Int} {xs ys zs ws : List Int} {k : Int} (h : ascB xs = true) : putsR p [] (mulW p k (zipW zs ws) ++ zipW xs ys) = mrgR p xs ys zs ws k := by
  rw [putsR_perm p List.perm_append_comm]
  unfold mrgR
  have e := puts_id p (zipW xs ys) [] (by simpa using asc_zip (ys := ys) h)
  have e2 : ∀ (l m r : List (Int × Int)), putsR p r (l ++ m) = putsR p (putsR p r l) m := fun l m r => by unfold putsR; rw [List.foldl_append]
  rw [e2, e]
  simp
end Go.Proofs.Ytllcgoachgfpjaa
