/- Merged texts. -/
import Derived.Test.YtllcgoachgfpjaaYD429
import Derived.Test.YtllcgoachgfpjaaYD433
import Derived.Test.YtllcgoachgfpjaaYD422
import Derived.Test.YtllcgoachgfpjaaYD424
import Derived.Laws.IdiomCopy
import Derived.Deep.Upon
/- The parts of merged rules. -/
namespace Go.Proofs.Ytllcgoachgfpjaa
open Go.RowKit Go.Sort
set_option linter.unusedVariables false
set_option linter.unusedSimpArgs false

set_option maxRecDepth 100000 in
set_option maxHeartbeats 1600000 in
theorem weightedNodes_own (p : Int) (a : Option Addr) (n c : Nat) (xs : List Int) (b : Option Addr) (d : Nat) (ys : List Int) (w : World) (hs : SL w a n c xs) (ht : SL w b n d ys) (hn : n ≤ 1000) :
    Calls Try.prog 164 #[jac p a n c b n d] w fun e w' => ∃ g, e = .returned (.slice (some ⟨g, 0, none⟩) n n) ∧ w.heap.size ≤ g ∧ PR w' g (zipW xs ys) ∧ TyW w' g n ∧ Below w.heap.size w w' := by
  have hl := hide hs.len
  have hb0 := bl1 w (.cells #[.int .i64 p, .slice a n c, .slice b n d] 56)
  have hb1 := bl2 w (.cells #[.int .i64 p, .slice a n c, .slice b n d] 56) (.cells (zrowW n) 131)
  have hmk := run_mkW n (by omega) (w.alloc (.cells #[.int .i64 p, .slice a n c, .slice b n d] 56))
  have hP0 := hide (PR.made (w.alloc (.cells #[.int .i64 p, .slice a n c, .slice b n d] 56)) n xs ys)
  have hT0 : Hid (TyW ((w.alloc (.cells #[.int .i64 p, .slice a n c, .slice b n d] 56)).alloc (.cells (zrowW n) 131)) (w.heap.size + 1) n) := hide ⟨zrowW n, by have := heap_alloc_new (w.alloc (.cells #[.int .i64 p, .slice a n c, .slice b n d] 56)) (.cells (zrowW n) 131); rwa [World.size_alloc] at this, by simp [zrowW, madeCells]⟩
  have hW : Hid (zipK xs ys n n = zipW xs ys) := hide (by unfold zipW; rw [hl.out])
  have e1 := show ((w.alloc (.cells #[.int .i64 p, .slice a n c, .slice b n d] 56)).alloc (.cells (zrowW n) 131)).heap.size = w.heap.size + 2 by simp
  by_cases h0 : n = 0
  · subst h0
    rw [show ((0 : Nat) : Int) = 0 from rfl] at hmk
    go_enter Try.func164, Try.ntmps164
    go_wp2
    refine wp_loop_rounds 1 ?_
    rw [rounds_succ]
    go_wp2
    go_ret
    refine ⟨_, rfl, by simp, ?_, by simpa using hT0.out, hb1⟩
    rw [← hW.out]
    simpa using hP0.out
  simp only [World.size_alloc] at hmk hP0
  obtain ⟨b1, o1, rfl, hw1, hc1⟩ := hs.at (by omega)
  obtain ⟨b2, o2, rfl, hw2, hc2⟩ := ht.at (by omega)
  go_enter Try.func164, Try.ntmps164
  go_wp2
  clear hmk
  go_loopw [13] (fun iv wr => ∃ k : Nat, k ≤ n ∧ iv = .int .i64 k ∧ Hid (PR wr (w.heap.size + 1) (zipK xs ys n k)) ∧ Hid (TyW wr (w.heap.size + 1) n) ∧ Hid (Below w.heap.size w wr) ∧ Hid (wr.cell? ⟨w.heap.size, 2, none⟩ = some (.slice (some ⟨b2, o2, none⟩) n d))) (fun iv _ => n - (intOf iv).toNat)
  case atStart => exact ⟨0, by omega, rfl, hP0, hT0, hide hb1, hide (by simp [go_sem])⟩
  case round =>
    obtain ⟨k, hk, rfl, hP, hT, hB, hj⟩ := hrel
    clear hP0 hT0 hb1
    by_cases hlt : k < n
    · have hlt' : (k : Int) < (n : Int) := by omega
      have q1 : wr.cell? ⟨b1, o1 + k, none⟩ = some (.int .i64 (xs.getD k 0)) := cell_be hB.out (hc1 k hlt)
      have q2 : wr.cell? ⟨b2, o2 + k, none⟩ = some (.int .i64 (ys.getD k 0)) := cell_be hB.out (hc2 k hlt)
      have j2 := hj.out
      have st := hide (zipK_step xs ys n k hlt)
      obtain ⟨X, hX⟩ : ∃ X, xs.getD k 0 = X := ⟨_, rfl⟩
      obtain ⟨Y, hY⟩ : ∃ Y, ys.getD k 0 = Y := ⟨_, rfl⟩
      rw [hX] at q1 st
      rw [hY] at q2 st
      have hlen := zipK_len xs ys n k
      have c0 := hP.out.c0 k (by omega)
      have c1 := hP.out.c1 k (by omega)
      have f0 := hP.out.f0 k (by omega)
      have f1 := hP.out.f1 k (by omega)
      have hS := hide (hP.out.setTwo (show k < (zipK xs ys n k).length by omega) X Y)
      rw [st.out] at hS
      have hTS := hide ((hT.out.set (k * 2) (.int .i64 X)).set (k * 2 + 1) (.int .i64 Y))
      have hBS := hide ((hB.out.setCell (p := ⟨w.heap.size + 1, k * 2, none⟩) (by simp) (.int .i64 X)).setCell (p := ⟨w.heap.size + 1, k * 2 + 1, none⟩) (by simp) (.int .i64 Y))
      have hJS := hide (cell_set2 (cell_set2 j2 (show w.heap.size + 1 ≠ w.heap.size by omega) (.int .i64 X) (a := ⟨w.heap.size + 1, k * 2, none⟩)) (show w.heap.size + 1 ≠ w.heap.size by omega) (.int .i64 Y) (a := ⟨w.heap.size + 1, k * 2 + 1, none⟩))
      clear hX hY hlen hP hT hB hj
      go_wp2
      go_roundw
      case rel => exact ⟨k + 1, by omega, by go_num, hS, hTS, hBS, hJS⟩
      case measure => simp [intOf]; omega
    · have hkn : k = n := by omega
      subst hkn
      have hge : ¬ (k : Int) < (k : Int) := by omega
      go_wp2
      go_ret
      refine ⟨_, rfl, by omega, ?_, hT.out, hB.out⟩
      rw [← hW.out]
      exact hP.out
def muK (p k : Int) (L : List (Int × Int)) (n : Nat) : List (Int × Int) := (List.range L.length).map fun i => if i < n then ((L.getD i (0, 0)).1, (L.getD i (0, 0)).2 * k % p) else L.getD i (0, 0)
theorem muK_len (p k : Int) (L : List (Int × Int)) (n : Nat) : (muK p k L n).length = L.length := by simp [muK]
theorem muK_at (p k : Int) (L : List (Int × Int)) (n i : Nat) (h : i < L.length) : (muK p k L n).getD i (0, 0) = if i < n then ((L.getD i (0, 0)).1, (L.getD i (0, 0)).2 * k % p) else L.getD i (0, 0) := by
  rw [List.getD, muK, List.getElem?_map, List.getElem?_range h]; rfl
theorem muK_zero (p k : Int) (L : List (Int × Int)) : muK p k L 0 = L :=
  pext (muK_len _ _ _ _) fun i hi => by rw [muK_len] at hi; rw [muK_at _ _ _ _ _ hi, if_neg (by omega)]
theorem muK_all (p k : Int) (L : List (Int × Int)) : muK p k L L.length = mulW p k L :=
  pext (by rw [muK_len, mulW_len]) fun i hi => by rw [muK_len] at hi; rw [muK_at _ _ _ _ _ hi, if_pos hi, mulW_at _ _ _ _ hi]
theorem muK_step (p k : Int) (L : List (Int × Int)) (n : Nat) (h : n < L.length) : (muK p k L n).set n ((L.getD n (0, 0)).1, (L.getD n (0, 0)).2 * k % p) = muK p k L (n + 1) := by
  refine pext (by rw [List.length_set, muK_len, muK_len]) fun i hi => ?_
  rw [List.length_set, muK_len] at hi
  rw [pget_set (by rw [muK_len]; exact hi), muK_at _ _ _ _ _ hi, muK_at _ _ _ _ _ hi]
  by_cases e : n = i
  · subst e; rw [if_pos rfl, if_pos (by omega)]
  · rw [if_neg e]
    by_cases q : i < n
    · rw [if_pos q, if_pos (by omega)]
    · rw [if_neg q, if_neg (by omega)]
end Go.Proofs.Ytllcgoachgfpjaa
/- slices.DeleteFunc at structs of two numbers, as the rules without rests call it. -/
namespace Go.Proofs.Ytllcgoachgfpjaa
open Go.RowKit Go.Sort
set_option linter.unusedVariables false
set_option linter.unusedSimpArgs false

/-- What is kept: the nodes whose weights are not 0. -/
def keepW (L : List (Int × Int)) : List (Int × Int) := L.filter fun e => !(e.2 == 0)
theorem keepW_snoc (L : List (Int × Int)) (k : Nat) (h : k < L.length) : keepW (L.take (k + 1)) = keepW (L.take k) ++ (if (L.getD k (0, 0)).2 = 0 then [] else [L.getD k (0, 0)]) := by
  rw [List.take_add_one, List.getElem?_eq_getElem h, keepW, List.filter_append]
  congr 1
  have e : L.getD k (0, 0) = L[k] := by rw [List.getD, List.getElem?_eq_getElem h]; rfl
  rw [e]
  by_cases q : L[k].2 = 0
  · simp [q]
  · simp [q]
theorem keepW_le (L : List (Int × Int)) : (keepW L).length ≤ L.length := List.length_filter_le _ _
theorem keepW_all {L : List (Int × Int)} (h : ∀ k, k < L.length → (L.getD k (0, 0)).2 ≠ 0) : keepW L = L := by
  unfold keepW
  rw [List.filter_eq_self]
  intro e he
  obtain ⟨k, hk, rfl⟩ := List.mem_iff_getElem.1 he
  have := h k hk
  rw [List.getD, List.getElem?_eq_getElem hk] at this
  simpa using this
theorem keepW_pre {L : List (Int × Int)} {i : Nat} (hi : i ≤ L.length) (h : ∀ k, k < i → (L.getD k (0, 0)).2 ≠ 0) : keepW (L.take i) = L.take i := by
  apply keepW_all
  intro k hk
  have hk' : k < i := by simp at hk; omega
  have := h k hk'
  rwa [List.getD, List.getElem?_take, if_pos hk', ← List.getD]
theorem grown_set1 (w : World) (g o : Nat) (u : Value) : w.grownBy (w.setCell ⟨g, o, none⟩ u) (some g) :=
  ⟨rfl, rfl, rfl, by simp, fun k _ hk => Below.heap_setCell _ _ _ _ (fun e => hk (by rw [e]))⟩
theorem touch_setCells (g : Nat) : ∀ (vs : List Value) (o : Nat) (w : World), Touch g (g + 1) w (w.setCells g o vs)
  | [], _, w => Touch.refl _ _ w
  | v :: r, o, w => by
    rw [World.setCells]
    exact (Touch.of (grown_set1 w g o v) (fun q hq => by cases hq; omega)).trans (touch_setCells g r (o + 1) _)
theorem PR.clear {w : World} {g : Nat} {K : List (Int × Int)} (h : PR w g K) (i : Nat) (vs : List Value) : PR (w.setCells g (i * 2) vs) g (K.take i) := by
  have hl : (K.take i).length ≤ i := by simp; omega
  have hg : ∀ j, j < (K.take i).length → j < K.length ∧ (K.take i).getD j (0, 0) = K.getD j (0, 0) := fun j hj => by
    have h1 : j < i := by omega
    have h2 : j < K.length := by simp at hj; omega
    exact ⟨h2, by rw [List.getD, List.getElem?_take, if_pos h1, ← List.getD]⟩
  refine ⟨fun j hj => ?_, fun j hj => ?_, fun j hj => ?_, fun j hj => ?_, Nat.lt_of_lt_of_le h.lt (touch_setCells g vs _ w).size⟩
  · rw [World.cell?_setCells_out _ _ _ _ _ (fun _ _ => .inl (by show j * 2 < i * 2; omega)), (hg j hj).2]
    exact h.c0 j (hg j hj).1
  · rw [World.cell?_setCells_out _ _ _ _ _ (fun _ _ => .inl (by show j * 2 + 1 < i * 2; omega)), (hg j hj).2]
    exact h.c1 j (hg j hj).1
  · rw [World.frozen?_setCells]
    exact h.f0 j (hg j hj).1
  · rw [World.frozen?_setCells]
    exact h.f1 j (hg j hj).1
theorem PR.some {w : World} {g : Nat} {K : List (Int × Int)} (h : PR w g K) (j : Nat) (hj : j < K.length * 2) : (w.cell? ⟨g, j, none⟩).isSome = true ∧ w.frozen? ⟨g, j, none⟩ = false := by
  rcases Nat.mod_two_eq_zero_or_one j with e | e
  · rw [show j = j / 2 * 2 by omega, h.c0 (j / 2) (by omega), h.f0 (j / 2) (by omega)]
    exact ⟨rfl, rfl⟩
  · rw [show j = j / 2 * 2 + 1 by omega, h.c1 (j / 2) (by omega), h.f1 (j / 2) (by omega)]
    exact ⟨rfl, rfl⟩
def zcW (n : Nat) : List Value := (Builtin.zeroCells #[.int .i64 0, .int .i64 0] n).toList
theorem zcW_len (n : Nat) : (zcW n).length = n * 2 := by simp [zcW, Builtin.zeroCells]
theorem run_clearW {w : World} {g : Nat} {K : List (Int × Int)} (h : PR w g K) (i n c : Nat) (hn : 0 < n) (hi : i + n ≤ K.length) (ty : TypeId) :
    (Builtin.clear_ #[127] ty #[.slice (some ⟨g, i * 2, none⟩) n c]).run Try.prog w = .ok (.tuple #[]) (w.setCells g (i * 2) (zcW n)) := by
  obtain ⟨i0, hinf, hz0, hz1, hz2⟩ := info_parts infoW
  have hv : ∀ w, (zeroValue 131).run Try.prog w = .ok (.agg #[.int .i64 0, .int .i64 0]) w := fun w => by simp [zeroValue, typeInfo, hinf, hz0]
  have e : (Value.agg #[.int .i64 0, .int .i64 0]).cells = #[.int .i64 0, .int .i64 0] := by simp [Value.cells.eq_def]
  have hst := run_storeCells_cells (P := Try.prog) g (i * 2) (zcW n) 0 w (fun j hj => (h.some _ (by rw [zcW_len] at hj; omega)).1) (fun j hj => (h.some _ (by rw [zcW_len] at hj; omega)).2) (by
    intro v hv'
    have : v = .int .i64 0 := by
      unfold zcW Builtin.zeroCells at hv'
      simp at hv'
      obtain ⟨a, _, rfl⟩ := hv'
      rcases Nat.mod_two_eq_zero_or_one a with q | q <;> simp [q]
    rw [this]; rfl)
  simp only [Nat.add_zero] at hst
  obtain ⟨m, rfl⟩ : ∃ m, n = m + 1 := ⟨n - 1, by omega⟩
  simp [Builtin.clear_, run_underlying Try.underlying127, hv, e]
  rw [show (Builtin.zeroCells #[.int .i64 0, .int .i64 0] (m + 1)).toList = zcW (m + 1) from rfl, hst]
  rfl
theorem restW_any (x y : Int) (w : World) : Calls Try.prog 165 #[.agg #[.int .i64 x, .int .i64 y]] w fun e w' => e = .returned (.bool (y == 0)) ∧ Below w.heap.size w w' := by
  go_enter Try.func165, Try.ntmps165
  go_wp2
  all_goals
    rename_i h
    go_ret
    refine ⟨?_, ?_⟩
    · simp [h]
    · exact bl1 _ _
set_option maxRecDepth 100000 in
set_option maxHeartbeats 1600000 in
theorem indexW_any (g c : Nat) (L : List (Int × Int)) (r : Int) (w : World) (h : PR w g L) (hn : L.length ≤ 1000) (hr : (r = -1 ∧ ∀ k, k < L.length → (L.getD k (0, 0)).2 ≠ 0) ∨ ∃ k, k < L.length ∧ r = (k : Int) ∧ (L.getD k (0, 0)).2 = 0 ∧ ∀ j, j < k → (L.getD j (0, 0)).2 ≠ 0) :
    Calls Try.prog 166 #[.slice (some ⟨g, 0, none⟩) L.length c, .func (.func 165) #[] #[]] w fun e w' => e = .returned (.int .i64 r) ∧ Below w.heap.size w w' := by
  have HR := hide hr
  have hP0 := hide h
  have hbb := Below.refl w.heap.size w
  clear hr h
  go_enter Try.func166, Try.ntmps166
  go_wp2
  go_loopw [8] (fun iv wr => ∃ k : Nat, k ≤ L.length ∧ iv = .int .i64 k ∧ Hid (∀ j, j < k → (L.getD j (0, 0)).2 ≠ 0) ∧ Below w.heap.size w wr) (fun iv _ => L.length - (intOf iv).toNat)
  case atStart => exact ⟨0, by omega, rfl, hide (fun j hj => by omega), hbb⟩
  case round =>
    obtain ⟨k, hk, rfl, hD, hB⟩ := hrel
    clear hbb
    have hP := hP0.out.below hB
    by_cases hlt : k < L.length
    · have hlt' : (k : Int) < (L.length : Int) := by omega
      have c0 := hP.c0 k hlt
      have c1 := hP.c1 k hlt
      have hk0 : (0 : Int) ≤ (k : Int) := by omega
      obtain ⟨X, hX⟩ : ∃ X, (L.getD k (0, 0)).1 = X := ⟨_, rfl⟩
      obtain ⟨Y, hY⟩ : ∃ Y, (L.getD k (0, 0)).2 = Y := ⟨_, rfl⟩
      have HY := hide hY
      rw [hX] at c0
      rw [hY] at c1
      clear hX hY hP
      by_cases hz : Y = 0
      · have hrk : Hid (r = (k : Int)) := hide (by
          rcases HR.out with ⟨_, h⟩ | ⟨k', h1, h2, h3, h4⟩
          · exact absurd (by rw [HY.out]; exact hz) (h k hlt)
          · rw [h2]
            rcases Nat.lt_trichotomy k' k with q | q | q
            · exact absurd h3 (hD.out k' q)
            · rw [q]
            · exact absurd (by rw [HY.out]; exact hz) (h4 k q))
        have hb1 : (Y == 0) = true := by simp [hz]
        clear hz
        go_wp2_with fail
        refine (restW_any X Y _).mono ?_
        rintro e w1 ⟨rfl, t1⟩
        go_wp2
        go_ret
        exact ⟨by rw [hrk.out]; rfl, hB.trans (t1.mono hB.size)⟩
      · have hb1 : (Y == 0) = false := by simp [hz]
        have HZ := hide hz
        clear hz
        go_wp2_with fail
        refine (restW_any X Y _).mono ?_
        rintro e w1 ⟨rfl, t1⟩
        have hB1 := hB.trans (t1.mono hB.size)
        go_wp2
        go_roundw
        case rel => exact ⟨k + 1, by omega, by go_num, hide (fun j hj => by
          by_cases e : j = k
          · subst e; rw [HY.out]; exact HZ.out
          · exact hD.out j (by omega)), hB1⟩
        case measure => simp [intOf]; omega
    · have hkn : Hid (k = L.length) := hide (by omega)
      have hge : ¬ (k : Int) < (L.length : Int) := by omega
      have hrk : Hid (r = -1) := hide (by
        rcases HR.out with ⟨h, _⟩ | ⟨k', h1, h2, h3, h4⟩
        · exact h
        · exact absurd h3 (hD.out k' (by rw [hkn.out]; exact h1)))
      clear hP
      go_wp2
      go_ret
      exact ⟨by rw [hrk.out]; rfl, hB⟩
end Go.Proofs.Ytllcgoachgfpjaa
