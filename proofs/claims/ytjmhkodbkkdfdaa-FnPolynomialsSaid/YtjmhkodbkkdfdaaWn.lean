/- Contracts: l01One, l01Two and the draws of FnPolynomials. -/
import Derived.Test.YtjmhkodbkkdfdaaWl
namespace Go.Proofs.Ytjmhkodbkkdfdaa
open Go.RowKit
set_option linter.unusedVariables false
set_option linter.unusedSimpArgs false
theorem mulM_mlen' (p : Int) (f g : List Int) : (mulM p f g).length ≤ f.length + g.length := by
  by_cases h : f.length = 0 ∨ g.length = 0
  · rw [mulM_nil (h.imp List.eq_nil_of_length_eq_zero List.eq_nil_of_length_eq_zero)]; simp
  · rw [mulM_tab (fun e => h (.inl e)) (fun e => h (.inr e)), tab_len]; omega
set_option maxRecDepth 100000 in
set_option maxHeartbeats 3200000 in
theorem one_any (g : Nat) (a : Option Addr) (n c : Nat) (w : World) (h : Src w g a n c) :
    Calls Try.prog 110 #[.pointer (some ⟨g, 0, none⟩)] w fun e w' => ∃ (p : Int) (a' : Option Addr) (c' : Nat) (ys : List Int), e = .returned (.tuple #[.int .i64 p, .slice a' ys.length c']) ∧ Own w.heap.size w' a' c' ys ∧ ys.length ≤ 100 ∧ Src w' g a n c ∧ w.grownBy w' (some g) := by
  have hlt := h.lt
  go_enter Try.func110, Try.ntmps110
  go_wp2_with fail
  refine (any_any g a n c _ h).mono ?_
  rintro e w1 ⟨p, rfl, ⟨p0, p1⟩, hs1, hg1⟩
  have hl2 := lit_sl w1 [2, 4, 8, 24] (by simp)
  simp only [List.map_cons, List.map_nil, List.length_cons, List.length_nil] at hl2
  have hba := bl1 w1 (.cells [Value.int .i64 2, Value.int .i64 4, Value.int .i64 8, Value.int .i64 24].toArray 2)
  have hlt1 := hs1.lt
  by_cases hq : p < 1
  all_goals
    go_wp2_with fail
    refine (pick_any g a n c _ _ _ [2, 4, 8, 24] _ (hs1.below hba) hl2 (by omega) (by omega) (by simp [blk]; omega)).mono ?_
    rintro e w2 ⟨m, rfl, hm, hs2, hg2⟩
    have hm2 : 0 ≤ m ∧ m ≤ 24 := by simp at hm; omega
    have hg2' := grown_trans (grown_below hg1 hba) hg2
    clear hm
    go_wp2_with fail
    refine (drawPoly_any g a n c _ m _ hs2 (by omega) hm2.1 hm2.2).mono ?_
    rintro e w3 ⟨a3, c3, ys, rfl, hO3, hA, hL, hs3, hg3⟩
    have hg3' := grown_trans hg2' hg3
    have hz2 := hg2'.size
    have hz3 := hg3'.size
    clear hA
    go_wp2_with fail
    refine (bad_any g w.heap.size a n c p _ _ ys _ hs3 p0 p1 (hO3.mono hz2) hlt hz3 (by omega)).mono ?_
    rintro e w4 ⟨a4, c4, zs, rfl, hO4, hL4, hs4, hg4⟩
    go_wp2
    go_ret2
    exact ⟨p, a4, c4, zs, rfl, hO4, hL4, hs4, grown_trans hg3' hg4⟩
set_option maxRecDepth 100000 in
set_option maxHeartbeats 3200000 in
theorem two_any (g : Nat) (a : Option Addr) (n c : Nat) (w : World) (h : Src w g a n c) :
    Calls Try.prog 92 #[.pointer (some ⟨g, 0, none⟩)] w fun e w' => ∃ (p : Int) (a1 : Option Addr) (c1 : Nat) (xs : List Int) (a2 : Option Addr) (c2 : Nat) (ys : List Int), e = .returned (.tuple #[.int .i64 p, .slice a1 xs.length c1, .slice a2 ys.length c2]) ∧ (-3 ≤ p ∧ p ≤ 10009) ∧
      Own w.heap.size w' a1 c1 xs ∧ xs.length ≤ 100 ∧ Own w.heap.size w' a2 c2 ys ∧ ys.length ≤ 100 ∧ Src w' g a n c ∧ w.grownBy w' (some g) := by
  have hlt := h.lt
  go_enter Try.func92, Try.ntmps92
  go_wp2_with fail
  refine (any_any g a n c _ h).mono ?_
  rintro e w1 ⟨p, rfl, ⟨p0, p1⟩, hs1, hg1⟩
  go_wp2_with fail
  refine (fine_any _ _).mono ?_
  rintro e w1' ⟨q, rfl, hq, rfl⟩
  obtain ⟨q1, q2⟩ := primeB_lo hq
  clear hq
  have hl2 := lit_sl w1 [2, 4, 8] (by simp)
  simp only [List.map_cons, List.map_nil, List.length_cons, List.length_nil] at hl2
  have hba := bl1 w1 (.cells [Value.int .i64 2, Value.int .i64 4, Value.int .i64 8].toArray 2)
  have hlt1 := hs1.lt
  go_wp2_with fail
  refine (pick_any g a n c _ _ _ [2, 4, 8] _ (hs1.below hba) hl2 (by omega) (by omega) (by simp [blk]; omega)).mono ?_
  rintro e w2 ⟨m, rfl, hm, hs2, hg2⟩
  have hm2 : 0 ≤ m ∧ m ≤ 24 := by simp at hm; omega
  have hg2' := grown_trans (grown_below hg1 hba) hg2
  clear hm
  go_wp2_with fail
  refine (drawPoly_any g a n c q m _ hs2 (by omega) hm2.1 hm2.2).mono ?_
  rintro e w3 ⟨a3, c3, xs, rfl, hO3, hA3, hL3, hs3, hg3⟩
  have hg3' := grown_trans hg2' hg3
  have HA3 := hide hA3
  have hO3' := hide (hO3.mono hg2'.size)
  clear hA3 hO3
  go_wp2_with fail
  refine (drawPoly_any g a n c q m _ hs3 (by omega) hm2.1 hm2.2).mono ?_
  rintro e w4 ⟨a4, c4, ys, rfl, hO4, hA4, hL4, hs4, hg4⟩
  have hg4' := grown_trans hg3' hg4
  have HA4 := hide hA4
  have hO4' := hide (hO4.mono hg3'.size)
  have hO3'' := hide (hO3'.out.gk hg4 hlt)
  clear hA4 hO4 hO3'
  go_wp2_with fail
  refine (next_any g a n c 3 _ hs4 (by omega)).mono ?_
  rintro e w5 ⟨t, rfl, ⟨t0, t1⟩, hs5, hg5⟩
  have hg5' := grown_trans hg4' hg5
  have hX := hide (hO3''.out.gk hg5 hlt)
  have hY := hide (hO4'.out.gk hg5 hlt)
  clear hO3'' hO4'
  by_cases ht : t = 0
  · subst ht
    go_wp2_with fail
    refine (drawPoly_any g a n c q 3 _ hs5 (by omega) (by omega) (by omega)).mono ?_
    rintro e w6 ⟨a6, c6, zs, rfl, hO6, hA6, hL6, hs6, hg6⟩
    have hg6' := grown_trans hg5' hg6
    have HA6 := hide hA6
    have hZ := hide (hO6.mono hg5'.size)
    have hX2 := hide (hX.out.gk hg6 hlt)
    have hY2 := hide (hY.out.gk hg6 hlt)
    clear hA6 hO6 hX hY
    go_wp2_with fail
    refine (l01Times_any q _ _ _ xs _ _ _ zs _ hX2.out.sl hZ.out.sl (by omega) (by omega) q1 q2 HA3.out HA6.out).mono ?_
    rintro e w7 ⟨a7, c7, rfl, hO7, hb7⟩
    have hX3 := hide (hO7.mono hg6'.size)
    have hlx : (trimL (mulM q xs zs)).length ≤ 90 := by have := trimL_le (mulM q xs zs); have := mulM_mlen' q xs zs; omega
    have hg7' := grown_below hg6' hb7
    have hY3 := hide (hY2.out.below hb7)
    have hZ3 := hide (hZ.out.below hb7)
    have hs7 := hs6.below hb7
    clear hO7 hX2 hY2 hZ
    obtain ⟨us, hus⟩ : ∃ us, trimL (mulM q xs zs) = us := ⟨_, rfl⟩
    rw [hus] at hX3 hlx ⊢
    go_wp2_with fail
    refine (l01Times_any q _ _ _ ys _ _ _ zs _ hY3.out.sl hZ3.out.sl (by omega) (by omega) q1 q2 HA4.out HA6.out).mono ?_
    rintro e w8 ⟨a8, c8, rfl, hO8, hb8⟩
    have hY4 := hide (hO8.mono hg7'.size)
    have hly : (trimL (mulM q ys zs)).length ≤ 90 := by have := trimL_le (mulM q ys zs); have := mulM_mlen' q ys zs; omega
    have hg8' := grown_below hg7' hb8
    have hX4 := hide (hX3.out.below hb8)
    have hs8 := hs7.below hb8
    clear hO8 hX3 hY3 hZ3 hus
    obtain ⟨vs, hvs⟩ : ∃ vs, trimL (mulM q ys zs) = vs := ⟨_, rfl⟩
    rw [hvs] at hY4 hly ⊢
    clear hvs
    go_wp2_with fail
    refine (bad_any g w.heap.size a n c p _ _ us _ hs8 p0 p1 hX4.out hlt hg8'.size hlx).mono ?_
    rintro e w9 ⟨a9, c9, us', rfl, hO9, hL9, hs9, hg9⟩
    have hg9' := grown_trans hg8' hg9
    have hY5 := hide (hY4.out.gk hg9 hlt)
    have hX5 := hide hO9
    clear hO9 hY4 hX4
    go_wp2_with fail
    refine (bad_any g w.heap.size a n c p _ _ vs _ hs9 p0 p1 hY5.out hlt hg9'.size hly).mono ?_
    rintro e w10 ⟨a10, c10, vs', rfl, hO10, hL10, hs10, hg10⟩
    have hX6 := hX5.out.gk hg10 hlt
    go_wp2
    go_ret3
    exact ⟨p, a9, c9, us', a10, c10, vs', rfl, ⟨p0, p1⟩, hX6, hL9, hO10, hL10, hs10, grown_trans hg9' hg10⟩
  · have ht' : (t == 0) = false := by simpa using ht
    go_wp2_with fail
    refine (bad_any g w.heap.size a n c p _ _ xs _ hs5 p0 p1 hX.out hlt hg5'.size (by omega)).mono ?_
    rintro e w9 ⟨a9, c9, us', rfl, hO9, hL9, hs9, hg9⟩
    have hg9' := grown_trans hg5' hg9
    have hY5 := hide (hY.out.gk hg9 hlt)
    have hX5 := hide hO9
    clear hO9 hY hX
    go_wp2_with fail
    refine (bad_any g w.heap.size a n c p _ _ ys _ hs9 p0 p1 hY5.out hlt hg9'.size (by omega)).mono ?_
    rintro e w10 ⟨a10, c10, vs', rfl, hO10, hL10, hs10, hg10⟩
    have hX6 := hX5.out.gk hg10 hlt
    go_wp2
    go_ret3
    exact ⟨p, a9, c9, us', a10, c10, vs', rfl, ⟨p0, p1⟩, hX6, hL9, hO10, hL10, hs10, grown_trans hg9' hg10⟩
end Go.Proofs.Ytjmhkodbkkdfdaa
