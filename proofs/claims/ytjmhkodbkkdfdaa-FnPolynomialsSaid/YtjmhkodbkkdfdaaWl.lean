/- Contracts of the draws of polynomials: l01DrawList, l01DrawPoly, l01Bad, l01Fine, l01One, l01Two. -/
import Derived.Test.YtjmhkodbkkdfdaaDn
import Derived.Test.YtjmhkodbkkdfdaaWa
import Derived.Test.YtjmhkodbkkdfdaaMu
import Derived.Test.YtjmhkodbkkdfdaaGc
namespace Go.Proofs.Ytjmhkodbkkdfdaa
open Go.RowKit
set_option linter.unusedVariables false
set_option linter.unusedSimpArgs false
theorem areB_app {p x : Int} {ys : List Int} (h : areB p ys = true) (h0 : 0 ≤ x) (h1 : x < p) : areB p (ys ++ [x]) = true := by
  unfold areB at *
  rw [List.all_append, h]
  simp [okN, h0, h1]
theorem grown_below {w w1 w2 : World} {g : Nat} (h : w.grownBy w1 (some g)) (k : Below w1.heap.size w1 w2) : w.grownBy w2 (some g) :=
  ⟨k.os.trans h.os, k.tape.trans h.tape, k.output.trans h.output, Nat.le_trans h.size k.size, fun i hi hne => (k.block i (Nat.lt_of_lt_of_le hi h.size)).trans (h.block i hi hne)⟩
set_option maxRecDepth 100000 in
set_option maxHeartbeats 3200000 in
theorem drawList_any (g : Nat) (a : Option Addr) (n c : Nat) (p N : Int) (w : World) (h : Src w g a n c) (hp : 1 ≤ p) (hN0 : 0 ≤ N) (hN : N ≤ 30) :
    Calls Try.prog 141 #[.pointer (some ⟨g, 0, none⟩), .int .i64 p, .int .i64 N] w fun e w' => ∃ (a' : Option Addr) (c' : Nat) (ys : List Int), e = .returned (.slice a' ys.length c') ∧ Own w.heap.size w' a' c' ys ∧ areB p ys = true ∧ (ys.length : Int) = N ∧ blk a' ≠ none ∧ Src w' g a n c ∧ w.grownBy w' (some g) := by
  have hlt := h.lt
  have hcd := h.code_lt
  have hba := bl1 w (.cells #[] 2)
  have hO0 : Own w.heap.size (w.alloc (.cells #[] 2)) (some ⟨w.heap.size, 0, none⟩) 0 [] := by
    have := World.ownsRow_lit w (base := w.heap.size) (e := 2) (size := 1) #[] 0 (Nat.le_refl _) (by simp) rfl
    exact this
  go_enter Try.func141, Try.ntmps141
  go_wp2_with fail
  refine (next_any g a n c 3 _ (h.below hba) (by omega)).mono ?_
  rintro e w1 ⟨r, rfl, ⟨r0, r1⟩, hs1, hg1⟩
  have hg0 := grown_trans (World.grownBy_alloc w (.cells #[] 2) (some g)) hg1
  have hO1 := hide (hO0.gk hg1 hlt)
  clear hO0
  go_wp2
  go_loopw [2, 7] (fun nv ov wr => ∃ (m : Int) (a' : Option Addr) (c' : Nat) (ys : List Int), (0 ≤ m ∧ m ≤ N) ∧ nv = .int .i64 m ∧ ov = .slice a' ys.length c' ∧ Hid (Own w.heap.size wr a' c' ys) ∧ Hid (areB p ys = true) ∧ Hid ((ys.length : Int) + m = N) ∧ Hid (blk a' ≠ none) ∧ Src wr g a n c ∧ w.grownBy wr (some g)) (fun nv _ _ => (intOf nv).toNat)
  case atStart => exact ⟨N, some ⟨w.heap.size, 0, none⟩, 0, [], ⟨hN0, by omega⟩, rfl, rfl, hO1, hide rfl, hide (by simp), hide (by simp [blk]), hs1, hg0⟩
  case round =>
    obtain ⟨m, a', c', ys, ⟨hm0, hm1⟩, rfl, rfl, hO, hA, hL, hN', hs, hg⟩ := hrel
    clear hO1 hg0 hg1 hs1
    have hsz := hg.size
    by_cases hpos : 0 < m
    · have hyl : ys.length ≤ 30 := by have := hL.out; omega
      by_cases hr : r = 0
      · have hr' : (r == 0) = true := by simpa using hr
        subst hr
        go_wp2_with fail
        refine (next_any g a n c p _ hs hp).mono ?_
        rintro e w2 ⟨x, rfl, ⟨x0, x1⟩, hs2, hg2⟩
        have hO2 := hide (hO.out.gk hg2 hlt)
        have hg2' := grown_trans hg hg2
        have hba2 := bl1 w2 (.cells #[.int .i64 x] 2)
        have hO3 := hide (hO2.out.below hba2)
        have hcl : (w2.alloc (.cells #[.int .i64 x] 2)).cell? ⟨w2.heap.size, 0, none⟩ = some (.int .i64 x) := by simp [go_sem]
        have hs3 := hs2.below hba2
        have hg3 := grown_below hg2' hba2
        have hsz2 := hg3.size
        go_wp2_with (at_builtin; refine wp_app1 rfl _ _ rfl w.heap.size _ _ _ ys rfl rfl hO3.out _ _ x rfl hcl (by omega) hsz2 ?_; intro ad' cap' w4 hO4 hg4 hloc)
        have hA2 := hide (areB_app hA.out x0 x1)
        have hL2 := hide (show ((ys ++ [x]).length : Int) + (m - 1) = N by have := hL.out; simp; omega)
        have hs4 : Src w4 g a n c := hs3.grow hg4 (fun e => by have := own_blk_ge hO3.out _ e; omega) (fun h0 b hb e => by have := own_blk_ge hO3.out _ e; have := hcd h0 b hb; omega)
        have hg5 := grown_row hg3 hg4 (own_blk_ge hO3.out)
        clear hO hO3 hA hL
        go_roundw
        case rel => exact ⟨m - 1, ad', cap', ys ++ [x], ⟨by omega, by omega⟩, rfl, by simp, hide hO4, hA2, hL2, hide (by rcases hloc with h | h <;> rw [h]; exact hN'.out; simp), hs4, hg5⟩
        case measure => simp [intOf]; omega
      · have hr' : (r == 0) = false := by simpa using hr
        go_wp2_with fail
        refine (next_any g a n c 3 _ hs (by omega)).mono ?_
        rintro e w2 ⟨t, rfl, ⟨t0, t1⟩, hs2, hg2⟩
        have hO2 := hide (hO.out.gk hg2 hlt)
        have hg2' := grown_trans hg hg2
        by_cases ht : 0 < t
        · go_wp2_with fail
          refine (next_any g a n c p _ hs2 hp).mono ?_
          rintro e w3 ⟨x, rfl, ⟨x0, x1⟩, hs2a, hg2a⟩
          have hO2a := hide (hO2.out.gk hg2a hlt)
          have hg2b := grown_trans hg2' hg2a
          have hba2 := bl1 w3 (.cells #[.int .i64 x] 2)
          have hO3 := hide (hO2a.out.below hba2)
          have hcl : (w3.alloc (.cells #[.int .i64 x] 2)).cell? ⟨w3.heap.size, 0, none⟩ = some (.int .i64 x) := by simp [go_sem]
          have hs3 := hs2a.below hba2
          have hg3 := grown_below hg2b hba2
          have hsz2 := hg3.size
          go_wp2_with (at_builtin; refine wp_app1 rfl _ _ rfl w.heap.size _ _ _ ys rfl rfl hO3.out _ _ x rfl hcl (by omega) hsz2 ?_; intro ad' cap' w4 hO4 hg4 hloc)
          have hA2 := hide (areB_app hA.out x0 x1)
          have hL2 := hide (show ((ys ++ [x]).length : Int) + (m - 1) = N by have := hL.out; simp; omega)
          have hs4 : Src w4 g a n c := hs3.grow hg4 (fun e => by have := own_blk_ge hO3.out _ e; omega) (fun h0 b hb e => by have := own_blk_ge hO3.out _ e; have := hcd h0 b hb; omega)
          have hg5 := grown_row hg3 hg4 (own_blk_ge hO3.out)
          clear hO hO3 hA hL
          go_roundw
          case rel => exact ⟨m - 1, ad', cap', ys ++ [x], ⟨by omega, by omega⟩, rfl, by simp, hide hO4, hA2, hL2, hide (by rcases hloc with h | h <;> rw [h]; exact hN'.out; simp), hs4, hg5⟩
          case measure => simp [intOf]; omega
        · have ht2 : t = 0 := by omega
          subst ht2
          have hba2 := bl1 w2 (.cells #[.int .i64 0] 2)
          have hO3 := hide (hO2.out.below hba2)
          have hcl : (w2.alloc (.cells #[.int .i64 0] 2)).cell? ⟨w2.heap.size, 0, none⟩ = some (.int .i64 0) := by simp [go_sem]
          have hs3 := hs2.below hba2
          have hg3 := grown_below hg2' hba2
          have hsz2 := hg3.size
          go_wp2_with (at_builtin; refine wp_app1 rfl _ _ rfl w.heap.size _ _ _ ys rfl rfl hO3.out _ _ 0 rfl hcl (by omega) hsz2 ?_; intro ad' cap' w4 hO4 hg4 hloc)
          have hA2 := hide (areB_app hA.out (Int.le_refl 0) (by omega))
          have hL2 := hide (show ((ys ++ [0]).length : Int) + (m - 1) = N by have := hL.out; simp; omega)
          have hs4 : Src w4 g a n c := hs3.grow hg4 (fun e => by have := own_blk_ge hO3.out _ e; omega) (fun h0 b hb e => by have := own_blk_ge hO3.out _ e; have := hcd h0 b hb; omega)
          have hg5 := grown_row hg3 hg4 (own_blk_ge hO3.out)
          clear hO hO3 hA hL
          go_roundw
          case rel => exact ⟨m - 1, ad', cap', ys ++ [0], ⟨by omega, by omega⟩, rfl, by simp, hide hO4, hA2, hL2, hide (by rcases hloc with h | h <;> rw [h]; exact hN'.out; simp), hs4, hg5⟩
          case measure => simp [intOf]; omega
    · have hm2 : Hid ((ys.length : Int) = N) := hide (by have := hL.out; omega)
      go_wp2
      go_ret
      exact ⟨a', c', ys, rfl, hO.out, hA.out, hm2.out, hN'.out, hs, hg⟩
set_option maxRecDepth 100000 in
set_option maxHeartbeats 1600000 in
theorem drawPoly_any (g : Nat) (a : Option Addr) (n c : Nat) (p N : Int) (w : World) (h : Src w g a n c) (hp : 1 ≤ p) (hN0 : 0 ≤ N) (hN : N ≤ 24) :
    Calls Try.prog 105 #[.pointer (some ⟨g, 0, none⟩), .int .i64 p, .int .i64 N] w fun e w' => ∃ (a' : Option Addr) (c' : Nat) (ys : List Int), e = .returned (.slice a' ys.length c') ∧ Own w.heap.size w' a' c' ys ∧ areB p ys = true ∧ ys.length ≤ 25 ∧ Src w' g a n c ∧ w.grownBy w' (some g) := by
  have hlt := h.lt
  go_enter Try.func105, Try.ntmps105
  go_wp2_with fail
  refine (next_any g a n c (N + 2) _ h (by omega)).mono ?_
  rintro e w1 ⟨r, rfl, ⟨r0, r1⟩, hs1, hg1⟩
  go_wp2_with fail
  refine (drawList_any g a n c p r _ hs1 hp r0 (by omega)).mono ?_
  rintro e w2 ⟨a2, c2, ys, rfl, hO2, hA, hL, hN', hs2, hg2⟩
  obtain ⟨b2, rfl⟩ : ∃ b2, a2 = some ⟨b2, 0, none⟩ := by
    rcases hO2.shape with ⟨rfl, _, _⟩ | ⟨g', cur, rfl, _⟩
    · exact absurd rfl hN'
    · exact ⟨g', rfl⟩
  have HA := hide hA
  have HL := hide hL
  have hl : ys.length ≤ 25 := by omega
  have hz1 := hg1.size
  clear hA hL hN'
  go_wp2_with fail
  refine (l01Trim_any _ _ _ _ ys _ hO2.sl (by omega)).mono ?_
  rintro e w3 ⟨a3, c3, rfl, hO3, hb3⟩
  have hz2 := hg2.size
  have HT := hide (show areB p (trimL ys) = true from areB_mk fun j hj => by
    rw [trimL_at _ _ hj]
    exact areB_at HA.out j (Nat.lt_of_lt_of_le hj (trimL_le _)))
  have HT2 := hide (show (trimL ys).length ≤ 25 from Nat.le_trans (trimL_le _) hl)
  go_wp2
  go_ret
  exact ⟨a3, c3, trimL ys, rfl, hO3.mono (by omega), HT.out, HT2.out, hs2.below hb3, grown_below (grown_trans hg1 hg2) hb3⟩
set_option maxHeartbeats 400000 in
theorem fine_any (p : Int) (w : World) : Calls Try.prog 140 #[.int .i64 p] w fun e w' => ∃ q : Int, e = .returned (.int .i64 q) ∧ primeB q = true ∧ w = w' := by
  have h7 : primeB 7 = true := by decide +kernel
  cases hp : primeB p
  · have Hp := hide hp
    have H7 := hide h7
    clear hp h7
    go_enter Try.func140, Try.ntmps140
    go_wp2_with fail
    refine (l01Prime_any _ _).mono ?_
    rintro e w' ⟨rfl, rfl⟩
    rw [Hp.out]
    go_wp2
    go_ret
    exact ⟨7, rfl, H7.out, rfl⟩
  · have Hp := hide hp
    clear hp h7
    go_enter Try.func140, Try.ntmps140
    go_wp2_with fail
    refine (l01Prime_any _ _).mono ?_
    rintro e w' ⟨rfl, rfl⟩
    rw [Hp.out]
    go_wp2
    go_ret
    exact ⟨p, rfl, Hp.out, rfl⟩
set_option maxRecDepth 100000 in
set_option maxHeartbeats 3200000 in
/-- A list that lies beside the source, of at most 100 numbers. -/
theorem bad_any (g B : Nat) (a : Option Addr) (n c : Nat) (p : Int) (af : Option Addr) (cf : Nat) (f : List Int) (w : World) (h : Src w g a n c) (hp0 : -3 ≤ p) (hp1 : p ≤ 10009) (hf : Own B w af cf f) (hB : g < B) (hB2 : B ≤ w.heap.size) (hl : f.length ≤ 90) :
    Calls Try.prog 107 #[.pointer (some ⟨g, 0, none⟩), .int .i64 p, .slice af f.length cf] w fun e w' => ∃ (a' : Option Addr) (c' : Nat) (ys : List Int), e = .returned (.slice a' ys.length c') ∧ Own B w' a' c' ys ∧ ys.length ≤ 100 ∧ Src w' g a n c ∧ w.grownBy w' (some g) := by
  have hlt := h.lt
  have hcd := h.code_lt
  go_enter Try.func107, Try.ntmps107
  go_wp2_with fail
  refine (next_any g a n c 40 _ h (by omega)).mono ?_
  rintro e w1 ⟨r, rfl, ⟨r0, r1⟩, hs1, hg1⟩
  have hz1 := hg1.size
  have hf1 := hide (hf.gk hg1 hB)
  clear hf
  by_cases e0 : r = 0
  · subst e0
    go_wp2_with fail
    refine (l01Own_any _ _ _ f _ hf1.out.sl (by omega)).mono ?_
    rintro e w2 ⟨a2, c2, rfl, hO2, hb2⟩
    have hz2 := hb2.size
    have hba2 := bl1 w2 (.cells #[.int .i64 0] 2)
    have hO3 := hide ((hO2.mono hz1).below hba2)
    have hcl : (w2.alloc (.cells #[.int .i64 0] 2)).cell? ⟨w2.heap.size, 0, none⟩ = some (.int .i64 0) := by simp [go_sem]
    have hs3 := (hs1.below hb2).below hba2
    have hg3 := grown_below (grown_below hg1 hb2) hba2
    have hsz2 := hg3.size
    go_wp2_with (at_builtin; refine wp_app1 rfl _ _ rfl w.heap.size _ _ _ f rfl rfl hO3.out _ _ 0 rfl hcl (by omega) hsz2 ?_; intro ad' cap' w4 hO4 hg4 hloc)
    have hs4 : Src w4 g a n c := hs3.grow hg4 (fun e => by have := own_blk_ge hO3.out _ e; omega) (fun h0 b hb e => by have := own_blk_ge hO3.out _ e; have := hcd h0 b hb; omega)
    have hg5 := grown_row hg3 hg4 (own_blk_ge hO3.out)
    go_ret
    exact ⟨ad', cap', f ++ [0], by simp, hO4.mono hB2, by simp; omega, hs4, hg5⟩
  · have e0' : (r == 0) = false := by simpa using e0
    by_cases e1 : r = 1
    · subst e1
      go_wp2_with fail
      refine (l01Own_any _ _ _ f _ hf1.out.sl (by omega)).mono ?_
      rintro e w2 ⟨a2, c2, rfl, hO2, hb2⟩
      have hz2 := hb2.size
      have hl2 := lit_sl w2 [p, -1] (by simp)
      simp only [List.map_cons, List.map_nil, List.length_cons, List.length_nil] at hl2
      have hba2 := bl1 w2 (.cells [Value.int .i64 p, Value.int .i64 (-1)].toArray 2)
      have hs2 := (hs1.below hb2).below hba2
      have hg2 := grown_below (grown_below hg1 hb2) hba2
      have hO2' := hide ((hO2.mono hz1).below hba2)
      go_wp2_with fail
      refine (pick_any g a n c _ _ _ [p, -1] _ hs2 hl2 (by omega) (by omega) (by simp [blk]; omega)).mono ?_
      rintro e w3 ⟨v, rfl, hv, hs3', hg3'⟩
      have hP : Hid (-3 ≤ v ∧ v ≤ 10009) := hide (by simp at hv; omega)
      have hba3 := bl1 w3 (.cells #[.int .i64 v] 2)
      have hO3 := hide ((hO2'.out.gk hg3' hlt).below hba3)
      have hcl : (w3.alloc (.cells #[.int .i64 v] 2)).cell? ⟨w3.heap.size, 0, none⟩ = some (.int .i64 v) := by simp [go_sem]
      have hs3 := hs3'.below hba3
      have hg3 := grown_below (grown_trans hg2 hg3') hba3
      have hsz2 := hg3.size
      clear hv
      go_wp2_with (at_builtin; refine wp_app1 rfl _ _ rfl w.heap.size _ _ _ f rfl rfl hO3.out _ _ v rfl hcl (by omega) hsz2 ?_; intro ad' cap' w4 hO4 hg4 hloc)
      have hs4 : Src w4 g a n c := hs3.grow hg4 (fun e => by have := own_blk_ge hO3.out _ e; omega) (fun h0 b hb e => by have := own_blk_ge hO3.out _ e; have := hcd h0 b hb; omega)
      have hg5 := grown_row hg3 hg4 (own_blk_ge hO3.out)
      go_ret
      exact ⟨ad', cap', f ++ [v], by simp, hO4.mono hB2, by simp; omega, hs4, hg5⟩
    · have e1' : (r == 1) = false := by simpa using e1
      by_cases e2 : r = 2
      · subst e2
        go_wp2_with fail
        refine (l01Own_any _ _ _ f _ hf1.out.sl (by omega)).mono ?_
        rintro e w2 ⟨a2, c2, rfl, hO2, hb2⟩
        have hz2 := hb2.size
        have hg2 := grown_below hg1 hb2
        have hs2 := hs1.below hb2
        have hO2' := hide (hO2.mono hz1)
        go_wp2
        go_loopw [7] (fun ov wr => ∃ (a' : Option Addr) (c' : Nat) (ys : List Int), ov = .slice a' ys.length c' ∧ Hid (Own w.heap.size wr a' c' ys) ∧ ys.length ≤ 95 ∧ Src wr g a n c ∧ w.grownBy wr (some g)) (fun ov _ => match ov with | .slice _ k _ => 95 - k | _ => 0)
        case atStart => exact ⟨a2, c2, f, rfl, hO2', by omega, hs2, hg2⟩
        case round =>
          obtain ⟨a', c', ys, rfl, hO, hyl, hs, hg⟩ := hrel
          clear hO2' hs2 hg2
          by_cases hle : (ys.length : Int) ≤ 25
          · have hba2 := bl1 wr (.cells #[.int .i64 1] 2)
            have hO3 := hide (hO.out.below hba2)
            have hcl : (wr.alloc (.cells #[.int .i64 1] 2)).cell? ⟨wr.heap.size, 0, none⟩ = some (.int .i64 1) := by simp [go_sem]
            have hs3 := hs.below hba2
            have hg3 := grown_below hg hba2
            have hsz2 := hg3.size
            go_wp2_with (at_builtin; refine wp_app1 rfl _ _ rfl w.heap.size _ _ _ ys rfl rfl hO3.out _ _ 1 rfl hcl (by omega) hsz2 ?_; intro ad' cap' w4 hO4 hg4 hloc)
            have hs4 : Src w4 g a n c := hs3.grow hg4 (fun e => by have := own_blk_ge hO3.out _ e; omega) (fun h0 b hb e => by have := own_blk_ge hO3.out _ e; have := hcd h0 b hb; omega)
            have hg5 := grown_row hg3 hg4 (own_blk_ge hO3.out)
            clear hO hO3
            go_roundw
            case rel => exact ⟨ad', cap', ys ++ [1], by simp, hide hO4, by simp; omega, hs4, hg5⟩
            case measure => simp; omega
          · go_wp2
            go_ret
            exact ⟨a', c', ys, rfl, hO.out.mono hB2, by omega, hs, hg⟩
      · have e2' : (r == 2) = false := by simpa using e2
        go_wp2
        go_ret
        exact ⟨af, cf, f, rfl, hf1.out, by omega, hs1, hg1⟩
end Go.Proofs.Ytjmhkodbkkdfdaa
