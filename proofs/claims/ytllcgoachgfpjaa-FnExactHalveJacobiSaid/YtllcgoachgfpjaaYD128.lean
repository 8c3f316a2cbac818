/- Merged texts. -/
import Derived.Test.YtllcgoachgfpjaaYD124
import Derived.Test.YtllcgoachgfpjaaYD125
import Derived.Test.YtllcgoachgfpjaaYD127
/- Contracts: HalveJacobi (program and model). -/
namespace Go.Proofs.Ytllcgoachgfpjaa
open Go.RowKit
set_option linter.unusedVariables false
set_option linter.unusedSimpArgs false

def hvjC (p : Int) (xs ys : List Int) : Int := if jacB p xs ys then (if 2 ≤ xs.length ∧ trimN xs xs.length = 0 then 0 else 5) else 1
def hvjP (p : Int) (xs ys : List Int) : Int := if hvjC p xs ys = 0 then p else 0
def hvjV (p : Int) (xs ys : List Int) : List Int := if hvjC p xs ys = 0 then tab (xs.length / 2) (jsA p ys) else []
def hvjU (p : Int) (xs ys : List Int) : List Int := if hvjC p xs ys = 0 then tab (xs.length / 2) (jsB p ys) else []
theorem hvj_err {p : Int} {xs ys : List Int} {e : Int} (h : hvjC p xs ys = e) (he : e ≠ 0) : hvjP p xs ys = 0 ∧ hvjV p xs ys = [] ∧ hvjU p xs ys = [] := by
  have : hvjC p xs ys ≠ 0 := by rw [h]; exact he
  exact ⟨if_neg this, if_neg this, if_neg this⟩
theorem hasB_tab {n : Nat} {h : Nat → Int} (hh : ∀ k, k < n → h k ≠ 0) : hasB 0 (tab n h) = false := by
  unfold hasB tab
  rw [List.any_eq_false]
  intro x hx
  rw [List.mem_map] at hx
  obtain ⟨k, hk, rfl⟩ := hx
  have := hh k (by simpa using hk)
  simp
  omega
theorem getD_take2 (ys : List Int) (e k : Nat) (h : k < e) : (ys.take e).getD k 0 = ys.getD k 0 := by
  simp [List.getD_eq_getElem?_getD, List.getElem?_take, h]
theorem jos_half {p : Int} (hP : primeB p = true) {ys : List Int} (hy : posB p ys = true) (m e : Nat) (hm : ys.length = m) (h2 : 2 ≤ m) (h12 : m ≤ 12) (he : e = m - m % 2) :
    josC p (ys.take e) = 0 ∧ josV p (ys.take e) = tab (m / 2) (jsA p ys) ∧ josU p (ys.take e) = tab (m / 2) (jsB p ys) ∧ josP p (ys.take e) = p := by
  have hl : (ys.take e).length = e := by simp; omega
  have hr : e / 2 = m / 2 := by omega
  have eA : tab (m / 2) (jsA p (ys.take e)) = tab (m / 2) (jsA p ys) := tab_congr fun k hk => by
    unfold jsA
    split
    · rw [getD_take2 _ _ _ (by omega)]
    · rw [getD_take2 _ _ _ (by omega), getD_take2 _ _ _ (by omega)]
  have eB : tab (m / 2) (jsB p (ys.take e)) = tab (m / 2) (jsB p ys) := tab_congr fun k hk => by
    unfold jsB
    split
    · rw [getD_take2 _ _ _ (by omega)]
    · rw [getD_take2 _ _ _ (by omega), getD_take2 _ _ _ (by omega)]
  have hA : areB p (ys.take e) = true := areB_mk fun j hj => by
    rw [hl] at hj
    rw [getD_take2 _ _ _ hj]
    have := posB_at hy j (by omega)
    omega
  have hz : hasB 0 (tab (m / 2) (jsB p ys)) = false := hasB_tab fun k hk => by
    unfold jsB
    split
    · have := posB_at hy 0 (by omega); omega
    · have a1 := posB_at hy (2 * k - 1) (by omega)
      have a2 := posB_at hy (2 * k) (by omega)
      exact prime_mul hP (by omega) a1.2 (by omega) a2.2
  have hL : lisB p (ys.take e) 2 24 = true := by
    simp only [lisB, hP, hA, hl]
    simp
    omega
  have hC : josC p (ys.take e) = 0 := by
    unfold josC
    rw [if_pos ⟨hL, by rw [hl]; omega⟩, hl, hr, eB, hz]
    rfl
  refine ⟨hC, ?_, ?_, ?_⟩
  · rw [josV, if_pos hC, hl, hr, eA]
  · rw [josU, if_pos hC, hl, hr, eB]
  · rw [josP, if_pos hC]
set_option maxRecDepth 100000 in
set_option maxHeartbeats 3200000 in
theorem implHalveJacobi (p : Int) (a : Option Addr) (n c : Nat) (xs : List Int) (b : Option Addr) (m d : Nat) (ys : List Int) (w : World) (hs : SL w a n c xs) (ht : SL w b m d ys) (hn : n ≤ 4000000) (hm : m ≤ 4000000) :
    Calls Try.prog 36 #[jac p a n c b m d] w (ResJ w (hvjP p xs ys) (hvjV p xs ys) (hvjU p xs ys) (hvjC p xs ys)) := by
  have hl := hide hs.len
  have hl2 := hide ht.len
  have hb0 := bl2 w (.cells #[.int .i64 p, .slice a n c, .slice b m d] 38) (.cells #[.int .i64 0, .slice none 0 0, .slice none 0 0] 38)
  have g1 := hs.below hb0
  have g2 := ht.below hb0
  cases hj : jacB p xs ys
  · have HC := hide (show hvjC p xs ys = 1 by simp [hvjC, hj])
    have HE := hide (hvj_err HC.out (by decide))
    have Hj := hide hj
    clear hj
    go_enter Try.func36, Try.ntmps36
    go_wp2_with fail
    refine (implIsJacobi _ _ _ _ _ _ _ _ _ _ g1 g2 hn hm).mono ?_
    rintro e w2 ⟨rfl, hb1⟩
    rw [Hj.out]
    have f0 : w2.cell? ⟨w.heap.size, 0, none⟩ = some (.int .i64 p) := cell_be hb1 (by simp [go_sem])
    have f1 : w2.cell? ⟨w.heap.size, 1, none⟩ = some (.slice a n c) := cell_be hb1 (by simp [go_sem])
    have f2 : w2.cell? ⟨w.heap.size, 2, none⟩ = some (.slice b m d) := cell_be hb1 (by simp [go_sem])
    have r0 : w2.cell? ⟨w.heap.size + 1, 0, none⟩ = some (.int .i64 0) := cell_be hb1 (by simp [go_sem])
    have r1 : w2.cell? ⟨w.heap.size + 1, 1, none⟩ = some (.slice none 0 0) := cell_be hb1 (by simp [go_sem])
    have r2 : w2.cell? ⟨w.heap.size + 1, 2, none⟩ = some (.slice none 0 0) := cell_be hb1 (by simp [go_sem])
    have y0 : w2.frozen? ⟨w.heap.size + 1, 0, none⟩ = false := (hb1.frozen (by simp)).trans (by simp [go_sem])
    have y1 : w2.frozen? ⟨w.heap.size + 1, 1, none⟩ = false := (hb1.frozen (by simp)).trans (by simp [go_sem])
    have y2 : w2.frozen? ⟨w.heap.size + 1, 2, none⟩ = false := (hb1.frozen (by simp)).trans (by simp [go_sem])
    have hB2 := bnext hb0 hb1
    go_wp2
    refine bodyPost_ret (v := .tuple #[jac 0 none 0 0 none 0 0, .int .i64 1]) (by simp [results, Try.results36, go_sem, r0, r1, r2]) rfl ?_
    exact ResJ.nil HE.out.1 HE.out.2.1 HE.out.2.2 HC.out (((hB2.setCell (by simp) _).setCell (by simp) _).setCell (by simp) _)
  have Hj := hide hj
  obtain ⟨hpr, n1, n2, n3, hx, hy⟩ := jacB_rng hj
  obtain ⟨hp, hp2⟩ := primeB_lo hpr
  rw [hl.out] at n1 n2 n3
  rw [hl2.out] at n3
  subst n3
  have HCC := hide (show hvjC p xs ys = if 2 ≤ m ∧ trimN xs m = 0 then 0 else 5 by simp only [hvjC, hj, if_true, hl.out])
  by_cases h1 : m = 1
  · have HC := hide (show hvjC p xs ys = 5 by rw [HCC.out, if_neg (by omega)])
    have HE := hide (hvj_err HC.out (by decide))
    have ob : ((m : Int) == 1) = true := by simp; omega
    clear hj hx hy hpr h1
    go_enter Try.func36, Try.ntmps36
    go_wp2_with fail
    refine (implIsJacobi _ _ _ _ _ _ _ _ _ _ g1 g2 hn hm).mono ?_
    rintro e w2 ⟨rfl, hb1⟩
    rw [Hj.out]
    have f0 : w2.cell? ⟨w.heap.size, 0, none⟩ = some (.int .i64 p) := cell_be hb1 (by simp [go_sem])
    have f1 : w2.cell? ⟨w.heap.size, 1, none⟩ = some (.slice a m c) := cell_be hb1 (by simp [go_sem])
    have f2 : w2.cell? ⟨w.heap.size, 2, none⟩ = some (.slice b m d) := cell_be hb1 (by simp [go_sem])
    have r0 : w2.cell? ⟨w.heap.size + 1, 0, none⟩ = some (.int .i64 0) := cell_be hb1 (by simp [go_sem])
    have r1 : w2.cell? ⟨w.heap.size + 1, 1, none⟩ = some (.slice none 0 0) := cell_be hb1 (by simp [go_sem])
    have r2 : w2.cell? ⟨w.heap.size + 1, 2, none⟩ = some (.slice none 0 0) := cell_be hb1 (by simp [go_sem])
    have y0 : w2.frozen? ⟨w.heap.size + 1, 0, none⟩ = false := (hb1.frozen (by simp)).trans (by simp [go_sem])
    have y1 : w2.frozen? ⟨w.heap.size + 1, 1, none⟩ = false := (hb1.frozen (by simp)).trans (by simp [go_sem])
    have y2 : w2.frozen? ⟨w.heap.size + 1, 2, none⟩ = false := (hb1.frozen (by simp)).trans (by simp [go_sem])
    have hB2 := bnext hb0 hb1
    go_wp2
    refine bodyPost_ret (v := .tuple #[jac 0 none 0 0 none 0 0, .int .i64 5]) (by simp [results, Try.results36, go_sem, r0, r1, r2]) rfl ?_
    exact ResJ.nil HE.out.1 HE.out.2.1 HE.out.2.2 HC.out (((hB2.setCell (by simp) _).setCell (by simp) _).setCell (by simp) _)
  have ob : ((m : Int) == 1) = false := by simp; omega
  obtain ⟨t, htt⟩ : ∃ t, trimN xs m = t := ⟨_, rfl⟩
  have HT := hide htt
  by_cases ht0 : 0 < t
  · have HC := hide (show hvjC p xs ys = 5 by rw [HCC.out, if_neg (by omega)])
    have HE := hide (hvj_err HC.out (by decide))
    have ot : (0 : Int) < (t : Int) := by omega
    clear hj hx hy hpr h1 htt
    go_enter Try.func36, Try.ntmps36
    go_wp2_with fail
    refine (implIsJacobi _ _ _ _ _ _ _ _ _ _ g1 g2 hn hm).mono ?_
    rintro e w1 ⟨rfl, hb1⟩
    rw [Hj.out]
    have f0 : w1.cell? ⟨w.heap.size, 0, none⟩ = some (.int .i64 p) := cell_be hb1 (by simp [go_sem])
    have f1 : w1.cell? ⟨w.heap.size, 1, none⟩ = some (.slice a m c) := cell_be hb1 (by simp [go_sem])
    have f2 : w1.cell? ⟨w.heap.size, 2, none⟩ = some (.slice b m d) := cell_be hb1 (by simp [go_sem])
    have r0 : w1.cell? ⟨w.heap.size + 1, 0, none⟩ = some (.int .i64 0) := cell_be hb1 (by simp [go_sem])
    have r1 : w1.cell? ⟨w.heap.size + 1, 1, none⟩ = some (.slice none 0 0) := cell_be hb1 (by simp [go_sem])
    have r2 : w1.cell? ⟨w.heap.size + 1, 2, none⟩ = some (.slice none 0 0) := cell_be hb1 (by simp [go_sem])
    have y0 : w1.frozen? ⟨w.heap.size + 1, 0, none⟩ = false := (hb1.frozen (by simp)).trans (by simp [go_sem])
    have y1 : w1.frozen? ⟨w.heap.size + 1, 1, none⟩ = false := (hb1.frozen (by simp)).trans (by simp [go_sem])
    have y2 : w1.frozen? ⟨w.heap.size + 1, 2, none⟩ = false := (hb1.frozen (by simp)).trans (by simp [go_sem])
    have hB1 := bnext hb0 hb1
    go_wp2_with fail
    refine (trimV _ _ _ xs t _ (g1.below hb1) hn HT.out).mono ?_
    rintro e w2 ⟨rfl, hb2⟩
    replace y0 := (hb2.frozen (World.block_lt_of_cell? _ _ r0)).trans y0
    replace y1 := (hb2.frozen (World.block_lt_of_cell? _ _ r1)).trans y1
    replace y2 := (hb2.frozen (World.block_lt_of_cell? _ _ r2)).trans y2
    replace f0 := cell_be hb2 f0
    replace f1 := cell_be hb2 f1
    replace f2 := cell_be hb2 f2
    replace r0 := cell_be hb2 r0
    replace r1 := cell_be hb2 r1
    replace r2 := cell_be hb2 r2
    have hB2 := bnext hB1 hb2
    go_wp2
    refine bodyPost_ret (v := .tuple #[jac 0 none 0 0 none 0 0, .int .i64 5]) (by simp [results, Try.results36, go_sem, r0, r1, r2]) rfl ?_
    exact ResJ.nil HE.out.1 HE.out.2.1 HE.out.2.2 HC.out (((hB2.setCell (by simp) _).setCell (by simp) _).setCell (by simp) _)
  have h0 : t = 0 := by omega
  have HC := hide (show hvjC p xs ys = 0 by rw [HCC.out, if_pos ⟨by omega, by omega⟩])
  have HV := hide (show hvjV p xs ys = tab (m / 2) (jsA p ys) by rw [hvjV, if_pos HC.out, hl.out])
  have HU := hide (show hvjU p xs ys = tab (m / 2) (jsB p ys) by rw [hvjU, if_pos HC.out, hl.out])
  have HQ := hide (show hvjP p xs ys = p by rw [hvjP, if_pos HC.out])
  obtain ⟨e, he⟩ : ∃ e, e = m - m % 2 := ⟨_, rfl⟩
  have HJ := hide (jos_half hpr hy m e hl2.out (by omega) n2 he)
  obtain ⟨q, hq⟩ : ∃ q, m % 2 = q := ⟨_, rfl⟩
  have vm : (m : Int).tmod 2 = (q : Int) := by rw [Int.tmod_eq_emod_of_nonneg (by omega)]; omega
  have vq : IntKind.i64.wrap (q : Int) = (q : Int) := IntWalk.i64_in _ (by omega)
  have ve : IntKind.i64.wrap ((m : Int) - (q : Int)) = (e : Int) := by rw [IntWalk.i64_in _ (by omega)]; omega
  have hem : e ≤ m := by omega
  have he2 : 2 ≤ e := by omega
  clear hq
  have HT0 := hide (show trimN xs m = 0 by omega)
  have hdd := ht.le
  obtain ⟨bb, bo, rfl, hbw, _⟩ := ht.at (show 0 < m by omega)
  clear hj hx hy hpr h1 htt ht0 he h0
  go_enter Try.func36, Try.ntmps36
  go_wp2_with fail
  refine (implIsJacobi _ _ _ _ _ _ _ _ _ _ g1 g2 hn hm).mono ?_
  rintro e' w1 ⟨rfl, hb1⟩
  rw [Hj.out]
  have f0 : w1.cell? ⟨w.heap.size, 0, none⟩ = some (.int .i64 p) := cell_be hb1 (by simp [go_sem])
  have f1 : w1.cell? ⟨w.heap.size, 1, none⟩ = some (.slice a m c) := cell_be hb1 (by simp [go_sem])
  have f2 : w1.cell? ⟨w.heap.size, 2, none⟩ = some (.slice (some ⟨bb, bo, none⟩) m d) := cell_be hb1 (by simp [go_sem])
  have r0 : w1.cell? ⟨w.heap.size + 1, 0, none⟩ = some (.int .i64 0) := cell_be hb1 (by simp [go_sem])
  have r1 : w1.cell? ⟨w.heap.size + 1, 1, none⟩ = some (.slice none 0 0) := cell_be hb1 (by simp [go_sem])
  have r2 : w1.cell? ⟨w.heap.size + 1, 2, none⟩ = some (.slice none 0 0) := cell_be hb1 (by simp [go_sem])
  have y0 : w1.frozen? ⟨w.heap.size + 1, 0, none⟩ = false := (hb1.frozen (by simp)).trans (by simp [go_sem])
  have y1 : w1.frozen? ⟨w.heap.size + 1, 1, none⟩ = false := (hb1.frozen (by simp)).trans (by simp [go_sem])
  have y2 : w1.frozen? ⟨w.heap.size + 1, 2, none⟩ = false := (hb1.frozen (by simp)).trans (by simp [go_sem])
  have hB1 := bnext hb0 hb1
  go_wp2_with fail
  refine (trimV _ _ _ xs 0 _ (g1.below hb1) hn HT0.out).mono ?_
  rintro e' w2 ⟨rfl, hb2⟩
  replace y0 := (hb2.frozen (World.block_lt_of_cell? _ _ r0)).trans y0
  replace y1 := (hb2.frozen (World.block_lt_of_cell? _ _ r1)).trans y1
  replace y2 := (hb2.frozen (World.block_lt_of_cell? _ _ r2)).trans y2
  replace f0 := cell_be hb2 f0
  replace f1 := cell_be hb2 f1
  replace f2 := cell_be hb2 f2
  replace r0 := cell_be hb2 r0
  replace r1 := cell_be hb2 r1
  replace r2 := cell_be hb2 r2
  have hB2 := bnext hB1 hb2
  have z1 := hb1.size
  have z2 := hb2.size
  simp at z1
  have s2 := ((g2.below hb1).below hb2).take hem
  have i1 : (e : Int) ≤ (d : Int) := by omega
  have i2 : (0 : Int) ≤ (e : Int) := by omega
  have hbd := (Below.refl w2.heap.size w2).drew
  have F : ∀ w', Below w2.heap.size w2 w' → w'.cell? ⟨w.heap.size, 0, none⟩ = some (.int .i64 p) ∧ w'.cell? ⟨w.heap.size, 2, none⟩ = some (.slice (some ⟨bb, bo, none⟩) m d) := fun w' hb => ⟨cell_be hb f0, cell_be hb f2⟩
  go_upto_region 6 with fail
  go_region_held3 (fun w' => w'.cell? ⟨w.heap.size, 0, none⟩ = some (.int .i64 p) ∧ w'.cell? ⟨w.heap.size, 2, none⟩ = some (.slice (some ⟨bb, bo, none⟩) m d))
    (first | exact F _ (by assumption) | exact ⟨cell_set2 (cell_set2 (cell_set2 x0 (by simp <;> omega) _) (by simp <;> omega) _) (by simp <;> omega) _, cell_set2 (cell_set2 (cell_set2 x2 (by simp <;> omega) _) (by simp <;> omega) _) (by simp <;> omega) _⟩)
    (first
    | (go_at_call 78; refine (implJacobiOfSteps p _ _ _ (ys.take e) _ (s2.below hbd) (by omega)).mono ?_; rintro e' w3 ⟨a3, c3, b3, d3, rfl, o3, l3, t3⟩; have m3 := bnext hbd t3; obtain ⟨x0, x2⟩ := F _ m3; have r0' := cell_be m3 r0; have r1' := cell_be m3 r1; have r2' := cell_be m3 r2; have y0' := (m3.frozen (World.block_lt_of_cell? _ _ r0)).trans y0; have y1' := (m3.frozen (World.block_lt_of_cell? _ _ r1)).trans y1; have y2' := (m3.frozen (World.block_lt_of_cell? _ _ r2)).trans y2))
  all_goals go_wp2
  refine bodyPost_ret (v := .tuple #[jac (josP p (ys.take e)) a3 (josV p (ys.take e)).length c3 b3 (josU p (ys.take e)).length d3, .int .i64 (josC p (ys.take e))]) (by simp [results, Try.results36, go_sem, r0', r1', r2']) rfl ?_
  obtain ⟨j1, j2, j3, j4⟩ := HJ.out
  rw [j2, j3] at o3 l3
  rw [j1, j2, j3, j4]
  rw [HV.out, HU.out, HQ.out, HC.out]
  refine ⟨a3, c3, b3, d3, rfl, ?_, l3, (((hB2.trans (m3.mono (by omega))).setCell (by simp) _).setCell (by simp) _).setCell (by simp) _⟩
  simpa using (((o3.setLow (x := ⟨w.heap.size + 1, 0, none⟩) (by simp; omega) _).setLow (x := ⟨w.heap.size + 1, 1, none⟩) (by simp; omega) _).setLow (x := ⟨w.heap.size + 1, 2, none⟩) (by simp; omega) _).mono (lo' := w.heap.size) (by simp; omega) (Nat.le_refl _)
end Go.Proofs.Ytllcgoachgfpjaa
/- Contract: HalveJacobi (model). -/
namespace Go.Proofs.Ytllcgoachgfpjaa
open Go.RowKit
set_option linter.unusedVariables false
set_option linter.unusedSimpArgs false

set_option maxRecDepth 100000 in
set_option maxHeartbeats 6400000 in
theorem specHalveJacobi (p : Int) (a : Option Addr) (n c : Nat) (xs : List Int) (b : Option Addr) (m d : Nat) (ys : List Int) (w : World) (hs : SL w a n c xs) (ht : SL w b m d ys) (hn : n ≤ 4000000) (hm : m ≤ 4000000) :
    Calls Try.prog 35 #[jac p a n c b m d] w (ResJ w (hvjP p xs ys) (hvjV p xs ys) (hvjU p xs ys) (hvjC p xs ys)) := by
  have hl := hide hs.len
  have hl2 := hide ht.len
  have hb0 := bl2 w (.cells #[.int .i64 p, .slice a n c, .slice b m d] 38) (.cells #[.int .i64 0, .slice none 0 0, .slice none 0 0] 38)
  have g1 := hs.below hb0
  have g2 := ht.below hb0
  cases hj : jacB p xs ys
  · have HC := hide (show hvjC p xs ys = 1 by simp [hvjC, hj])
    have HE := hide (hvj_err HC.out (by decide))
    have Hj := hide hj
    clear hj
    go_enter Try.func35, Try.ntmps35
    go_wp2_with fail
    refine (l03Is_any _ _ _ _ _ _ _ _ _ _ g1 g2 hn hm).mono ?_
    rintro e w2 ⟨rfl, hb1⟩
    rw [Hj.out]
    have f0 : w2.cell? ⟨w.heap.size, 0, none⟩ = some (.int .i64 p) := cell_be hb1 (by simp [go_sem])
    have f1 : w2.cell? ⟨w.heap.size, 1, none⟩ = some (.slice a n c) := cell_be hb1 (by simp [go_sem])
    have f2 : w2.cell? ⟨w.heap.size, 2, none⟩ = some (.slice b m d) := cell_be hb1 (by simp [go_sem])
    have r0 : w2.cell? ⟨w.heap.size + 1, 0, none⟩ = some (.int .i64 0) := cell_be hb1 (by simp [go_sem])
    have r1 : w2.cell? ⟨w.heap.size + 1, 1, none⟩ = some (.slice none 0 0) := cell_be hb1 (by simp [go_sem])
    have r2 : w2.cell? ⟨w.heap.size + 1, 2, none⟩ = some (.slice none 0 0) := cell_be hb1 (by simp [go_sem])
    have y0 : w2.frozen? ⟨w.heap.size + 1, 0, none⟩ = false := (hb1.frozen (by simp)).trans (by simp [go_sem])
    have y1 : w2.frozen? ⟨w.heap.size + 1, 1, none⟩ = false := (hb1.frozen (by simp)).trans (by simp [go_sem])
    have y2 : w2.frozen? ⟨w.heap.size + 1, 2, none⟩ = false := (hb1.frozen (by simp)).trans (by simp [go_sem])
    have hB2 := bnext hb0 hb1
    go_wp2
    refine bodyPost_ret (v := .tuple #[jac 0 none 0 0 none 0 0, .int .i64 1]) (by simp [results, Try.results35, go_sem, r0, r1, r2]) rfl ?_
    exact ResJ.nil HE.out.1 HE.out.2.1 HE.out.2.2 HC.out (((hB2.setCell (by simp) _).setCell (by simp) _).setCell (by simp) _)
  have Hj := hide hj
  obtain ⟨hpr, n1, n2, n3, hx, hy⟩ := jacB_rng hj
  obtain ⟨hp, hp2⟩ := primeB_lo hpr
  rw [hl.out] at n1 n2 n3
  rw [hl2.out] at n3
  subst n3
  have HX := hide (posB_are hy)
  obtain ⟨aa, ao, rfl, haw, hca⟩ := hs.at (show 0 < m by omega)
  obtain ⟨b, off, rfl, hbw, hcb⟩ := ht.at (show 0 < m by omega)
  have HCC := hide (show hvjC p xs ys = if 2 ≤ m ∧ trimN xs m = 0 then 0 else 5 by simp only [hvjC, hj, if_true, hl.out])
  clear hj hx hy hpr
  go_enter Try.func35, Try.ntmps35
  go_wp2_with fail
  refine (l03Is_any _ _ _ _ _ _ _ _ _ _ g1 g2 hn hm).mono ?_
  rintro e w1 ⟨rfl, hb1⟩
  rw [Hj.out]
  have f0 : w1.cell? ⟨w.heap.size, 0, none⟩ = some (.int .i64 p) := cell_be hb1 (by simp [go_sem])
  have f1 : w1.cell? ⟨w.heap.size, 1, none⟩ = some (.slice (some ⟨aa, ao, none⟩) m c) := cell_be hb1 (by simp [go_sem])
  have f2 : w1.cell? ⟨w.heap.size, 2, none⟩ = some (.slice (some ⟨b, off, none⟩) m d) := cell_be hb1 (by simp [go_sem])
  have r0 : w1.cell? ⟨w.heap.size + 1, 0, none⟩ = some (.int .i64 0) := cell_be hb1 (by simp [go_sem])
  have r1 : w1.cell? ⟨w.heap.size + 1, 1, none⟩ = some (.slice none 0 0) := cell_be hb1 (by simp [go_sem])
  have r2 : w1.cell? ⟨w.heap.size + 1, 2, none⟩ = some (.slice none 0 0) := cell_be hb1 (by simp [go_sem])
  have y0 : w1.frozen? ⟨w.heap.size + 1, 0, none⟩ = false := (hb1.frozen (by simp)).trans (by simp [go_sem])
  have y1 : w1.frozen? ⟨w.heap.size + 1, 1, none⟩ = false := (hb1.frozen (by simp)).trans (by simp [go_sem])
  have y2 : w1.frozen? ⟨w.heap.size + 1, 2, none⟩ = false := (hb1.frozen (by simp)).trans (by simp [go_sem])
  have hB1 := bnext hb0 hb1
  have z1 := hb1.size
  simp at z1
  go_upto_region 3 with fail
  go_quiet (fail)
  obtain ⟨w2, hw2⟩ : ∃ w2, w2 = w1.drewN nq := ⟨_, rfl⟩
  rw [← hw2]
  have t2 : Below w1.heap.size w1 w2 := by rw [hw2]; exact below_drewN (Below.refl _ _) _
  clear hw2
  have hB2 := bnext hB1 t2
  have z2 : w.heap.size + 1 + 1 ≤ w2.heap.size := Nat.le_trans z1 t2.size
  replace y0 := (t2.frozen (World.block_lt_of_cell? _ _ r0)).trans y0
  replace y1 := (t2.frozen (World.block_lt_of_cell? _ _ r1)).trans y1
  replace y2 := (t2.frozen (World.block_lt_of_cell? _ _ r2)).trans y2
  replace f0 := cell_be t2 f0
  replace f1 := cell_be t2 f1
  replace f2 := cell_be t2 f2
  replace r0 := cell_be t2 r0
  replace r1 := cell_be t2 r1
  replace r2 := cell_be t2 r2
  have Hcell := hide (fun j (hj : j < m) => cell_be hB2 (hca j hj))
  clear hca
  go_wp2
  go_loop [6] (fun kv => ∃ k : Nat, k ≤ m ∧ kv = .int .i64 k ∧ Hid (∀ j, j < k → xs.getD j 0 = 0)) (fun kv => m - (intOf kv).toNat)
  case atStart => exact ⟨0, by omega, rfl, hide (fun j hj => by omega)⟩
  case round =>
    obtain ⟨k, hk, rfl, hR⟩ := hrel
    by_cases hlt : k < m
    · have e1 := Hcell.out k hlt
      have hlt' : (k : Int) < (m : Int) := by omega
      have hk0 : (0 : Int) ≤ (k : Int) := by omega
      obtain ⟨x, hx⟩ : ∃ x, xs.getD k 0 = x := ⟨_, rfl⟩
      rw [hx] at e1
      have Hx := hide hx
      clear hx
      by_cases h0 : x = 0
      · go_wp2
        go_round
        case rel => exact ⟨k + 1, by omega, by go_num, hide (fun j hj => by
          by_cases e : j = k
          · subst e; rw [Hx.out]; exact h0
          · exact hR.out j (by omega))⟩
        case measure => simp [intOf]; omega
      · have HC := hide (show hvjC p xs ys = 5 by
          rw [HCC.out, if_neg]
          intro h
          exact h0 (by rw [← Hx.out]; exact (trimN_nil xs m).1 h.2 k hlt))
        have HE := hide (hvj_err HC.out (by decide))
        clear Hcell hcb
        go_wp2
        refine bodyPost_ret (v := .tuple #[jac 0 none 0 0 none 0 0, .int .i64 5]) (by simp [results, Try.results35, go_sem, r0, r1, r2]) rfl ?_
        exact ResJ.nil HE.out.1 HE.out.2.1 HE.out.2.2 HC.out (((hB2.setCell (by simp) _).setCell (by simp) _).setCell (by simp) _)
    have hkm : Hid (k = m) := hide (by omega)
    have hge : ¬ (k : Int) < (m : Int) := by omega
    have HT := hide (show trimN xs m = 0 from (trimN_nil xs m).2 (fun j hj => hR.out j (by have := hkm.out; omega)))
    by_cases h2 : m < 2
    · have HC := hide (show hvjC p xs ys = 5 by rw [HCC.out, if_neg (by omega)])
      have HE := hide (hvj_err HC.out (by decide))
      have h2' : (m : Int) < 2 := by omega
      clear Hcell hcb
      go_wp2
      refine bodyPost_ret (v := .tuple #[jac 0 none 0 0 none 0 0, .int .i64 5]) (by simp [results, Try.results35, go_sem, r0, r1, r2]) rfl ?_
      exact ResJ.nil HE.out.1 HE.out.2.1 HE.out.2.2 HC.out (((hB2.setCell (by simp) _).setCell (by simp) _).setCell (by simp) _)
    have HC := hide (show hvjC p xs ys = 0 by rw [HCC.out, if_pos ⟨by omega, HT.out⟩])
    obtain ⟨r, hr⟩ : ∃ r, r = m / 2 := ⟨_, rfl⟩
    have HV := hide (show hvjV p xs ys = tab r (jsA p ys) by rw [hvjV, if_pos HC.out, hl.out, hr])
    have HU := hide (show hvjU p xs ys = tab r (jsB p ys) by rw [hvjU, if_pos HC.out, hl.out, hr])
    have HQ := hide (show hvjP p xs ys = p by rw [hvjP, if_pos HC.out])
    have vq : (m : Int).tdiv 2 = (r : Int) := by rw [Int.tdiv_eq_ediv_of_nonneg (by omega)]; omega
    have hz0 : IntKind.i64.wrap (r : Int) = (r : Int) := IntWalk.i64_in _ (by omega)
    have Hnr := hide (show 2 * r ≤ m ∧ m ≤ 2 * r + 1 by omega)
    have hr1 : 1 ≤ r := by omega
    have hr6 : r ≤ 6 := by omega
    have h2' : ¬ (m : Int) < 2 := by omega
    clear hr hlt Hcell hR HT
    have Hc := hide (fun j (hj : j < m) => cell_be hB2 (hcb j hj))
    have e0 := Hc.out 0 (by omega)
    have e1 := Hc.out 1 (by omega)
    rw [Nat.add_zero] at e0
    obtain ⟨X0, hX0⟩ : ∃ X0, ys.getD 0 0 = X0 := ⟨_, rfl⟩
    obtain ⟨X1, hX1⟩ : ∃ X1, ys.getD 1 0 = X1 := ⟨_, rfl⟩
    rw [hX0] at e0
    rw [hX1] at e1
    have hA1 : Hid (tab 1 (jsA p ys) = [X1]) := hide (by simp [tab, jsA]; rw [← hX1]; simp)
    have hB1 : Hid (tab 1 (jsB p ys) = [X0]) := hide (by simp [tab, jsB]; rw [← hX0]; simp)
    have q3 : (1 : Int) < (m : Int) := by omega
    have q4 : (0 : Int) < (m : Int) := by omega
    have q5 : 1 < m := by omega
    have q6 : 0 < m := by omega
    have hF2 : ∀ w', Below w2.heap.size w2 w' → Below w2.heap.size w2 w' ∧ w'.cell? ⟨b, off, none⟩ = some (.int .i64 X0) ∧ w'.cell? ⟨b, off + 1, none⟩ = some (.int .i64 X1) ∧ w'.cell? ⟨w.heap.size, 2, none⟩ = some (.slice (some ⟨b, off, none⟩) m d) := fun w' h => ⟨h, cell_be h e0, cell_be h e1, cell_be h f2⟩
    clear hX0 hX1 hcb hb1 t2
    go_upto_region 11 with fail
    go_cut [7] (fun sq wx => ∃ (q ga gb : Nat), sq = .pointer (some ⟨q, 0, none⟩) ∧ Hid (wx.cell? ⟨q, 0, none⟩ = some (.int .i64 p) ∧ wx.cell? ⟨q, 1, none⟩ = some (.slice (some ⟨ga, 0, none⟩) 1 1) ∧ wx.cell? ⟨q, 2, none⟩ = some (.slice (some ⟨gb, 0, none⟩) 1 1)) ∧ Hid (wx.frozen? ⟨q, 1, none⟩ = false ∧ wx.frozen? ⟨q, 2, none⟩ = false) ∧
        Hid (ga ≠ gb ∧ ga ≠ q ∧ gb ≠ q) ∧ Hid (w2.heap.size ≤ q ∧ q < wx.heap.size) ∧ Hid (Own w2.heap.size wx (some ⟨ga, 0, none⟩) 1 [X1]) ∧ Hid (Own w2.heap.size wx (some ⟨gb, 0, none⟩) 1 [X0]) ∧ Hid (Below w2.heap.size w2 wx))
    case first =>
      go_region_held3 (fun w' => Below w2.heap.size w2 w' ∧ w'.cell? ⟨b, off, none⟩ = some (.int .i64 X0) ∧ w'.cell? ⟨b, off + 1, none⟩ = some (.int .i64 X1) ∧ w'.cell? ⟨w.heap.size, 2, none⟩ = some (.slice (some ⟨b, off, none⟩) m d))
        (first | exact hF2 _ (((bl1 _ _)).drew) | exact hF2 _ (((bl2 _ _ _)).drew) | exact hF2 _ (((bl3 _ _ _ _)).drew) | exact hF2 _ ((Below.refl _ _).drew) | exact hF2 _ (Below.drew (Below.setCell (Below.setCell (Below.setCell (bl3 _ _ _ _) (by first | omega | (simp; done) | (simp; omega)) _) (by first | omega | (simp; done) | (simp; omega)) _) (by first | omega | (simp; done) | (simp; omega)) _)))
        (fail)
      all_goals go_wp2_with fail
      all_goals go_meet
      all_goals first
        | exact ⟨w2.heap.size + 1 + 1, w2.heap.size, w2.heap.size + 1, rfl, hide ⟨by simp [go_sem], by simp [go_sem], by simp [go_sem]⟩, hide ⟨by simp [go_sem], by simp [go_sem]⟩, hide ⟨by omega, by omega, by omega⟩, hide ⟨by omega, (by first | (simp; done) | (simp; omega))⟩, hide (((own_lit1' _ _ _ (by first | rfl | simp) _ (by omega)).below (bl2 _ _ _)).below ((Below.refl _ _).drew)), hide (((own_lit1' _ _ _ (by first | rfl | simp) _ (by omega)).below (bl1 _ _)).below ((Below.refl _ _).drew)), hide ((bl3 _ _ _ _).drew)⟩
        | exact ⟨w2.heap.size + 1, w2.heap.size, w2.heap.size + 1 + 1, rfl, hide ⟨by simp [go_sem], by simp [go_sem], by simp [go_sem]⟩, hide ⟨by simp [go_sem], by simp [go_sem]⟩, hide ⟨by omega, by omega, by omega⟩, hide ⟨by omega, (by first | (simp; done) | (simp; omega))⟩, hide (((own_lit1' _ _ _ (by first | rfl | simp) _ (by omega)).below (bl2 _ _ _)).below ((Below.refl _ _).drew)), hide (((own_lit1' _ _ _ (by first | rfl | simp) _ (by omega))).below ((Below.refl _ _).drew)), hide ((bl3 _ _ _ _).drew)⟩
        | exact ⟨w2.heap.size + 1 + 1, w2.heap.size + 1, w2.heap.size, rfl, hide ⟨by simp [go_sem], by simp [go_sem], by simp [go_sem]⟩, hide ⟨by simp [go_sem], by simp [go_sem]⟩, hide ⟨by omega, by omega, by omega⟩, hide ⟨by omega, (by first | (simp; done) | (simp; omega))⟩, hide (((own_lit1' _ _ _ (by first | rfl | simp) _ (by omega)).below (bl1 _ _)).below ((Below.refl _ _).drew)), hide (((own_lit1' _ _ _ (by first | rfl | simp) _ (by omega)).below (bl2 _ _ _)).below ((Below.refl _ _).drew)), hide ((bl3 _ _ _ _).drew)⟩
        | exact ⟨w2.heap.size, w2.heap.size + 1, w2.heap.size + 1 + 1, rfl, hide ⟨by simp [go_sem], by simp [go_sem], by simp [go_sem]⟩, hide ⟨by simp [go_sem], by simp [go_sem]⟩, hide ⟨by omega, by omega, by omega⟩, hide ⟨by omega, (by first | (simp; done) | (simp; omega))⟩, hide (((own_lit1' _ _ _ (by first | rfl | simp) _ (by omega)).below (bl1 _ _)).below ((Below.refl _ _).drew)), hide (((own_lit1' _ _ _ (by first | rfl | simp) _ (by omega))).below ((Below.refl _ _).drew)), hide ((bl3 _ _ _ _).drew)⟩
        | exact ⟨w2.heap.size + 1, w2.heap.size + 1 + 1, w2.heap.size, rfl, hide ⟨by simp [go_sem], by simp [go_sem], by simp [go_sem]⟩, hide ⟨by simp [go_sem], by simp [go_sem]⟩, hide ⟨by omega, by omega, by omega⟩, hide ⟨by omega, (by first | (simp; done) | (simp; omega))⟩, hide (((own_lit1' _ _ _ (by first | rfl | simp) _ (by omega))).below ((Below.refl _ _).drew)), hide (((own_lit1' _ _ _ (by first | rfl | simp) _ (by omega)).below (bl2 _ _ _)).below ((Below.refl _ _).drew)), hide ((bl3 _ _ _ _).drew)⟩
        | exact ⟨w2.heap.size, w2.heap.size + 1 + 1, w2.heap.size + 1, rfl, hide ⟨by simp [go_sem], by simp [go_sem], by simp [go_sem]⟩, hide ⟨by simp [go_sem], by simp [go_sem]⟩, hide ⟨by omega, by omega, by omega⟩, hide ⟨by omega, (by first | (simp; done) | (simp; omega))⟩, hide (((own_lit1' _ _ _ (by first | rfl | simp) _ (by omega))).below ((Below.refl _ _).drew)), hide (((own_lit1' _ _ _ (by first | rfl | simp) _ (by omega)).below (bl1 _ _)).below ((Below.refl _ _).drew)), hide ((bl3 _ _ _ _).drew)⟩
    case rest =>
      obtain ⟨q, ga, gb, rfl, hq, hf, hd, hge, oA, oB, hW⟩ := hcut
      obtain ⟨w5, hu⟩ : ∃ u, u = wc := ⟨wc, rfl⟩
      subst hu
      clear hF2
      obtain ⟨d1, d2, d3⟩ := hd.out
      obtain ⟨e1', e2'⟩ := hge.out
      have hn0 : Hid (blk (some ⟨ga, 0, none⟩) ≠ some q ∧ blk (some ⟨gb, 0, none⟩) ≠ some q ∧ (∀ g, blk (some ⟨ga, 0, none⟩) = some g → blk (some ⟨gb, 0, none⟩) ≠ some g)) := hide ⟨by simp [blk]; omega, by simp [blk]; omega, fun g h1 h2 => by simp [blk] at h1 h2; omega⟩
      have oA0 : Hid (Own w2.heap.size w5 (some ⟨ga, 0, none⟩) 1 (tab 1 (jsA p ys))) := hide (by rw [hA1.out]; exact oA.out)
      have oB0 : Hid (Own w2.heap.size w5 (some ⟨gb, 0, none⟩) 1 (tab 1 (jsB p ys))) := hide (by rw [hB1.out]; exact oB.out)
      clear oA oB hd hge e0 e1 d1 d2 d3
      go_wp2_with fail
      go_loopw [8] (fun kv wr => ∃ (i c' d' : Nat) (a' b' : Option Addr), 1 ≤ i ∧ i ≤ r ∧ kv = .int .i64 i ∧ Hid (Own w2.heap.size wr a' c' (tab i (jsA p ys))) ∧ Hid (Own w2.heap.size wr b' d' (tab i (jsB p ys))) ∧
        Hid (blk a' ≠ some q ∧ blk b' ≠ some q ∧ (∀ g, blk a' = some g → blk b' ≠ some g)) ∧ Hid (wr.cell? ⟨q, 0, none⟩ = some (.int .i64 p) ∧ wr.cell? ⟨q, 1, none⟩ = some (.slice a' i c') ∧ wr.cell? ⟨q, 2, none⟩ = some (.slice b' i d')) ∧ Hid (wr.frozen? ⟨q, 1, none⟩ = false ∧ wr.frozen? ⟨q, 2, none⟩ = false) ∧ q < wr.heap.size ∧ Hid (Below w2.heap.size w2 wr)) (fun kv _ => r - (intOf kv).toNat)
      case atStart => exact ⟨1, 1, 1, _, _, by omega, by omega, rfl, oA0, oB0, hn0, hq, hf, e2', hW⟩
      case round =>
        obtain ⟨i, c', d', a', b', hi1, hi2, rfl, oA, oB, hn', hq', hf', hqs, hW'⟩ := hrel
        clear oA0 oB0 hn0 hq hf hW
        obtain ⟨q0, q1, q2⟩ := hq'.out
        obtain ⟨y1q, y2q⟩ := hf'.out
        obtain ⟨n1', n2', n3'⟩ := hn'.out
        have zr := hW'.out.size
        have fr := cell_be hW'.out f2
        by_cases hlt : i < r
        · have k1 : wr.cell? ⟨b, off + 2 * i, none⟩ = some (.int .i64 (ys.getD (2 * i) 0)) := cell_be hW'.out (Hc.out (2 * i) (by have := Hnr.out; omega))
          have k2 : wr.cell? ⟨b, off + (2 * i + 1), none⟩ = some (.int .i64 (ys.getD (2 * i + 1) 0)) := cell_be hW'.out (Hc.out (2 * i + 1) (by have := Hnr.out; omega))
          have g1 := getD_rng HX.out hp (2 * i)
          have g2 := getD_rng HX.out hp (2 * i + 1)
          have g3 := getD_rng HX.out hp (2 * i - 1)
          have hstA : Hid (tab (i + 1) (jsA p ys) = tab i (jsA p ys) ++ [(ys.getD (2 * i) 0 + ys.getD (2 * i + 1) 0) % p]) := hide (by rw [← tab_snoc]; unfold jsA; rw [if_neg (by omega)])
          have hstB : Hid (tab (i + 1) (jsB p ys) = tab i (jsB p ys) ++ [ys.getD (2 * i - 1) 0 * ys.getD (2 * i) 0 % p]) := hide (by rw [← tab_snoc]; unfold jsB; rw [if_neg (by omega)])
          obtain ⟨X, hX⟩ : ∃ X, ys.getD (2 * i) 0 = X := ⟨_, rfl⟩
          obtain ⟨Y, hY⟩ : ∃ Y, ys.getD (2 * i + 1) 0 = Y := ⟨_, rfl⟩
          obtain ⟨V, hV⟩ : ∃ V, ys.getD (2 * i - 1) 0 = V := ⟨_, rfl⟩
          rw [hX] at k1 g1 hstA hstB
          rw [hY] at k2 g2 hstA
          rw [hV] at g3 hstB
          have HXd := hide hX
          have HVd := hide hV
          obtain ⟨m1, m2⟩ := mulb g3.1 g3.2 g1.1 g1.2 hp2
          have v0 : IntKind.i64.wrap (2 * (i : Int)) = 2 * (i : Int) := IntWalk.i64_in _ (by omega)
          have v1 : IntKind.i64.wrap (2 * (i : Int) + 1) = 2 * (i : Int) + 1 := IntWalk.i64_in _ (by omega)
          have v2 : (2 * (i : Int)).toNat = 2 * i := by omega
          have v3 : (2 * (i : Int) + 1).toNat = 2 * i + 1 := by omega
          have v4 : IntKind.i64.wrap (X + Y) = X + Y := IntWalk.i64_in _ (by omega)
          have v5 : (X + Y).tmod p = (X + Y) % p := Int.tmod_eq_emod_of_nonneg (by omega)
          have v7 := modb (x := X + Y) hp
          obtain ⟨Z, hZ⟩ : ∃ Z, (X + Y) % p = Z := ⟨_, rfl⟩
          rw [hZ] at v5 v7 hstA
          have v6 : IntKind.i64.wrap Z = Z := IntWalk.i64_in _ (by omega)
          have hp0 : ¬ p = 0 := by omega
          obtain ⟨zs, hzs⟩ : ∃ zs, tab i (jsA p ys) = zs := ⟨_, rfl⟩
          have hzl := hide (show zs.length = i by rw [← hzs, tab_len])
          rw [hzs] at oA hstA
          have l1 : 2 * (i : Int) < (m : Int) := by have := Hnr.out; omega
          have l2 : 2 * (i : Int) + 1 < (m : Int) := by have := Hnr.out; omega
          have l3 : (0 : Int) ≤ 2 * (i : Int) := by omega
          have l4 : (0 : Int) ≤ 2 * (i : Int) + 1 := by omega
          have l5 : 2 * (i : Int) - 1 < (m : Int) := by omega
          have l6 : (0 : Int) ≤ 2 * (i : Int) - 1 := by omega
          have l7 : (1 : Int) ≤ 2 * (i : Int) := by omega
          have hir : (i : Int) < (r : Int) := by omega
          clear hX hY hV hzs hZ
          have hbd := (Below.refl wr.heap.size wr).drew
          have hba : Below wr.heap.size wr ((wr.alloc (.cells #[.int .i64 Z] 2)).drew) := (bl1 wr _).drew
          have s1a : ((wr.alloc (.cells #[.int .i64 Z] 2)).drew).cell? ⟨q, 1, none⟩ = some (.slice a' i c') := cell_be hba q1
          have sfa : ((wr.alloc (.cells #[.int .i64 Z] 2)).drew).frozen? ⟨q, 1, none⟩ = false := (hba.frozen (World.block_lt_of_cell? _ _ q1)).trans y1q
          have hOa := hide (oA.out.below hba)
          have hOo := hide (oB.out.below hba)
          have hcl : ((wr.alloc (.cells #[.int .i64 Z] 2)).drew).cell? ⟨wr.heap.size, 0, none⟩ = some (.int .i64 Z) := by simp [go_sem]
          go_upto_region 15 with fail
          refine region_E (fun w' => w'.cell? ⟨q, 1, none⟩ = some (.slice a' i c') ∧ w'.cell? ⟨b, off + 2 * i, none⟩ = some (.int .i64 X) ∧ w'.cell? ⟨b, off + (2 * i + 1), none⟩ = some (.int .i64 Y) ∧ w'.cell? ⟨w.heap.size, 2, none⟩ = some (.slice (some ⟨b, off, none⟩) m d)) 21 (by kernel_rfl) ⟨cell_be hbd q1, cell_be hbd k1, cell_be hbd k2, cell_be hbd fr⟩ ?_
          intro hS
          refine anyE_takeL 0 rfl (by kernel_rfl) (fun _ _ _ h => h) hS (by rfl) (v := ?_) ?_ ?_
          rotate_left
          · intro w' hSw; (try dsimp only at hSw); go_simp; (try with_reducible rfl)
          try simp only [Act.put, List.setIfInBounds_toArray, List.set_cons_zero, List.set_cons_succ]
          refine anyE_takeL 1 rfl (by kernel_rfl) (fun _ _ _ h => h) hS (by rfl) (v := ?_) ?_ ?_
          rotate_left
          · intro w' hSw; (try dsimp only at hSw); go_simp; (try with_reducible rfl)
          try simp only [Act.put, List.setIfInBounds_toArray, List.set_cons_zero, List.set_cons_succ]
          refine anyE_takeL 2 rfl (by kernel_rfl) (fun _ _ _ h => h) hS (by rfl) (v := ?_) ?_ ?_
          rotate_left
          · intro w' hSw; (try dsimp only at hSw); go_simp; (try with_reducible rfl)
          try simp only [Act.put, List.setIfInBounds_toArray, List.set_cons_zero, List.set_cons_succ]
          refine anyE_takeL 3 rfl (by kernel_rfl) (fun _ _ _ h => h) hS (by rfl) (v := ?_) ?_ ?_
          rotate_left
          · intro w' hSw; (try dsimp only at hSw); go_simp; (try with_reducible rfl)
          try simp only [Act.put, List.setIfInBounds_toArray, List.set_cons_zero, List.set_cons_succ]
          refine anyE_takeL 4 rfl (by kernel_rfl) (fun _ _ _ h => h) hS (by rfl) (v := ?_) ?_ ?_
          rotate_left
          · intro w' hSw; (try dsimp only at hSw); go_simp; (try with_reducible rfl)
          try simp only [Act.put, List.setIfInBounds_toArray, List.set_cons_zero, List.set_cons_succ]
          refine anyE_takeL 5 rfl (by kernel_rfl) (fun _ _ _ h => h) hS (by rfl) (v := ?_) ?_ ?_
          rotate_left
          · intro w' hSw; (try dsimp only at hSw); go_simp; (try with_reducible rfl)
          try simp only [Act.put, List.setIfInBounds_toArray, List.set_cons_zero, List.set_cons_succ]
          refine anyE_takeL 6 rfl (by kernel_rfl) (fun _ _ _ h => h) hS (by rfl) (v := ?_) ?_ ?_
          rotate_left
          · intro w' hSw; (try dsimp only at hSw); go_simp; (try with_reducible rfl)
          try simp only [Act.put, List.setIfInBounds_toArray, List.set_cons_zero, List.set_cons_succ]
          refine anyE_takeL 7 rfl (by kernel_rfl) (fun _ _ _ h => h) hS (by rfl) (v := ?_) ?_ ?_
          rotate_left
          · intro w' hSw; (try dsimp only at hSw); go_simp; (try with_reducible rfl)
          try simp only [Act.put, List.setIfInBounds_toArray, List.set_cons_zero, List.set_cons_succ]
          refine anyE_takeL 8 rfl (by kernel_rfl) (fun _ _ _ h => h) hS (by rfl) (v := ?_) ?_ ?_
          rotate_left
          · intro w' hSw; (try dsimp only at hSw); go_simp; (try with_reducible rfl)
          try simp only [Act.put, List.setIfInBounds_toArray, List.set_cons_zero, List.set_cons_succ]
          refine anyE_takeL 9 rfl (by kernel_rfl) (fun _ _ _ h => h) hS (by rfl) (v := ?_) ?_ ?_
          rotate_left
          · intro w' hSw; (try dsimp only at hSw); go_simp; (try with_reducible rfl)
          try simp only [Act.put, List.setIfInBounds_toArray, List.set_cons_zero, List.set_cons_succ]
          refine anyE_takeL 10 rfl (by kernel_rfl) (fun _ _ _ h => h) hS (by rfl) (v := ?_) ?_ ?_
          rotate_left
          · intro w' hSw; (try dsimp only at hSw); go_simp; (try with_reducible rfl)
          try simp only [Act.put, List.setIfInBounds_toArray, List.set_cons_zero, List.set_cons_succ]
          refine anyE_takeL 11 rfl (by kernel_rfl) (fun _ _ _ h => h) hS (by rfl) (v := ?_) ?_ ?_
          rotate_left
          · intro w' hSw; (try dsimp only at hSw); go_simp; (try with_reducible rfl)
          try simp only [Act.put, List.setIfInBounds_toArray, List.set_cons_zero, List.set_cons_succ]
          refine anyE_takeL 12 rfl (by kernel_rfl) (fun _ _ _ h => h) hS (by rfl) (v := ?_) ?_ ?_
          rotate_left
          · intro w' hSw; (try dsimp only at hSw); go_simp; (try with_reducible rfl)
          try simp only [Act.put, List.setIfInBounds_toArray, List.set_cons_zero, List.set_cons_succ]
          refine anyE_takeL 13 rfl (by kernel_rfl) (fun _ _ _ h => h) hS (by rfl) (v := ?_) ?_ ?_
          rotate_left
          · intro w' hSw; (try dsimp only at hSw); go_simp; (try with_reducible rfl)
          try simp only [Act.put, List.setIfInBounds_toArray, List.set_cons_zero, List.set_cons_succ]
          refine anyE_takeL 14 rfl (by kernel_rfl) (fun _ _ _ h => h) hS (by rfl) (v := ?_) ?_ ?_
          rotate_left
          · intro w' hSw; (try dsimp only at hSw); go_simp; (try with_reducible rfl)
          try simp only [Act.put, List.setIfInBounds_toArray, List.set_cons_zero, List.set_cons_succ]
          refine anyE_takeL 15 rfl (by kernel_rfl) (fun _ _ _ h => h) hS (by rfl) (v := ?_) ?_ ?_
          rotate_left
          · intro w' hSw; (try dsimp only at hSw); go_simp; (try with_reducible rfl)
          try simp only [Act.put, List.setIfInBounds_toArray, List.set_cons_zero, List.set_cons_succ]
          refine anyE_takeL 16 rfl (by kernel_rfl) (fun _ _ _ h => h) hS (by rfl) (v := ?_) ?_ ?_
          rotate_left
          · intro w' hSw; (try dsimp only at hSw); go_simp; (try with_reducible rfl)
          try simp only [Act.put, List.setIfInBounds_toArray, List.set_cons_zero, List.set_cons_succ]
          refine anyE_takeL 17 rfl (by kernel_rfl) (fun _ _ _ h => h) hS (by rfl) (v := ?_) ?_ ?_
          rotate_left
          · intro w' hSw; (try dsimp only at hSw); go_simp; (try with_reducible rfl)
          try simp only [Act.put, List.setIfInBounds_toArray, List.set_cons_zero, List.set_cons_succ]
          clear hS
          refine anyE_oneL 18 (by kernel_rfl) rfl (fun K' hK' => ?_)
          go_simp
          have S1 := And.intro s1a (And.intro (cell_be hba k1) (And.intro (cell_be hba k2) (cell_be hba fr)))
          refine hK'.out _ _ S1 ?_
          clear hK' K'
          try simp only [Act.put, List.setIfInBounds_toArray, List.set_cons_zero, List.set_cons_succ]
          refine anyE_oneL 19 (by kernel_rfl) rfl (fun K' hK' => ?_)
          refine step_app1 (by rfl) _ _ (by rfl) w2.heap.size _ _ _ zs (by rfl) hzl.out.symm hOa.out _ _ Z (by rfl) hcl (by omega) (by simp; omega) ?_
          intro ad' cap' w' hown' hgr hloc
          have s1' := cell_ne hgr s1a n1'
          have sf' := frz_ne hgr s1a sfa n1'
          have hge := own_blk_ge hOa.out
          have S2 := And.intro s1' (And.intro (cell_ne hgr S1.2.1 (fun e => by have := hge _ e; omega)) (And.intro (cell_ne hgr S1.2.2.1 (fun e => by have := hge _ e; omega)) (cell_ne hgr S1.2.2.2 (fun e => by have := hge _ e; omega))))
          refine hK'.out _ _ S2 ?_
          clear hK' K'
          try simp only [Act.put, List.setIfInBounds_toArray, List.set_cons_zero, List.set_cons_succ]
          refine anyE_takeL 20 rfl (by kernel_rfl) (fun _ _ _ h => h) S2 (by rfl) (v := ?_) ?_ ?_
          rotate_left
          · intro w' hSw; (try dsimp only at hSw); go_simp; (try with_reducible rfl)
          try simp only [Act.put, List.setIfInBounds_toArray, List.set_cons_zero, List.set_cons_succ]
          clear S1 S2 hbd
          refine anyE_lastL (by kernel_rfl) rfl (by kernel_rfl) (fun K' hK' => ?_)
          go_simp
          refine hK'.out _ _ ?_
          clear hK' K'
          try simp only [Act.put, List.setIfInBounds_toArray, List.set_cons_zero, List.set_cons_succ]
          obtain ⟨w6, hw6⟩ : ∃ w6, w6 = w'.setCell ⟨q, 1, none⟩ (.slice ad' (zs.length + 1) cap') := ⟨_, rfl⟩
          rw [← hw6]
          have hnew : Hid (blk ad' ≠ some q) := hide (by
            rcases hloc with h | h <;> rw [h]
            · exact n1'
            · simp; omega)
          have oA6 : Hid (Own w2.heap.size w6 ad' cap' (tab (i + 1) (jsA p ys))) := hide (by rw [hw6, hstA.out]; exact hown'.otherG hnew.out _)
          have oB6 : Hid (Own w2.heap.size w6 b' d' (tab i (jsB p ys))) := hide (by rw [hw6]; exact (Own.keep hOo.out hgr (fun g h1 h2 => n3' g h2 h1)).otherG n2' _)
          have n3 : Hid (∀ g, blk ad' = some g → blk b' ≠ some g) := hide (fun g h1 h2 => by
            rcases hloc with h | h
            · rw [h] at h1; exact n3' g h1 h2
            · rw [h] at h1
              have := own_blk_lt oB.out g h2
              simp at h1
              omega)
          have p0 : w6.cell? ⟨q, 0, none⟩ = some (.int .i64 p) := by rw [hw6]; exact cell_set2' (cell_ne hgr (cell_be hba q0) n1') (by simp) _
          have p1 : w6.cell? ⟨q, 1, none⟩ = some (.slice ad' (i + 1) cap') := by rw [hw6, show i + 1 = zs.length + 1 by rw [hzl.out]]; exact World.cell?_setCell_same _ _ _ s1'
          have p2 : w6.cell? ⟨q, 2, none⟩ = some (.slice b' i d') := by rw [hw6]; exact cell_set2' (cell_ne hgr (cell_be hba q2) n1') (by simp) _
          have yy1 : w6.frozen? ⟨q, 1, none⟩ = false := by rw [hw6]; simpa using sf'
          have yy2 : w6.frozen? ⟨q, 2, none⟩ = false := by rw [hw6]; simpa using frz_ne hgr (cell_be hba q2) ((hba.frozen (World.block_lt_of_cell? _ _ q2)).trans y2q) n1'
          have hW6 : Hid (Below w2.heap.size w2 w6) := hide (by rw [hw6]; exact ((hW'.out.trans (hba.mono (by omega))).grown hgr (by simp; omega) (own_blk_ge hOa.out)).setCell (by simp; omega) _)
          have zq : q < w6.heap.size := by rw [hw6]; have := hgr.size; simp at this ⊢; omega
          have j1 : w6.cell? ⟨b, off + 2 * i, none⟩ = some (.int .i64 X) := by rw [← HXd.out]; exact cell_be hW6.out (Hc.out (2 * i) (by have := Hnr.out; omega))
          have j3 : w6.cell? ⟨b, off + (2 * i - 1), none⟩ = some (.int .i64 V) := by rw [← HVd.out]; exact cell_be hW6.out (Hc.out (2 * i - 1) (by have := Hnr.out; omega))
          have z66 := hW6.out.size
          replace fr := cell_be hW6.out f2
          clear hw6 hgr hown' hloc hOa hOo hba hcl s1a sfa s1' sf' oA oB q0 q1 q2 y1q y2q n1' n3' hq' hf' hn' k1 k2 hge v1 v3 v4 v5 v6 v7
          have w1' : IntKind.i64.wrap (2 * (i : Int) - 1) = 2 * (i : Int) - 1 := IntWalk.i64_in _ (by omega)
          have w2' : (2 * (i : Int) - 1).toNat = 2 * i - 1 := by omega
          have w4' : IntKind.i64.wrap (V * X) = V * X := IntWalk.i64_in _ (by omega)
          have w5' : (V * X).tmod p = V * X % p := Int.tmod_eq_emod_of_nonneg (by omega)
          have w7' := modb (x := V * X) hp
          obtain ⟨Z2, hZ2⟩ : ∃ Z2, V * X % p = Z2 := ⟨_, rfl⟩
          rw [hZ2] at w5' w7' hstB
          have w6' : IntKind.i64.wrap Z2 = Z2 := IntWalk.i64_in _ (by omega)
          obtain ⟨us, hus⟩ : ∃ us, tab i (jsB p ys) = us := ⟨_, rfl⟩
          have hul := hide (show us.length = i by rw [← hus, tab_len])
          rw [hus] at oB6 hstB
          clear hus hZ2
          have hbd := (Below.refl w6.heap.size w6).drew
          have hba : Below w6.heap.size w6 ((w6.alloc (.cells #[.int .i64 Z2] 2)).drew) := (bl1 w6 _).drew
          have s1a : ((w6.alloc (.cells #[.int .i64 Z2] 2)).drew).cell? ⟨q, 2, none⟩ = some (.slice b' i d') := cell_be hba p2
          have sfa : ((w6.alloc (.cells #[.int .i64 Z2] 2)).drew).frozen? ⟨q, 2, none⟩ = false := (hba.frozen (World.block_lt_of_cell? _ _ p2)).trans yy2
          have hOa := hide (oB6.out.below hba)
          have hOo := hide (oA6.out.below hba)
          have hcl : ((w6.alloc (.cells #[.int .i64 Z2] 2)).drew).cell? ⟨w6.heap.size, 0, none⟩ = some (.int .i64 Z2) := by simp [go_sem]
          go_upto_region 16 with fail
          refine region_E (fun w' => w'.cell? ⟨q, 2, none⟩ = some (.slice b' i d') ∧ w'.cell? ⟨b, off + (2 * i - 1), none⟩ = some (.int .i64 V) ∧ w'.cell? ⟨b, off + 2 * i, none⟩ = some (.int .i64 X) ∧ w'.cell? ⟨w.heap.size, 2, none⟩ = some (.slice (some ⟨b, off, none⟩) m d)) 21 (by kernel_rfl) ⟨cell_be hbd p2, cell_be hbd j3, cell_be hbd j1, cell_be hbd fr⟩ ?_
          intro hS
          refine anyE_takeL 0 rfl (by kernel_rfl) (fun _ _ _ h => h) hS (by rfl) (v := ?_) ?_ ?_
          rotate_left
          · intro w' hSw; (try dsimp only at hSw); go_simp; (try with_reducible rfl)
          try simp only [Act.put, List.setIfInBounds_toArray, List.set_cons_zero, List.set_cons_succ]
          refine anyE_takeL 1 rfl (by kernel_rfl) (fun _ _ _ h => h) hS (by rfl) (v := ?_) ?_ ?_
          rotate_left
          · intro w' hSw; (try dsimp only at hSw); go_simp; (try with_reducible rfl)
          try simp only [Act.put, List.setIfInBounds_toArray, List.set_cons_zero, List.set_cons_succ]
          refine anyE_takeL 2 rfl (by kernel_rfl) (fun _ _ _ h => h) hS (by rfl) (v := ?_) ?_ ?_
          rotate_left
          · intro w' hSw; (try dsimp only at hSw); go_simp; (try with_reducible rfl)
          try simp only [Act.put, List.setIfInBounds_toArray, List.set_cons_zero, List.set_cons_succ]
          refine anyE_takeL 3 rfl (by kernel_rfl) (fun _ _ _ h => h) hS (by rfl) (v := ?_) ?_ ?_
          rotate_left
          · intro w' hSw; (try dsimp only at hSw); go_simp; (try with_reducible rfl)
          try simp only [Act.put, List.setIfInBounds_toArray, List.set_cons_zero, List.set_cons_succ]
          refine anyE_takeL 4 rfl (by kernel_rfl) (fun _ _ _ h => h) hS (by rfl) (v := ?_) ?_ ?_
          rotate_left
          · intro w' hSw; (try dsimp only at hSw); go_simp; (try with_reducible rfl)
          try simp only [Act.put, List.setIfInBounds_toArray, List.set_cons_zero, List.set_cons_succ]
          refine anyE_takeL 5 rfl (by kernel_rfl) (fun _ _ _ h => h) hS (by rfl) (v := ?_) ?_ ?_
          rotate_left
          · intro w' hSw; (try dsimp only at hSw); go_simp; (try with_reducible rfl)
          try simp only [Act.put, List.setIfInBounds_toArray, List.set_cons_zero, List.set_cons_succ]
          refine anyE_takeL 6 rfl (by kernel_rfl) (fun _ _ _ h => h) hS (by rfl) (v := ?_) ?_ ?_
          rotate_left
          · intro w' hSw; (try dsimp only at hSw); go_simp; (try with_reducible rfl)
          try simp only [Act.put, List.setIfInBounds_toArray, List.set_cons_zero, List.set_cons_succ]
          refine anyE_takeL 7 rfl (by kernel_rfl) (fun _ _ _ h => h) hS (by rfl) (v := ?_) ?_ ?_
          rotate_left
          · intro w' hSw; (try dsimp only at hSw); go_simp; (try with_reducible rfl)
          try simp only [Act.put, List.setIfInBounds_toArray, List.set_cons_zero, List.set_cons_succ]
          refine anyE_takeL 8 rfl (by kernel_rfl) (fun _ _ _ h => h) hS (by rfl) (v := ?_) ?_ ?_
          rotate_left
          · intro w' hSw; (try dsimp only at hSw); go_simp; (try with_reducible rfl)
          try simp only [Act.put, List.setIfInBounds_toArray, List.set_cons_zero, List.set_cons_succ]
          refine anyE_takeL 9 rfl (by kernel_rfl) (fun _ _ _ h => h) hS (by rfl) (v := ?_) ?_ ?_
          rotate_left
          · intro w' hSw; (try dsimp only at hSw); go_simp; (try with_reducible rfl)
          try simp only [Act.put, List.setIfInBounds_toArray, List.set_cons_zero, List.set_cons_succ]
          refine anyE_takeL 10 rfl (by kernel_rfl) (fun _ _ _ h => h) hS (by rfl) (v := ?_) ?_ ?_
          rotate_left
          · intro w' hSw; (try dsimp only at hSw); go_simp; (try with_reducible rfl)
          try simp only [Act.put, List.setIfInBounds_toArray, List.set_cons_zero, List.set_cons_succ]
          refine anyE_takeL 11 rfl (by kernel_rfl) (fun _ _ _ h => h) hS (by rfl) (v := ?_) ?_ ?_
          rotate_left
          · intro w' hSw; (try dsimp only at hSw); go_simp; (try with_reducible rfl)
          try simp only [Act.put, List.setIfInBounds_toArray, List.set_cons_zero, List.set_cons_succ]
          refine anyE_takeL 12 rfl (by kernel_rfl) (fun _ _ _ h => h) hS (by rfl) (v := ?_) ?_ ?_
          rotate_left
          · intro w' hSw; (try dsimp only at hSw); go_simp; (try with_reducible rfl)
          try simp only [Act.put, List.setIfInBounds_toArray, List.set_cons_zero, List.set_cons_succ]
          refine anyE_takeL 13 rfl (by kernel_rfl) (fun _ _ _ h => h) hS (by rfl) (v := ?_) ?_ ?_
          rotate_left
          · intro w' hSw; (try dsimp only at hSw); go_simp; (try with_reducible rfl)
          try simp only [Act.put, List.setIfInBounds_toArray, List.set_cons_zero, List.set_cons_succ]
          refine anyE_takeL 14 rfl (by kernel_rfl) (fun _ _ _ h => h) hS (by rfl) (v := ?_) ?_ ?_
          rotate_left
          · intro w' hSw; (try dsimp only at hSw); go_simp; (try with_reducible rfl)
          try simp only [Act.put, List.setIfInBounds_toArray, List.set_cons_zero, List.set_cons_succ]
          refine anyE_takeL 15 rfl (by kernel_rfl) (fun _ _ _ h => h) hS (by rfl) (v := ?_) ?_ ?_
          rotate_left
          · intro w' hSw; (try dsimp only at hSw); go_simp; (try with_reducible rfl)
          try simp only [Act.put, List.setIfInBounds_toArray, List.set_cons_zero, List.set_cons_succ]
          refine anyE_takeL 16 rfl (by kernel_rfl) (fun _ _ _ h => h) hS (by rfl) (v := ?_) ?_ ?_
          rotate_left
          · intro w' hSw; (try dsimp only at hSw); go_simp; (try with_reducible rfl)
          try simp only [Act.put, List.setIfInBounds_toArray, List.set_cons_zero, List.set_cons_succ]
          refine anyE_takeL 17 rfl (by kernel_rfl) (fun _ _ _ h => h) hS (by rfl) (v := ?_) ?_ ?_
          rotate_left
          · intro w' hSw; (try dsimp only at hSw); go_simp; (try with_reducible rfl)
          try simp only [Act.put, List.setIfInBounds_toArray, List.set_cons_zero, List.set_cons_succ]
          clear hS
          refine anyE_oneL 18 (by kernel_rfl) rfl (fun K' hK' => ?_)
          go_simp
          have S1 := And.intro s1a (And.intro (cell_be hba j3) (And.intro (cell_be hba j1) (cell_be hba fr)))
          refine hK'.out _ _ S1 ?_
          clear hK' K'
          try simp only [Act.put, List.setIfInBounds_toArray, List.set_cons_zero, List.set_cons_succ]
          refine anyE_oneL 19 (by kernel_rfl) rfl (fun K' hK' => ?_)
          refine step_app1 (by rfl) _ _ (by rfl) w2.heap.size _ _ _ us (by rfl) hul.out.symm hOa.out _ _ Z2 (by rfl) hcl (by omega) (by simp; omega) ?_
          intro bd' bap' w' hown' hgr hloc
          have s1' := cell_ne hgr s1a n2'
          have sf' := frz_ne hgr s1a sfa n2'
          have hge := own_blk_ge hOa.out
          have S2 := And.intro s1' (And.intro (cell_ne hgr S1.2.1 (fun e => by have := hge _ e; omega)) (And.intro (cell_ne hgr S1.2.2.1 (fun e => by have := hge _ e; omega)) (cell_ne hgr S1.2.2.2 (fun e => by have := hge _ e; omega))))
          refine hK'.out _ _ S2 ?_
          clear hK' K'
          try simp only [Act.put, List.setIfInBounds_toArray, List.set_cons_zero, List.set_cons_succ]
          refine anyE_takeL 20 rfl (by kernel_rfl) (fun _ _ _ h => h) S2 (by rfl) (v := ?_) ?_ ?_
          rotate_left
          · intro w' hSw; (try dsimp only at hSw); go_simp; (try with_reducible rfl)
          try simp only [Act.put, List.setIfInBounds_toArray, List.set_cons_zero, List.set_cons_succ]
          clear S1 S2 hbd
          refine anyE_lastL (by kernel_rfl) rfl (by kernel_rfl) (fun K' hK' => ?_)
          go_simp
          refine hK'.out _ _ ?_
          clear hK' K'
          try simp only [Act.put, List.setIfInBounds_toArray, List.set_cons_zero, List.set_cons_succ]
          obtain ⟨w7, hw7⟩ : ∃ w7, w7 = w'.setCell ⟨q, 2, none⟩ (.slice bd' (us.length + 1) bap') := ⟨_, rfl⟩
          rw [← hw7]
          have hnewB : Hid (blk bd' ≠ some q) := hide (by
            rcases hloc with h | h <;> rw [h]
            · exact n2'
            · simp; omega)
          have oB7 : Hid (Own w2.heap.size w7 bd' bap' (tab (i + 1) (jsB p ys))) := hide (by rw [hw7, hstB.out]; exact hown'.otherG hnewB.out _)
          have oA7 : Hid (Own w2.heap.size w7 ad' cap' (tab (i + 1) (jsA p ys))) := hide (by rw [hw7]; exact (Own.keep hOo.out hgr (fun g h1 h2 => n3.out g h1 h2)).otherG hnew.out _)
          have n3b : Hid (∀ g, blk ad' = some g → blk bd' ≠ some g) := hide (fun g h1 h2 => by
            rcases hloc with h | h
            · rw [h] at h2; exact n3.out g h1 h2
            · rw [h] at h2
              have := own_blk_lt oA6.out g h1
              simp at h2
              omega)
          have p0' : w7.cell? ⟨q, 0, none⟩ = some (.int .i64 p) := by rw [hw7]; exact cell_set2' (cell_ne hgr (cell_be hba p0) n2') (by simp) _
          have p2' : w7.cell? ⟨q, 2, none⟩ = some (.slice bd' (i + 1) bap') := by rw [hw7, show i + 1 = us.length + 1 by rw [hul.out]]; exact World.cell?_setCell_same _ _ _ s1'
          have p1' : w7.cell? ⟨q, 1, none⟩ = some (.slice ad' (i + 1) cap') := by rw [hw7]; exact cell_set2' (cell_ne hgr (cell_be hba p1) n2') (by simp) _
          have yy2' : w7.frozen? ⟨q, 2, none⟩ = false := by rw [hw7]; simpa using sf'
          have yy1' : w7.frozen? ⟨q, 1, none⟩ = false := by rw [hw7]; simpa using frz_ne hgr (cell_be hba p1) ((hba.frozen (World.block_lt_of_cell? _ _ p1)).trans yy1) n2'
          have hW7 : Hid (Below w2.heap.size w2 w7) := hide (by rw [hw7]; exact ((hW6.out.trans (hba.mono (by omega))).grown hgr (by simp; omega) (own_blk_ge hOa.out)).setCell (by simp; omega) _)
          have zq7 : q < w7.heap.size := by rw [hw7]; have := hgr.size; simp at this ⊢; omega
          clear hw7 hgr hown' hloc hOa hOo hba hcl s1a sfa s1' sf' oA6 oB6 p0 p1 p2 yy1 yy2 hW6 j1 j3 hge v0 v2 w1' w2' w4' w5' w6' w7'
          go_wp2
          go_roundw
          case rel => exact ⟨i + 1, cap', bap', ad', bd', by omega, by omega, by go_num, oA7, oB7, hide ⟨hnew.out, hnewB.out, n3b.out⟩, hide ⟨p0', p1', p2'⟩, hide ⟨yy1', yy2'⟩, zq7, hW7⟩
          case measure => first | (simp [intOf]; done) | (simp [intOf]; omega)
        · have hirr : i = r := by omega
          subst hirr
          have hgn : ¬ (i : Int) < (i : Int) := by omega
          replace r0 := cell_be hW'.out r0
          replace r1 := cell_be hW'.out r1
          replace r2 := cell_be hW'.out r2
          have y0' := (hW'.out.frozen (p := ⟨w.heap.size + 1, 0, none⟩) (by simp; omega)).trans y0
          have y1' := (hW'.out.frozen (p := ⟨w.heap.size + 1, 1, none⟩) (by simp; omega)).trans y1
          have y2' := (hW'.out.frozen (p := ⟨w.heap.size + 1, 2, none⟩) (by simp; omega)).trans y2
          have hBw := hB2.trans (hW'.out.mono (by omega))
          clear y0 y1 y2 hq'
          go_wp2
          refine bodyPost_ret (v := .tuple #[jac p a' i c' b' i d', .int .i64 0]) (by simp [results, Try.results35, go_sem, r0, r1, r2]) rfl ?_
          have jz : JZ w2.heap.size wr.heap.size wr a' i c' (tab i (jsA p ys)) b' i d' (tab i (jsB p ys)) := ⟨OZ.of oA.out (tab_len _ _).symm, OZ.of oB.out (tab_len _ _).symm, .inr (.inr (fun h => by obtain ⟨g, rfl, _⟩ := Own.blkG oA.out (by rw [tab_len]; omega); exact n3' g rfl h.symm))⟩
          have jz2 := ((jz.setLow (x := ⟨w.heap.size + 1, 0, none⟩) (by simp; omega) (.int .i64 p)).setLow (x := ⟨w.heap.size + 1, 1, none⟩) (by simp; omega) (.slice a' i c')).setLow (x := ⟨w.heap.size + 1, 2, none⟩) (by simp; omega) (.slice b' i d')
          exact ResJ.mk HQ.out HC.out (by rw [HV.out]; exact (tab_len _ _).symm) (by rw [HU.out]; exact (tab_len _ _).symm) (by rw [HV.out, HU.out]; simpa using jz2.mono (lo' := w.heap.size) (by omega) (Nat.le_refl _)) (by rw [HV.out, tab_len]; omega) (by rw [HU.out, tab_len]; omega) (((hBw.setCell (by simp) _).setCell (by simp) _).setCell (by simp) _)
end Go.Proofs.Ytllcgoachgfpjaa
