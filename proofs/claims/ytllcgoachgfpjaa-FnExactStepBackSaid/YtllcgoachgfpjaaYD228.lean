/- Merged texts. -/
import Derived.Test.YtllcgoachgfpjaaYD224
import Derived.Test.YtllcgoachgfpjaaYD225
import Derived.Test.YtllcgoachgfpjaaYD227
/- Contracts: HalveJacobi (program and model). -/
namespace Go.Proofs.Ytllcgoachgfpjaa
open Go.RowKit
set_option linter.unusedVariables false
set_option linter.unusedSimpArgs false

def hvjC (p : Int) (xs ys : List Int) : Int := if jacB p xs ys then (if 2 ≤ xs.length ∧ trimN xs xs.length = 0 then 0 else 5) else 1
def hvjP (p : Int) (xs ys : List Int) : Int := if hvjC p xs ys = 0 then p else 0
def hvjV (p : Int) (xs ys : List Int) : List Int := if hvjC p xs ys = 0 then tab (xs.length / 2) (jsA p ys) else []
def hvjU (p : Int) (xs ys : List Int) : List Int := if hvjC p xs ys = 0 then tab (xs.length / 2) (jsB p ys) else []
theorem hvj_err {p : Int} {xs ys : List Int} {e : Int} (h : hvjC p xs ys = e) (he : e ≠ 0) : hvjP p xs ys = 0 ∧ hvjV p xs ys = [] ∧ hvjU p xs ys = [] := by
  have : hvjC p xs ys ≠ 0 := by rw [h]; exact he
  exact ⟨if_neg this, if_neg this, if_neg this⟩
theorem hasB_tab {n : Nat} {h : Nat → Int} (hh : ∀ k, k < n → h k ≠ 0) : hasB 0 (tab n h) = false := by
  unfold hasB tab
  rw [List.any_eq_false]
  intro x hx
  rw [List.mem_map] at hx
  obtain ⟨k, hk, rfl⟩ := hx
  have := hh k (by simpa using hk)
  simp
  omega
theorem getD_take2 (ys : List Int) (e k : Nat) (h : k < e) : (ys.take e).getD k 0 = ys.getD k 0 := by
  simp [List.getD_eq_getElem?_getD, List.getElem?_take, h]
theorem jos_half {p : Int} (hP : primeB p = true) {ys : List Int} (hy : posB p ys = true) (m e : Nat) (hm : ys.length = m) (h2 : 2 ≤ m) (h12 : m ≤ 12) (he : e = m - m % 2) :
    josC p (ys.take e) = 0 ∧ josV p (ys.take e) = tab (m / 2) (jsA p ys) ∧ josU p (ys.take e) = tab (m / 2) (jsB p ys) ∧ josP p (ys.take e) = p := by
  have hl : (ys.take e).length = e := by simp; omega
  have hr : e / 2 = m / 2 := by omega
  have eA : tab (m / 2) (jsA p (ys.take e)) = tab (m / 2) (jsA p ys) := tab_congr fun k hk => by
    unfold jsA
    split
    · rw [getD_take2 _ _ _ (by omega)]
    · rw [getD_take2 _ _ _ (by omega), getD_take2 _ _ _ (by omega)]
  have eB : tab (m / 2) (jsB p (ys.take e)) = tab (m / 2) (jsB p ys) := tab_congr fun k hk => by
    unfold jsB
    split
    · rw [getD_take2 _ _ _ (by omega)]
    · rw [getD_take2 _ _ _ (by omega), getD_take2 _ _ _ (by omega)]
  have hA : areB p (ys.take e) = true := areB_mk fun j hj => by
    rw [hl] at hj
    rw [getD_take2 _ _ _ hj]
    have := posB_at hy j (by omega)
    omega
  have hz : hasB 0 (tab (m / 2) (jsB p ys)) = false := hasB_tab fun k hk => by
    unfold jsB
    split
    · have := posB_at hy 0 (by omega); omega
    · have a1 := posB_at hy (2 * k - 1) (by omega)
      have a2 := posB_at hy (2 * k) (by omega)
      exact prime_mul hP (by omega) a1.2 (by omega) a2.2
  have hL : lisB p (ys.take e) 2 24 = true := by
    simp only [lisB, hP, hA, hl]
    simp
    omega
  have hC : josC p (ys.take e) = 0 := by
    unfold josC
    rw [if_pos ⟨hL, by rw [hl]; omega⟩, hl, hr, eB, hz]
    rfl
  refine ⟨hC, ?_, ?_, ?_⟩
  · rw [josV, if_pos hC, hl, hr, eA]
  · rw [josU, if_pos hC, hl, hr, eB]
  · rw [josP, if_pos hC]
set_option maxRecDepth 100000 in
set_option maxHeartbeats 3200000 in
theorem implHalveJacobi (p : Int) (a : Option Addr) (n c : Nat) (xs : List Int) (b : Option Addr) (m d : Nat) (ys : List Int) (w : World) (hs : SL w a n c xs) (ht : SL w b m d ys) (hn : n ≤ 4000000) (hm : m ≤ 4000000) :
    Calls Try.prog 36 #[jac p a n c b m d] w (ResJ w (hvjP p xs ys) (hvjV p xs ys) (hvjU p xs ys) (hvjC p xs ys)) := by
  have hl := hide hs.len
  have hl2 := hide ht.len
  have hb0 := bl2 w (.cells #[.int .i64 p, .slice a n c, .slice b m d] 38) (.cells #[.int .i64 0, .slice none 0 0, .slice none 0 0] 38)
  have g1 := hs.below hb0
  have g2 := ht.below hb0
  cases hj : jacB p xs ys
  · have HC := hide (show hvjC p xs ys = 1 by simp [hvjC, hj])
    have HE := hide (hvj_err HC.out (by decide))
    have Hj := hide hj
    clear hj
    go_enter Try.func36, Try.ntmps36
    go_wp2_with fail
    refine (implIsJacobi _ _ _ _ _ _ _ _ _ _ g1 g2 hn hm).mono ?_
    rintro e w2 ⟨rfl, hb1⟩
    rw [Hj.out]
    have f0 : w2.cell? ⟨w.heap.size, 0, none⟩ = some (.int .i64 p) := cell_be hb1 (by simp [go_sem])
    have f1 : w2.cell? ⟨w.heap.size, 1, none⟩ = some (.slice a n c) := cell_be hb1 (by simp [go_sem])
    have f2 : w2.cell? ⟨w.heap.size, 2, none⟩ = some (.slice b m d) := cell_be hb1 (by simp [go_sem])
    have r0 : w2.cell? ⟨w.heap.size + 1, 0, none⟩ = some (.int .i64 0) := cell_be hb1 (by simp [go_sem])
    have r1 : w2.cell? ⟨w.heap.size + 1, 1, none⟩ = some (.slice none 0 0) := cell_be hb1 (by simp [go_sem])
    have r2 : w2.cell? ⟨w.heap.size + 1, 2, none⟩ = some (.slice none 0 0) := cell_be hb1 (by simp [go_sem])
    have y0 : w2.frozen? ⟨w.heap.size + 1, 0, none⟩ = false := (hb1.frozen (by simp)).trans (by simp [go_sem])
    have y1 : w2.frozen? ⟨w.heap.size + 1, 1, none⟩ = false := (hb1.frozen (by simp)).trans (by simp [go_sem])
    have y2 : w2.frozen? ⟨w.heap.size + 1, 2, none⟩ = false := (hb1.frozen (by simp)).trans (by simp [go_sem])
    have hB2 := bnext hb0 hb1
    go_wp2
    refine bodyPost_ret (v := .tuple #[jac 0 none 0 0 none 0 0, .int .i64 1]) (by simp [results, Try.results36, go_sem, r0, r1, r2]) rfl ?_
    exact ResJ.nil HE.out.1 HE.out.2.1 HE.out.2.2 HC.out (((hB2.setCell (by simp) _).setCell (by simp) _).setCell (by simp) _)
  have Hj := hide hj
  obtain ⟨hpr, n1, n2, n3, hx, hy⟩ := jacB_rng hj
  obtain ⟨hp, hp2⟩ := primeB_lo hpr
  rw [hl.out] at n1 n2 n3
  rw [hl2.out] at n3
  subst n3
  have HCC := hide (show hvjC p xs ys = if 2 ≤ m ∧ trimN xs m = 0 then 0 else 5 by simp only [hvjC, hj, if_true, hl.out])
  by_cases h1 : m = 1
  · have HC := hide (show hvjC p xs ys = 5 by rw [HCC.out, if_neg (by omega)])
    have HE := hide (hvj_err HC.out (by decide))
    have ob : ((m : Int) == 1) = true := by simp; omega
    clear hj hx hy hpr h1
    go_enter Try.func36, Try.ntmps36
    go_wp2_with fail
    refine (implIsJacobi _ _ _ _ _ _ _ _ _ _ g1 g2 hn hm).mono ?_
    rintro e w2 ⟨rfl, hb1⟩
    rw [Hj.out]
    have f0 : w2.cell? ⟨w.heap.size, 0, none⟩ = some (.int .i64 p) := cell_be hb1 (by simp [go_sem])
    have f1 : w2.cell? ⟨w.heap.size, 1, none⟩ = some (.slice a m c) := cell_be hb1 (by simp [go_sem])
    have f2 : w2.cell? ⟨w.heap.size, 2, none⟩ = some (.slice b m d) := cell_be hb1 (by simp [go_sem])
    have r0 : w2.cell? ⟨w.heap.size + 1, 0, none⟩ = some (.int .i64 0) := cell_be hb1 (by simp [go_sem])
    have r1 : w2.cell? ⟨w.heap.size + 1, 1, none⟩ = some (.slice none 0 0) := cell_be hb1 (by simp [go_sem])
    have r2 : w2.cell? ⟨w.heap.size + 1, 2, none⟩ = some (.slice none 0 0) := cell_be hb1 (by simp [go_sem])
    have y0 : w2.frozen? ⟨w.heap.size + 1, 0, none⟩ = false := (hb1.frozen (by simp)).trans (by simp [go_sem])
    have y1 : w2.frozen? ⟨w.heap.size + 1, 1, none⟩ = false := (hb1.frozen (by simp)).trans (by simp [go_sem])
    have y2 : w2.frozen? ⟨w.heap.size + 1, 2, none⟩ = false := (hb1.frozen (by simp)).trans (by simp [go_sem])
    have hB2 := bnext hb0 hb1
    go_wp2
    refine bodyPost_ret (v := .tuple #[jac 0 none 0 0 none 0 0, .int .i64 5]) (by simp [results, Try.results36, go_sem, r0, r1, r2]) rfl ?_
    exact ResJ.nil HE.out.1 HE.out.2.1 HE.out.2.2 HC.out (((hB2.setCell (by simp) _).setCell (by simp) _).setCell (by simp) _)
  have ob : ((m : Int) == 1) = false := by simp; omega
  obtain ⟨t, htt⟩ : ∃ t, trimN xs m = t := ⟨_, rfl⟩
  have HT := hide htt
  by_cases ht0 : 0 < t
  · have HC := hide (show hvjC p xs ys = 5 by rw [HCC.out, if_neg (by omega)])
    have HE := hide (hvj_err HC.out (by decide))
    have ot : (0 : Int) < (t : Int) := by omega
    clear hj hx hy hpr h1 htt
    go_enter Try.func36, Try.ntmps36
    go_wp2_with fail
    refine (implIsJacobi _ _ _ _ _ _ _ _ _ _ g1 g2 hn hm).mono ?_
    rintro e w1 ⟨rfl, hb1⟩
    rw [Hj.out]
    have f0 : w1.cell? ⟨w.heap.size, 0, none⟩ = some (.int .i64 p) := cell_be hb1 (by simp [go_sem])
    have f1 : w1.cell? ⟨w.heap.size, 1, none⟩ = some (.slice a m c) := cell_be hb1 (by simp [go_sem])
    have f2 : w1.cell? ⟨w.heap.size, 2, none⟩ = some (.slice b m d) := cell_be hb1 (by simp [go_sem])
    have r0 : w1.cell? ⟨w.heap.size + 1, 0, none⟩ = some (.int .i64 0) := cell_be hb1 (by simp [go_sem])
    have r1 : w1.cell? ⟨w.heap.size + 1, 1, none⟩ = some (.slice none 0 0) := cell_be hb1 (by simp [go_sem])
    have r2 : w1.cell? ⟨w.heap.size + 1, 2, none⟩ = some (.slice none 0 0) := cell_be hb1 (by simp [go_sem])
    have y0 : w1.frozen? ⟨w.heap.size + 1, 0, none⟩ = false := (hb1.frozen (by simp)).trans (by simp [go_sem])
    have y1 : w1.frozen? ⟨w.heap.size + 1, 1, none⟩ = false := (hb1.frozen (by simp)).trans (by simp [go_sem])
    have y2 : w1.frozen? ⟨w.heap.size + 1, 2, none⟩ = false := (hb1.frozen (by simp)).trans (by simp [go_sem])
    have hB1 := bnext hb0 hb1
    go_wp2_with fail
    refine (trimV _ _ _ xs t _ (g1.below hb1) hn HT.out).mono ?_
    rintro e w2 ⟨rfl, hb2⟩
    replace y0 := (hb2.frozen (World.block_lt_of_cell? _ _ r0)).trans y0
    replace y1 := (hb2.frozen (World.block_lt_of_cell? _ _ r1)).trans y1
    replace y2 := (hb2.frozen (World.block_lt_of_cell? _ _ r2)).trans y2
    replace f0 := cell_be hb2 f0
    replace f1 := cell_be hb2 f1
    replace f2 := cell_be hb2 f2
    replace r0 := cell_be hb2 r0
    replace r1 := cell_be hb2 r1
    replace r2 := cell_be hb2 r2
    have hB2 := bnext hB1 hb2
    go_wp2
    refine bodyPost_ret (v := .tuple #[jac 0 none 0 0 none 0 0, .int .i64 5]) (by simp [results, Try.results36, go_sem, r0, r1, r2]) rfl ?_
    exact ResJ.nil HE.out.1 HE.out.2.1 HE.out.2.2 HC.out (((hB2.setCell (by simp) _).setCell (by simp) _).setCell (by simp) _)
  have h0 : t = 0 := by omega
  have HC := hide (show hvjC p xs ys = 0 by rw [HCC.out, if_pos ⟨by omega, by omega⟩])
  have HV := hide (show hvjV p xs ys = tab (m / 2) (jsA p ys) by rw [hvjV, if_pos HC.out, hl.out])
  have HU := hide (show hvjU p xs ys = tab (m / 2) (jsB p ys) by rw [hvjU, if_pos HC.out, hl.out])
  have HQ := hide (show hvjP p xs ys = p by rw [hvjP, if_pos HC.out])
  obtain ⟨e, he⟩ : ∃ e, e = m - m % 2 := ⟨_, rfl⟩
  have HJ := hide (jos_half hpr hy m e hl2.out (by omega) n2 he)
  obtain ⟨q, hq⟩ : ∃ q, m % 2 = q := ⟨_, rfl⟩
  have vm : (m : Int).tmod 2 = (q : Int) := by rw [Int.tmod_eq_emod_of_nonneg (by omega)]; omega
  have vq : IntKind.i64.wrap (q : Int) = (q : Int) := IntWalk.i64_in _ (by omega)
  have ve : IntKind.i64.wrap ((m : Int) - (q : Int)) = (e : Int) := by rw [IntWalk.i64_in _ (by omega)]; omega
  have hem : e ≤ m := by omega
  have he2 : 2 ≤ e := by omega
  clear hq
  have HT0 := hide (show trimN xs m = 0 by omega)
  have hdd := ht.le
  obtain ⟨bb, bo, rfl, hbw, _⟩ := ht.at (show 0 < m by omega)
  clear hj hx hy hpr h1 htt ht0 he h0
  go_enter Try.func36, Try.ntmps36
  go_wp2_with fail
  refine (implIsJacobi _ _ _ _ _ _ _ _ _ _ g1 g2 hn hm).mono ?_
  rintro e' w1 ⟨rfl, hb1⟩
  rw [Hj.out]
  have f0 : w1.cell? ⟨w.heap.size, 0, none⟩ = some (.int .i64 p) := cell_be hb1 (by simp [go_sem])
  have f1 : w1.cell? ⟨w.heap.size, 1, none⟩ = some (.slice a m c) := cell_be hb1 (by simp [go_sem])
  have f2 : w1.cell? ⟨w.heap.size, 2, none⟩ = some (.slice (some ⟨bb, bo, none⟩) m d) := cell_be hb1 (by simp [go_sem])
  have r0 : w1.cell? ⟨w.heap.size + 1, 0, none⟩ = some (.int .i64 0) := cell_be hb1 (by simp [go_sem])
  have r1 : w1.cell? ⟨w.heap.size + 1, 1, none⟩ = some (.slice none 0 0) := cell_be hb1 (by simp [go_sem])
  have r2 : w1.cell? ⟨w.heap.size + 1, 2, none⟩ = some (.slice none 0 0) := cell_be hb1 (by simp [go_sem])
  have y0 : w1.frozen? ⟨w.heap.size + 1, 0, none⟩ = false := (hb1.frozen (by simp)).trans (by simp [go_sem])
  have y1 : w1.frozen? ⟨w.heap.size + 1, 1, none⟩ = false := (hb1.frozen (by simp)).trans (by simp [go_sem])
  have y2 : w1.frozen? ⟨w.heap.size + 1, 2, none⟩ = false := (hb1.frozen (by simp)).trans (by simp [go_sem])
  have hB1 := bnext hb0 hb1
  go_wp2_with fail
  refine (trimV _ _ _ xs 0 _ (g1.below hb1) hn HT0.out).mono ?_
  rintro e' w2 ⟨rfl, hb2⟩
  replace y0 := (hb2.frozen (World.block_lt_of_cell? _ _ r0)).trans y0
  replace y1 := (hb2.frozen (World.block_lt_of_cell? _ _ r1)).trans y1
  replace y2 := (hb2.frozen (World.block_lt_of_cell? _ _ r2)).trans y2
  replace f0 := cell_be hb2 f0
  replace f1 := cell_be hb2 f1
  replace f2 := cell_be hb2 f2
  replace r0 := cell_be hb2 r0
  replace r1 := cell_be hb2 r1
  replace r2 := cell_be hb2 r2
  have hB2 := bnext hB1 hb2
  have z1 := hb1.size
  have z2 := hb2.size
  simp at z1
  have s2 := ((g2.below hb1).below hb2).take hem
  have i1 : (e : Int) ≤ (d : Int) := by omega
  have i2 : (0 : Int) ≤ (e : Int) := by omega
  have hbd := (Below.refl w2.heap.size w2).drew
  have F : ∀ w', Below w2.heap.size w2 w' → w'.cell? ⟨w.heap.size, 0, none⟩ = some (.int .i64 p) ∧ w'.cell? ⟨w.heap.size, 2, none⟩ = some (.slice (some ⟨bb, bo, none⟩) m d) := fun w' hb => ⟨cell_be hb f0, cell_be hb f2⟩
  go_upto_region 6 with fail
  go_region_held3 (fun w' => w'.cell? ⟨w.heap.size, 0, none⟩ = some (.int .i64 p) ∧ w'.cell? ⟨w.heap.size, 2, none⟩ = some (.slice (some ⟨bb, bo, none⟩) m d))
    (first | exact F _ (by assumption) | exact ⟨cell_set2 (cell_set2 (cell_set2 x0 (by simp <;> omega) _) (by simp <;> omega) _) (by simp <;> omega) _, cell_set2 (cell_set2 (cell_set2 x2 (by simp <;> omega) _) (by simp <;> omega) _) (by simp <;> omega) _⟩)
    (first
    | (go_at_call 78; refine (implJacobiOfSteps p _ _ _ (ys.take e) _ (s2.below hbd) (by omega)).mono ?_; rintro e' w3 ⟨a3, c3, b3, d3, rfl, o3, l3, t3⟩; have m3 := bnext hbd t3; obtain ⟨x0, x2⟩ := F _ m3; have r0' := cell_be m3 r0; have r1' := cell_be m3 r1; have r2' := cell_be m3 r2; have y0' := (m3.frozen (World.block_lt_of_cell? _ _ r0)).trans y0; have y1' := (m3.frozen (World.block_lt_of_cell? _ _ r1)).trans y1; have y2' := (m3.frozen (World.block_lt_of_cell? _ _ r2)).trans y2))
  all_goals go_wp2
  refine bodyPost_ret (v := .tuple #[jac (josP p (ys.take e)) a3 (josV p (ys.take e)).length c3 b3 (josU p (ys.take e)).length d3, .int .i64 (josC p (ys.take e))]) (by simp [results, Try.results36, go_sem, r0', r1', r2']) rfl ?_
  obtain ⟨j1, j2, j3, j4⟩ := HJ.out
  rw [j2, j3] at o3 l3
  rw [j1, j2, j3, j4]
  rw [HV.out, HU.out, HQ.out, HC.out]
  refine ⟨a3, c3, b3, d3, rfl, ?_, l3, (((hB2.trans (m3.mono (by omega))).setCell (by simp) _).setCell (by simp) _).setCell (by simp) _⟩
  simpa using (((o3.setLow (x := ⟨w.heap.size + 1, 0, none⟩) (by simp; omega) _).setLow (x := ⟨w.heap.size + 1, 1, none⟩) (by simp; omega) _).setLow (x := ⟨w.heap.size + 1, 2, none⟩) (by simp; omega) _).mono (lo' := w.heap.size) (by simp; omega) (Nat.le_refl _)
end Go.Proofs.Ytllcgoachgfpjaa
/- Contracts: AffineJacobi where it succeeds, lessNumber (program). -/
namespace Go.Proofs.Ytllcgoachgfpjaa
open Go.RowKit
set_option linter.unusedVariables false
set_option linter.unusedSimpArgs false

theorem affine_ok (p : Int) (x : Option Addr) (n c : Nat) (xs : List Int) (y : Option Addr) (d : Nat) (ys : List Int) (a k : Int) (w : World) (hs : SL w x n c xs) (ht : SL w y n d ys) (hj : jacB p xs ys = true) (ha0 : 1 ≤ a) (ha1 : a < p) (hk0 : 0 ≤ k) (hk1 : k < p) :
    Calls Try.prog 74 #[jac p x n c y n d, .int .i64 a, .int .i64 k] w fun e w' => ∃ a' c' b' d', e = .returned (.tuple #[jac p a' n c' b' n d', .int .i64 0]) ∧ JZ w.heap.size w'.heap.size w' a' n c' (tab n (afA p a k xs n)) b' n d' (tab n (afB p a ys n)) ∧ Below w.heap.size w w' := by
  obtain ⟨hpr, n1, n2, n3, hx, hy⟩ := jacB_rng hj
  have hl := hs.len
  have HC : affC p xs ys a k = 0 := by simp only [affC, hj, if_true]; rw [if_pos (by omega)]
  have HV : affV p xs ys a k = tab n (afA p a k xs n) := by rw [affV, if_pos HC, hl]
  have HU : affU p xs ys a k = tab n (afB p a ys n) := by rw [affU, if_pos HC, hl]
  have HQ : affP p xs ys a k = p := by rw [affP, if_pos HC]
  refine (implAffineJacobi p x n c xs y n d ys a k w hs ht (by omega) (by omega)).mono ?_
  rintro e w' ⟨a', c', b', d', rfl, ho, _, hb⟩
  rw [HV, HU, tab_len, tab_len] at ho
  exact ⟨a', c', b', d', by rw [HQ, HV, HU, HC, tab_len, tab_len], ho, hb⟩
set_option maxRecDepth 100000 in
set_option maxHeartbeats 3200000 in
theorem lessNumber_any (p : Int) (a : Option Addr) (n c : Nat) (xs : List Int) (b : Option Addr) (d : Nat) (ys : List Int) (x : Int) (w : World) (hs : SL w a n c xs) (ht : SL w b n d ys) (hj : jacB p xs ys = true) (x0 : 0 ≤ x) (x1 : x < p) :
    Calls Try.prog 73 #[jac p a n c b n d, .int .i64 x] w fun e w' => ∃ a' c' b' d', e = .returned (jac p a' n c' b' n d') ∧ JZ w.heap.size w'.heap.size w' a' n c' (tab n (afA p 1 (opp p x) xs n)) b' n d' ys ∧ Below w.heap.size w w' := by
  have hl := hide hs.len
  have hl2 := hide ht.len
  obtain ⟨hpr, n1, n2, n3, hx, hy⟩ := jacB_rng hj
  obtain ⟨hp, hp2⟩ := primeB_lo hpr
  rw [hl.out] at n1 n2
  have HB := hide (afB_id hp (posB_are hy) n hl2.out)
  have Hj := hide hj
  have ro := opp_rng (p := p) (x := x) hp
  obtain ⟨w2, hw2⟩ : ∃ w2, w2 = ((w.alloc (.cells #[.int .i64 p, .slice a n c, .slice b n d] 38)).alloc (.cells #[.int .i64 0, .slice none 0 0, .slice none 0 0] 38)) := ⟨_, rfl⟩
  have hB2 := bl2 w (.cells #[.int .i64 p, .slice a n c, .slice b n d] 38) (.cells #[.int .i64 0, .slice none 0 0, .slice none 0 0] 38)
  have f0 : w2.cell? ⟨w.heap.size, 0, none⟩ = some (.int .i64 p) := by rw [hw2]; simp [go_sem]
  have f1 : w2.cell? ⟨w.heap.size, 1, none⟩ = some (.slice a n c) := by rw [hw2]; simp [go_sem]
  have f2 : w2.cell? ⟨w.heap.size, 2, none⟩ = some (.slice b n d) := by rw [hw2]; simp [go_sem]
  have r0 : w2.cell? ⟨w.heap.size + 1, 0, none⟩ = some (.int .i64 0) := by rw [hw2]; simp [go_sem]
  have r1 : w2.cell? ⟨w.heap.size + 1, 1, none⟩ = some (.slice none 0 0) := by rw [hw2]; simp [go_sem]
  have r2 : w2.cell? ⟨w.heap.size + 1, 2, none⟩ = some (.slice none 0 0) := by rw [hw2]; simp [go_sem]
  have y0 : w2.frozen? ⟨w.heap.size + 1, 0, none⟩ = false := by rw [hw2]; simp [go_sem]
  have y1 : w2.frozen? ⟨w.heap.size + 1, 1, none⟩ = false := by rw [hw2]; simp [go_sem]
  have y2 : w2.frozen? ⟨w.heap.size + 1, 2, none⟩ = false := by rw [hw2]; simp [go_sem]
  have z2 : w.heap.size + 1 + 1 = w2.heap.size := by rw [hw2]; simp
  rw [← hw2] at hB2
  have g1 := hs.below hB2
  have g2 := ht.below hB2
  have z2' : w.heap.size + 1 + 1 ≤ w2.heap.size := by omega
  clear hj hx hy hpr
  go_enter Try.func73, Try.ntmps73
  go_upto_region 1 with fail
  rw [← hw2]
  clear hw2 z2
  have F2 : ∀ w', Below w2.heap.size w2 w' → Below w2.heap.size w2 w' ∧ w'.cell? ⟨w.heap.size, 0, none⟩ = some (.int .i64 p) ∧ w'.cell? ⟨w.heap.size, 1, none⟩ = some (.slice a n c) ∧ w'.cell? ⟨w.heap.size, 2, none⟩ = some (.slice b n d) := fun w' h => ⟨h, cell_be h f0, cell_be h f1, cell_be h f2⟩
  have GK : ∀ w', (Below w2.heap.size w2 w' ∧ w'.cell? ⟨w.heap.size, 0, none⟩ = some (.int .i64 p) ∧ w'.cell? ⟨w.heap.size, 1, none⟩ = some (.slice a n c) ∧ w'.cell? ⟨w.heap.size, 2, none⟩ = some (.slice b n d)) → Below w2.heap.size w2 w' := fun w' h => h.1
  go_cut [5] (fun sq wx => ∃ (q ga gb c' d' : Nat), sq = .pointer (some ⟨q, 0, none⟩) ∧ Hid (wx.cell? ⟨q, 0, none⟩ = some (.int .i64 p) ∧ wx.cell? ⟨q, 1, none⟩ = some (.slice (some ⟨ga, 0, none⟩) n c') ∧ wx.cell? ⟨q, 2, none⟩ = some (.slice (some ⟨gb, 0, none⟩) n d')) ∧
      Hid (ga ≠ gb ∧ ga ≠ q ∧ gb ≠ q) ∧ Hid (w2.heap.size ≤ ga ∧ w2.heap.size ≤ gb ∧ w2.heap.size ≤ q) ∧ Hid (Own w2.heap.size wx (some ⟨ga, 0, none⟩) c' (tab n (afA p 1 (opp p x) xs n))) ∧ Hid (Own w2.heap.size wx (some ⟨gb, 0, none⟩) d' ys) ∧ Hid (Below w2.heap.size w2 wx))
  case first =>
    go_region_held3 (fun w' => Below w2.heap.size w2 w' ∧ w'.cell? ⟨w.heap.size, 0, none⟩ = some (.int .i64 p) ∧ w'.cell? ⟨w.heap.size, 1, none⟩ = some (.slice a n c) ∧ w'.cell? ⟨w.heap.size, 2, none⟩ = some (.slice b n d))
      (first | exact F2 _ (by assumption) | exact F2 _ (((Below.refl _ _).alloc (Nat.le_refl _) _).drew) | exact F2 _ ((Below.refl _ _).drew) | exact F2 _ (Below.alloc (by assumption) (Below.size (by assumption)) _) | exact F2 _ (Below.setCell (Below.setCell (Below.setCell (by assumption) (by first | omega | (simp; done) | (simp; omega)) _) (by first | omega | (simp; done) | (simp; omega)) _) (by first | omega | (simp; done) | (simp; omega)) _))
      (first
      | (go_at_call 102; go_fit (opposite_any p x _ hp hp2 x0 x1); rintro e w3 ⟨rfl, rfl⟩)
      | (go_at_call 74; go_fit (affine_ok p _ n _ xs _ _ ys 1 (opp p x) _ (g1.below (GK _ (by assumption))) (g2.below (GK _ (by assumption))) Hj.out (by omega) (by omega) ro.1 ro.2); rintro e w4 ⟨a', c', b', d', rfl, ho, hb4⟩; have hm4 := bnext (GK _ (by assumption)) hb4; have zz4 := Below.size hm4; have ts4 := Below.size hb4; (try simp at ts4); first | (with_reducible have alx := alc3 hb4; have al0 := alx.1.1; have al1 := alx.1.2.1; have al2 := alx.1.2.2; have af0 := alx.2.1; have af1 := alx.2.2.1; have af2 := alx.2.2.2; clear alx) | (with_reducible have alx := alcD3 hb4; have al0 := alx.1.1; have al1 := alx.1.2.1; have al2 := alx.1.2.2; have af0 := alx.2.1; have af1 := alx.2.2.1; have af2 := alx.2.2.2; clear alx) | (have af0 := (Below.frozen hb4 (World.block_lt_of_cell? _ _ al0)).trans af0; have af1 := (Below.frozen hb4 (World.block_lt_of_cell? _ _ al1)).trans af1; have af2 := (Below.frozen hb4 (World.block_lt_of_cell? _ _ al2)).trans af2; have al0 := cell_be hb4 al0; have al1 := cell_be hb4 al1; have al2 := cell_be hb4 al2) | skip))
    all_goals go_wp2_with fail
    all_goals go_meet
    all_goals
      rw [HB.out] at ho
      obtain ⟨ga, gb, rfl, rfl, d1, d2, d3, d4, d5, oA, oB⟩ := ho.rows (by omega) (by omega)
      (try simp at d2)
      (try simp at d4)
      first
      | exact ⟨_, ga, gb, c', d', rfl, hide ⟨cell_set2' (cell_set2' (World.cell?_setCell_same _ _ _ al0) (by simp) _) (by simp) _, cell_set2' (World.cell?_setCell_same _ _ _ (cell_set2' al1 (by simp) _)) (by simp) _, World.cell?_setCell_same _ _ _ (cell_set2' (cell_set2' al2 (by simp) _) (by simp) _)⟩, hide ⟨d1, (by first | omega | (simp; done) | (simp; omega)), (by first | omega | (simp; done) | (simp; omega))⟩, hide ⟨(by first | omega | (simp; done) | (simp; omega)), (by first | omega | (simp; done) | (simp; omega)), (by first | omega | (simp; done) | (simp; omega))⟩, hide ((((oA.setLow (by first | omega | (simp; done) | (simp; omega)) _).setLow (by first | omega | (simp; done) | (simp; omega)) _).setLow (by first | omega | (simp; done) | (simp; omega)) _).mono (by first | omega | (simp; done) | (simp; omega))), hide ((((oB.setLow (by first | omega | (simp; done) | (simp; omega)) _).setLow (by first | omega | (simp; done) | (simp; omega)) _).setLow (by first | omega | (simp; done) | (simp; omega)) _).mono (by first | omega | (simp; done) | (simp; omega))), hide (((hm4.setCell (by first | omega | (simp; done) | (simp; omega)) _).setCell (by first | omega | (simp; done) | (simp; omega)) _).setCell (by first | omega | (simp; done) | (simp; omega)) _)⟩
      | exact ⟨_, ga, gb, c', d', rfl, hide ⟨by simp [go_sem], by simp [go_sem], by simp [go_sem]⟩, hide ⟨d1, (by first | omega | (simp; done) | (simp; omega)), (by first | omega | (simp; done) | (simp; omega))⟩, hide ⟨(by first | omega | (simp; done) | (simp; omega)), (by first | omega | (simp; done) | (simp; omega)), (by first | omega | (simp; done) | (simp; omega))⟩, hide ((oA.below (bl1 _ _)).mono (by first | omega | (simp; done) | (simp; omega))), hide ((oB.below (bl1 _ _)).mono (by first | omega | (simp; done) | (simp; omega))), hide (hm4.alloc (Below.size hm4) _)⟩
  case rest =>
    obtain ⟨q, ga, gb, c', d', rfl, hq, hd, hge, oA, oB, hW⟩ := hcut
    obtain ⟨w5, hu⟩ : ∃ u, u = wc := ⟨wc, rfl⟩
    subst hu
    clear F2 GK
    obtain ⟨d1, d2, d3⟩ := hd.out
    obtain ⟨e1, e2, e3⟩ := hge.out
    obtain ⟨q0, q1, q2⟩ := hq.out
    replace r0 := cell_be hW.out r0
    replace r1 := cell_be hW.out r1
    replace r2 := cell_be hW.out r2
    have y0' := (hW.out.frozen (p := ⟨w.heap.size + 1, 0, none⟩) (by simp; omega)).trans y0
    have y1' := (hW.out.frozen (p := ⟨w.heap.size + 1, 1, none⟩) (by simp; omega)).trans y1
    have y2' := (hW.out.frozen (p := ⟨w.heap.size + 1, 2, none⟩) (by simp; omega)).trans y2
    have hB := hB2.trans (hW.out.mono (by omega))
    clear y0 y1 y2 hq f0 f1 f2
    go_wp2
    refine bodyPost_ret (v := jac p (some ⟨ga, 0, none⟩) n c' (some ⟨gb, 0, none⟩) n d') (by simp [results, Try.results73, go_sem, r0, r1, r2]) rfl ?_
    have jz : JZ w2.heap.size w5.heap.size w5 (some ⟨ga, 0, none⟩) n c' (tab n (afA p 1 (opp p x) xs n)) (some ⟨gb, 0, none⟩) n d' ys := ⟨OZ.of oA.out (tab_len _ _).symm, OZ.of oB.out hl2.out.symm, .inr (.inr (by simp [blk]; omega))⟩
    have jz2 := ((jz.setLow (x := ⟨w.heap.size + 1, 0, none⟩) (by simp; omega) (.int .i64 p)).setLow (x := ⟨w.heap.size + 1, 1, none⟩) (by simp; omega) (.slice (some ⟨ga, 0, none⟩) n c')).setLow (x := ⟨w.heap.size + 1, 2, none⟩) (by simp; omega) (.slice (some ⟨gb, 0, none⟩) n d')
    exact ⟨_, c', _, d', rfl, by simpa using jz2.mono (lo' := w.heap.size) (by omega) (Nat.le_refl _), ((hB.setCell (by simp) _).setCell (by simp) _).setCell (by simp) _⟩
end Go.Proofs.Ytllcgoachgfpjaa
