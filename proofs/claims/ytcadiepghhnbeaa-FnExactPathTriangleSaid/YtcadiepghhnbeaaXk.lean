/- Contracts: PathTriangle (program, model). -/
import Derived.Test.YtcadiepghhnbeaaXg
import Derived.Test.YtcadiepghhnbeaaCk
namespace Go.Proofs.Ytcadiepghhnbeaa
open Go.RowKit
set_option linter.unusedVariables false
set_option linter.unusedSimpArgs false

theorem Own.takeQ {B : Nat} {w : World} {a : Option Addr} {cap : Nat} {ys : List Int} (h : Own B w a cap ys) (k : Nat) (hk : k ≤ ys.length) (h0 : ys.length ≠ 0) : Own B w a cap (ys.take k) := by
  have hl : (ys.take k).length = k := by rw [List.length_take]; omega
  unfold Own at h ⊢
  rw [hl]
  refine ⟨by simpa using hl, ?_⟩
  rcases h.2 with ⟨h1, h2⟩ | ⟨g, c, cur, h1, h2, h3, h4, h5, h6, h7⟩
  · exact absurd h2 h0
  · refine .inr ⟨g, c, cur, ?_, h2, h3, by omega, h5, h6, ?_⟩
    · simp only [Value.slice.injEq, true_and] at h1 ⊢
      exact h1
    · have := congrArg (List.take k) h7
      rw [List.take_take] at this
      simpa [Nat.min_eq_left hk, List.map_take] using this
/-- One row of a list of lists is cut where it stands. -/
theorem KeptQ.cut {B n G : Nat} {w : World} {vs : List Value} {X Y : Nat → List Int} {A : Nat → Option Addr} {C : Nat → Nat} (h : KeptQ B w (some ⟨G, 0, none⟩) vs X A C n) (j k : Nat) (hj : j < n) (hv : vs.length = n) (hk : k ≤ (X j).length) (h0 : (X j).length ≠ 0) (hY : Y j = (X j).take k) (hE : ∀ i, i < n → i ≠ j → Y i = X i) :
    KeptQ B (w.setCell ⟨G, j, none⟩ (.slice (A j) k (C j))) (some ⟨G, 0, none⟩) (vs.set j (.slice (A j) k (C j))) Y A C n := by
  obtain ⟨h1, h2, h3, h4⟩ := h
  refine ⟨fun i hi => ?_, fun i hi => ?_, h3, h4⟩
  · by_cases e : i = j
    · subst e
      have hl : (Y i).length = k := by rw [hY, List.length_take]; omega
      rw [List.getElem?_set_self (by omega), hl]
    · rw [List.getElem?_set_ne (fun q => e q.symm), h1 i hi, hE i hi e]
  · have ne : blk (A i) ≠ some G := fun q => h3 i hi G q rfl
    refine Own.otherG ?_ ne _
    by_cases e : i = j
    · subst e; rw [hY]; exact (h2 i hi).takeQ k hk h0
    · rw [hE i hi e]; exact h2 i hi
def triX (p : Int) (xs ys : List Int) (i : Nat) : List Int := (rowP p xs ys xs.length 0 i).take (i + 1)
def triN (p : Int) (xs ys : List Int) : Nat := if jacB p xs ys then xs.length else 0
def triC (p : Int) (xs ys : List Int) : Int := if jacB p xs ys then 0 else 1
theorem triX_len (p : Int) (xs ys : List Int) (i : Nat) (h : i < xs.length) : (triX p xs ys i).length = i + 1 := by
  unfold triX; rw [List.length_take, rowP_len]; omega
set_option maxRecDepth 100000 in
set_option maxHeartbeats 3200000 in
theorem implPathTriangle (p : Int) (a : Option Addr) (n c : Nat) (xs : List Int) (b : Option Addr) (m d : Nat) (ys : List Int) (w : World) (hs : SL w a n c xs) (ht : SL w b m d ys) (hn : n ≤ 4000000) (hm : m ≤ 4000000) :
    Calls Try.prog 29 #[jac p a n c b m d] w (ResL w (triX p xs ys) (triN p xs ys) (triC p xs ys)) := by
  have hl := hide hs.len
  have hl2 := hide ht.len
  have hb0 := bl1 w (.cells #[.int .i64 p, .slice a n c, .slice b m d] 45)
  have g1 := hs.below hb0
  have g2 := ht.below hb0
  cases hJ : jacB p xs ys
  · have HC := hide (show triC p xs ys = 1 by simp [triC, hJ])
    have HN := hide (show triN p xs ys = 0 by simp [triN, hJ])
    have HJ := hide hJ
    clear hJ
    go_enter Try.func29, Try.ntmps29
    go_wp2_with fail
    refine (implIsJacobi p a n c xs b m d ys _ g1 g2 hn hm).mono ?_
    rintro e w1 ⟨rfl, t1⟩
    rw [HJ.out]
    go_wp2
    refine bodyPost_ret (v := .tuple #[.slice none 0 0, .int .i64 1]) (by simp [results, Try.results29, go_sem]) rfl ?_
    exact ResL.nil HN.out HC.out (bnext hb0 t1)
  obtain ⟨hpr, l1, l12, l2, hax, hay⟩ := jacB_rng hJ
  obtain ⟨hp, hp2⟩ := primeB_lo hpr
  obtain rfl : m = n := by rw [← hl2.out, ← hl.out]; omega
  rw [hl.out] at l1 l12
  have HC := hide (show triC p xs ys = 0 by simp [triC, hJ])
  have HN := hide (show triN p xs ys = m by simp [triN, hJ, hl.out])
  have HJ := hide hJ
  have HGW := hide (jac_gw hJ)
  have HX := hide (fun i => show triX p xs ys i = (rowP p xs ys m 0 i).take (i + 1) by unfold triX; rw [hl.out])
  clear hJ hpr hax hay l2
  go_enter Try.func29, Try.ntmps29
  go_wp2_with fail
  refine (implIsJacobi p a m c xs b m d ys _ g1 g2 hm hm).mono ?_
  rintro e w1 ⟨rfl, t1⟩
  rw [HJ.out]
  have B1 := bnext hb0 t1
  have e0 : w1.cell? ⟨w.heap.size, 0, none⟩ = some (.int .i64 p) := cell_be t1 (by simp [go_sem])
  have e1 : w1.cell? ⟨w.heap.size, 1, none⟩ = some (.slice a m c) := cell_be t1 (by simp [go_sem])
  have e2 : w1.cell? ⟨w.heap.size, 2, none⟩ = some (.slice b m d) := cell_be t1 (by simp [go_sem])
  clear hb0 t1 g1 g2
  have hm1 : ((m : Int) - 1) = ((m - 1 : Nat) : Int) := by omega
  have vm : IntKind.i64.wrap ((m : Int) - 1) = ((m - 1 : Nat) : Int) := by rw [hm1]; exact IntWalk.i64_in _ (by omega)
  clear hm1
  go_upto_region 3 with fail
  have hbd := (Below.refl w1.heap.size w1).drew
  refine region_E (fun w' => w'.cell? ⟨w.heap.size, 0, none⟩ = some (.int .i64 p) ∧ w'.cell? ⟨w.heap.size, 1, none⟩ = some (.slice a m c) ∧ w'.cell? ⟨w.heap.size, 2, none⟩ = some (.slice b m d)) 100 (by kernel_rfl) ⟨cell_be hbd e0, cell_be hbd e1, cell_be hbd e2⟩ ?_
  intro hS
  refine anyE_takeH 0 rfl (by kernel_rfl) (fun _ _ _ h => h) hS (by rfl) (v := ?_) ?_ ?_
  rotate_left
  · intro w' hSw; (try dsimp only at hSw); go_simp; (try with_reducible rfl)
  try simp only [Act.put, List.setIfInBounds_toArray, List.set_cons_zero, List.set_cons_succ]
  refine anyE_takeH 2 rfl (by kernel_rfl) (fun _ _ _ h => h) hS (by rfl) (v := ?_) ?_ ?_
  rotate_left
  · intro w' hSw; (try dsimp only at hSw); go_simp; (try with_reducible rfl)
  try simp only [Act.put, List.setIfInBounds_toArray, List.set_cons_zero, List.set_cons_succ]
  clear hS
  refine anyE_oneL 1 (by kernel_rfl) rfl (fun K' hK' => ?_)
  go_simp
  refine (groundOf_any p a m c b m d _).mono ?_
  rintro e w2 ⟨rfl, t2⟩
  dsimp only
  have hm2 := bnext hbd t2
  refine hK'.out _ _ ⟨cell_be hm2 e0, cell_be hm2 e1, cell_be hm2 e2⟩ ?_
  clear hK' K'
  try simp only [Act.put, List.setIfInBounds_toArray, List.set_cons_zero, List.set_cons_succ]
  refine anyE_oneL 3 (by kernel_rfl) rfl (fun K' hK' => ?_)
  go_simp
  refine (sizeOf_any p a m c b m d _ hm).mono ?_
  rintro e w3 ⟨rfl, t3⟩
  dsimp only
  have hm3 := bnext hm2 t3
  refine hK'.out _ _ ⟨cell_be hm3 e0, cell_be hm3 e1, cell_be hm3 e2⟩ ?_
  clear hK' K'
  try simp only [Act.put, List.setIfInBounds_toArray, List.set_cons_zero, List.set_cons_succ]
  refine anyE_oneL 4 (by kernel_rfl) rfl (fun K' hK' => ?_)
  go_simp
  refine hK'.out _ _ ⟨cell_be hm3 e0, cell_be hm3 e1, cell_be hm3 e2⟩ ?_
  clear hK' K'
  try simp only [Act.put, List.setIfInBounds_toArray, List.set_cons_zero, List.set_cons_succ]
  have B3 := bnext B1 hm3
  have S1 := hide (hs.below B3)
  have S2 := hide (ht.below B3)
  refine anyE_oneL 5 (by kernel_rfl) rfl (fun K' hK' => ?_)
  go_simp
  refine (sumsFrom_any p a m c xs b d ys 0 (m - 1) _ S1.out S2.out (by omega) (by omega) (by omega) HGW.out).mono ?_
  rintro e w4 ⟨a', c', vs, RA, RC, rfl, hvl, hO, hK, t4⟩
  dsimp only
  have hm4 := bnext hm3 t4
  refine hK'.out _ _ ⟨cell_be hm4 e0, cell_be hm4 e1, cell_be hm4 e2⟩ ?_
  clear hK' K'
  try simp only [Act.put, List.setIfInBounds_toArray, List.set_cons_zero, List.set_cons_succ]
  refine anyE_oneL 6 (by kernel_rfl) rfl (fun K' hK' => ?_)
  go_simp
  refine hK'.out _ _ ⟨cell_be hm4 e0, cell_be hm4 e1, cell_be hm4 e2⟩ (anyE_doneL (by kernel_rfl) ?_)
  clear hK' K'
  try simp only [Act.put, List.setIfInBounds_toArray, List.set_cons_zero, List.set_cons_succ]
  have hB4 := bnext B1 hm4
  rw [show m - 1 + 1 = m by omega] at hvl hK
  try rw [show m - 1 + 1 = m by omega]
  obtain ⟨G, rfl, hcG⟩ := hO.at (by omega)
  have hO4 := hide (hO.mono (B' := w.heap.size) (Nat.le_trans (by have := B1.size; exact this) hm3.size))
  have hK4 : Hid (KeptQ w.heap.size w4 (some ⟨G, 0, none⟩) vs (fun i => if i < 0 then triX p xs ys i else rowP p xs ys m 0 i) RA RC m) := hide (by
    obtain ⟨k1, k2, k3, k4⟩ := hK
    exact ⟨k1, fun j hj => (k2 j hj).mono (Nat.le_trans B1.size hm3.size), k3, k4⟩)
  have hvl4 := hide hvl
  have HB4 := hide hB4
  clear hbd hm2 hm3 hm4 t2 t3 t4 e0 e1 e2 B1 B3 S1 S2 hvl hO hK hcG hB4 vm
  go_wp2_with fail
  go_loopw [18] (fun iv wr => ∃ (t : Nat) (vs : List Value), t ≤ m ∧ iv = .int .i64 t ∧ Hid (vs.length = m) ∧ Hid (OwnV w.heap.size wr (some ⟨G, 0, none⟩) c' vs) ∧ Hid (KeptQ w.heap.size wr (some ⟨G, 0, none⟩) vs (fun i => if i < t then triX p xs ys i else rowP p xs ys m 0 i) RA RC m) ∧ Hid (Below w.heap.size w wr)) (fun iv _ => m - (intOf iv).toNat)
  case atStart => exact ⟨0, vs, by omega, rfl, hvl4, hO4, hK4, HB4⟩
  case round =>
    obtain ⟨t, vs2, htm, rfl, hvr, hOr, hKr, hBr⟩ := hrel
    clear hvl4 hO4 hK4 HB4
    by_cases hlt : t < m
    · have hlt' : (t : Int) < (m : Int) := by omega
      have q0 : (0 : Int) ≤ (t : Int) := by omega
      have ec := hOr.out.cellG t (by rw [hvr.out]; exact hlt)
      rw [hKr.out.1 t hlt] at ec
      simp only [Nat.lt_irrefl, if_false, rowP_len] at ec
      have fr := hOr.out.freeG t
      have hle : m ≤ RC t := by
        have q := (hKr.out.2.1 t hlt).sl.le
        simp only [Nat.lt_irrefl, if_false, rowP_len] at q
        exact q
      have v1 : IntKind.i64.wrap ((t : Int) + 1) = (t : Int) + 1 := IntWalk.i64_in _ (by omega)
      have q1 : (0 : Int) ≤ (t : Int) + 1 := by omega
      have q2 : (t : Int) + 1 ≤ (RC t : Int) := by omega
      have q3 : ((t : Int) + 1).toNat = t + 1 := by omega
      have hge := OwnV.blkG hOr.out G rfl
      have HO2 := hide (hOr.out.setG t (.slice (RA t) (t + 1) (RC t)))
      have hv2 := hide (show (vs2.set t (.slice (RA t) (t + 1) (RC t))).length = m by rw [List.length_set, hvr.out])
      have HK2 : Hid (KeptQ w.heap.size (wr.setCell ⟨G, t, none⟩ (.slice (RA t) (t + 1) (RC t))) (some ⟨G, 0, none⟩) (vs2.set t (.slice (RA t) (t + 1) (RC t))) (fun i => if i < t + 1 then triX p xs ys i else rowP p xs ys m 0 i) RA RC m) := hide (by
        refine hKr.out.cut t (t + 1) hlt hvr.out ?_ ?_ ?_ ?_
        · simp only [Nat.lt_irrefl, if_false, rowP_len]; omega
        · simp only [Nat.lt_irrefl, if_false, rowP_len]; omega
        · simp only [Nat.lt_irrefl, if_false]
          rw [if_pos (by omega), HX.out]
        · intro i hi hne
          by_cases h : i < t
          · simp only [h, if_true]; rw [if_pos (by omega)]
          · simp only [h, if_false]; rw [if_neg (by omega)])
      have HB2 := hide (hBr.out.setCell (p := ⟨G, t, none⟩) hge (.slice (RA t) (t + 1) (RC t)))
      clear hOr hKr hBr
      go_wp2
      go_roundw
      case rel => exact ⟨t + 1, _, by omega, by go_num, hv2, HO2, HK2, HB2⟩
      case measure => simp [intOf]; omega
    · have hte : Hid (t = m) := hide (by omega)
      have hge : ¬ (t : Int) < (m : Int) := by omega
      go_wp2
      refine bodyPost_ret (v := .tuple #[.slice (some ⟨G, 0, none⟩) m c', .int .i64 0]) (by simp [results, Try.results29, go_sem]) rfl ?_
      refine ⟨some ⟨G, 0, none⟩, c', by rw [HC.out, HN.out], ?_, ?_, hBr.out⟩
      · rw [HN.out]
        have z := hKr.out.zl hvr.out hOr.out
        rw [hte.out] at z
        rcases z with z | ⟨g, A, C, ha, z⟩
        · exact .inl z
        · exact .inr ⟨g, A, C, ha, z.congr (fun i hi => by rw [if_pos hi])⟩
      · rw [HN.out]
        exact ⟨by omega, fun i hi => by rw [triX_len p xs ys i (by rw [hl.out]; exact hi)]; omega⟩
set_option maxRecDepth 100000 in
set_option maxHeartbeats 3200000 in
theorem specPathTriangle (p : Int) (a : Option Addr) (n c : Nat) (xs : List Int) (b : Option Addr) (m d : Nat) (ys : List Int) (w : World) (hs : SL w a n c xs) (ht : SL w b m d ys) (hn : n ≤ 4000000) (hm : m ≤ 4000000) :
    Calls Try.prog 28 #[jac p a n c b m d] w (ResL w (triX p xs ys) (triN p xs ys) (triC p xs ys)) := by
  have hl := hide hs.len
  have hl2 := hide ht.len
  have hb0 := bl1 w (.cells #[.int .i64 p, .slice a n c, .slice b m d] 45)
  have g1 := hs.below hb0
  have g2 := ht.below hb0
  cases hJ : jacB p xs ys
  · have HC := hide (show triC p xs ys = 1 by simp [triC, hJ])
    have HN := hide (show triN p xs ys = 0 by simp [triN, hJ])
    have HJ := hide hJ
    clear hJ
    go_enter Try.func28, Try.ntmps28
    go_wp2_with fail
    refine (l03Is_any p a n c xs b m d ys _ g1 g2 hn hm).mono ?_
    rintro e w1 ⟨rfl, t1⟩
    rw [HJ.out]
    go_wp2
    refine bodyPost_ret (v := .tuple #[.slice none 0 0, .int .i64 1]) (by simp [results, Try.results28, go_sem]) rfl ?_
    exact ResL.nil HN.out HC.out (bnext hb0 t1)
  obtain ⟨hpr, l1, l12, l2, hax, hay⟩ := jacB_rng hJ
  obtain ⟨hp, hp2⟩ := primeB_lo hpr
  obtain rfl : m = n := by rw [← hl2.out, ← hl.out]; omega
  rw [hl.out] at l1 l12
  have HC := hide (show triC p xs ys = 0 by simp [triC, hJ])
  have HN := hide (show triN p xs ys = m by simp [triN, hJ, hl.out])
  have HJ := hide hJ
  have HA := hide hax
  have HB := hide (posB_are hay)
  have HX := hide (fun i => show triX p xs ys i = (rowP p xs ys m 0 i).take (i + 1) by unfold triX; rw [hl.out])
  clear hJ hpr hax hay l2
  go_enter Try.func28, Try.ntmps28
  go_wp2_with fail
  refine (l03Is_any p a m c xs b m d ys _ g1 g2 hm hm).mono ?_
  rintro e w1 ⟨rfl, t1⟩
  rw [HJ.out]
  have B1 := bnext hb0 t1
  have e0 : w1.cell? ⟨w.heap.size, 0, none⟩ = some (.int .i64 p) := cell_be t1 (by simp [go_sem])
  have e1 : w1.cell? ⟨w.heap.size, 1, none⟩ = some (.slice a m c) := cell_be t1 (by simp [go_sem])
  have e2 : w1.cell? ⟨w.heap.size, 2, none⟩ = some (.slice b m d) := cell_be t1 (by simp [go_sem])
  have Zs : w.heap.size + 1 ≤ w1.heap.size := World.block_lt_of_cell? _ _ e0
  clear hb0 t1 g1 g2
  go_upto_region 3 with fail
  have hbd := (Below.refl w1.heap.size w1).drew
  have zd := hbd.size
  obtain ⟨wd, hwd⟩ : ∃ wd, wd = w1.drew := ⟨_, rfl⟩
  refine region_E (fun w' => w'.cell? ⟨w.heap.size, 1, none⟩ = some (.slice a m c)) 100 (by kernel_rfl) (cell_be hbd e1) ?_
  rw [← hwd] at hbd zd ⊢
  clear hwd
  intro hS
  refine anyE_takeH 1 rfl (by kernel_rfl) (fun _ _ _ h => h) hS (by rfl) (v := ?_) ?_ ?_
  rotate_left
  · intro w' hSw; (try dsimp only at hSw); go_simp; (try with_reducible rfl)
  try simp only [Act.put, List.setIfInBounds_toArray, List.set_cons_zero, List.set_cons_succ]
  refine anyE_takeH 2 rfl (by kernel_rfl) (fun _ _ _ h => h) hS (by rfl) (v := ?_) ?_ ?_
  rotate_left
  · intro w' hSw; (try dsimp only at hSw); go_simp; (try with_reducible rfl)
  try simp only [Act.put, List.setIfInBounds_toArray, List.set_cons_zero, List.set_cons_succ]
  refine anyE_takeH 3 rfl (by kernel_rfl) (fun _ _ _ h => h) hS (by rfl) (v := ?_) ?_ ?_
  rotate_left
  · intro w' hSw; (try dsimp only at hSw); go_simp; (try with_reducible rfl)
  try simp only [Act.put, List.setIfInBounds_toArray, List.set_cons_zero, List.set_cons_succ]
  clear hS
  have ba := bl1 wd (.cells #[] 22)
  have hO0 := hide (show OwnV (w.heap.size + 1) (wd.alloc (.cells #[] 22)) (some ⟨wd.heap.size, 0, none⟩) 0 [] from World.ownsRow_lit wd (base := w.heap.size + 1) (e := 22) (size := 1) #[] 0 (by omega) (by simp) rfl)
  have hm2 := bnext hbd ba
  refine anyE_oneL 0 (by kernel_rfl) rfl (fun K' hK' => ?_)
  go_simp
  refine hK'.out _ _ (cell_be hm2 e1) ?_
  clear hK' K'
  try simp only [Act.put, List.setIfInBounds_toArray, List.set_cons_zero, List.set_cons_succ]
  refine anyE_oneL 4 (by kernel_rfl) rfl (fun K' hK' => ?_)
  go_simp
  refine hK'.out _ _ (cell_be hm2 e1) ?_
  clear hK' K'
  try simp only [Act.put, List.setIfInBounds_toArray, List.set_cons_zero, List.set_cons_succ]
  refine anyE_oneL 5 (by kernel_rfl) rfl (fun K' hK' => ?_)
  go_simp
  refine hK'.out _ _ (cell_be hm2 e1) (anyE_doneL (by kernel_rfl) ?_)
  clear hK' K'
  try simp only [Act.put, List.setIfInBounds_toArray, List.set_cons_zero, List.set_cons_succ]
  have hK0 : Hid (KeptQ w.heap.size (wd.alloc (.cells #[] 22)) (some ⟨wd.heap.size, 0, none⟩) [] (triX p xs ys) (fun _ => none) (fun _ => 0) 0) := hide ⟨fun j hj => by omega, fun j hj => by omega, fun j hj => by omega, fun i j hij hj => by omega⟩
  have hF0 := hide (And.intro (cell_be hm2 e0) (And.intro (cell_be hm2 e1) (cell_be hm2 e2)))
  have hB0 := hide (bnext B1 hm2)
  have Zt : w.heap.size + 1 ≤ (wd.alloc (.cells #[] 22)).heap.size := Nat.le_trans Zs hm2.size
  clear hbd zd ba hm2 e0 e1 e2 Zs B1
  go_wp2_with fail
  generalize (wd.alloc (.cells #[] 22)) = wx at *
  go_loopw [4, 6] (fun sv iv wr => ∃ (t : Nat) (a' : Option Addr) (c' : Nat) (vs : List Value) (RA : Nat → Option Addr) (RC : Nat → Nat), t ≤ m ∧ iv = .int .i64 t ∧ sv = .slice a' t c' ∧ Hid (vs.length = t) ∧ Hid (OwnV (w.heap.size + 1) wr a' c' vs) ∧ Hid (KeptQ w.heap.size wr a' vs (triX p xs ys) RA RC t) ∧ Hid (Below w.heap.size w wr) ∧ Hid (wr.cell? ⟨w.heap.size, 0, none⟩ = some (.int .i64 p) ∧ wr.cell? ⟨w.heap.size, 1, none⟩ = some (.slice a m c) ∧ wr.cell? ⟨w.heap.size, 2, none⟩ = some (.slice b m d)) ∧ w.heap.size + 1 ≤ wr.heap.size) (fun _ iv _ => m - (intOf iv).toNat)
  case atStart => exact ⟨0, _, _, _, _, _, by omega, rfl, rfl, hide rfl, hO0, hK0, hB0, hF0, Zt⟩
  case round =>
    obtain ⟨t, a', c', vs, RA, RC, htm, rfl, rfl, hvl, hO, hK, hW, hF, hz⟩ := hrel
    clear hO0 hK0 hB0 hF0 Zt
    by_cases hlt : t < m
    · have hlt' : (t : Int) < (m : Int) := by omega
      obtain ⟨f0, f1, f2⟩ := hF.out
      have s1 := hide (hs.below hW.out)
      have s2 := hide (ht.below hW.out)
      have zw := hW.out.size
      have v1 : IntKind.i64.wrap ((t : Int) + 1) = (t : Int) + 1 := IntWalk.i64_in _ (by omega)
      go_wp2_with fail
      refine (l09Sums_any p a m c xs b d ys t 0 m _ s1.out s2.out (by omega) (Nat.le_refl _) (by omega) (by omega) hp hp2 HA.out HB.out).mono ?_
      rintro e w3 ⟨a3, rfl, o3, t3⟩
      have sl3 := o3.sl
      rw [rowP_len] at sl3
      have sl4 := hide (show SL w3 a3 (t + 1) m (triX p xs ys t) by rw [HX.out]; exact sl3.take (by omega))
      have q1 : (0 : Int) ≤ (t : Int) + 1 := by omega
      have q2 : (t : Int) + 1 ≤ (m : Int) := by omega
      have q3 : ((t : Int) + 1).toNat = t + 1 := by omega
      clear sl3 o3
      go_wp2_with fail
      refine (l01Own_any a3 (t + 1) m (triX p xs ys t) _ sl4.out (by omega)).mono ?_
      rintro e w4 ⟨a4, c4, rfl, o4, t4⟩
      have t34 := bnext t3 t4
      have hba := bl1 w4 (.cells #[.slice a4 (t + 1) c4] 22)
      have hcl : (w4.alloc (.cells #[.slice a4 (t + 1) c4] 22)).cell? ⟨w4.heap.size, 0, none⟩ = some (.slice a4 (t + 1) c4) := by simp [go_sem]
      have HZa := hide (show (w4.alloc (.cells #[.slice a4 (t + 1) c4] 22)).heap.size = w4.heap.size + 1 by simp)
      have hOa := hide ((hO.out.below t34).below hba)
      have hblt := hide (OwnV.blkLtQ hO.out)
      have z34 := t34.size
      have O4 := hide (o4.mono (B' := wr.heap.size) t3.size)
      clear t3 t4 o4 q1 q2 q3 v1
      go_wp2_with (at_builtin; with_reducible refine wp_appVQ rfl _ _ rfl (w.heap.size + 1) _ _ _ vs rfl hvl.out.symm hOa.out _ _ _ rfl hcl rfl (by omega) (by have := HZa.out; omega) ?_; intro ad' cap' w' hown' hgr hloc)
      have hvl2 := hide (show (vs ++ [Value.slice a4 (t + 1) c4]).length = t + 1 by rw [List.length_append, hvl.out]; rfl)
      have hW3 := hW.out.trans (t34.mono zw)
      have hbg := OwnV.blkG hOa.out
      have hW2 : Hid (Below w.heap.size w w') := hide ((hW3.trans (hba.mono hW3.size)).grown hgr (by have := HZa.out; omega) (fun k e => by have := hbg k e; omega))
      have hK2 := hide (show KeptQ w.heap.size w' ad' (vs ++ [Value.slice a4 (t + 1) c4]) (triX p xs ys) (fun j => if j = t then a4 else RA j) (fun j => if j = t then c4 else RC j) (t + 1) by
        have q := hK.out.push (X := triX p xs ys) (ad' := ad') (w' := w') hvl.out hblt.out zw t34 O4.out hba (by have := HZa.out; omega) hgr hloc
        rw [triX_len p xs ys t (by rw [hl.out]; exact hlt)] at q
        exact q)
      have hGw : blk a' ≠ some w.heap.size := fun e => by
        have := hbg _ e
        omega
      have hF2 := hide (And.intro (cell_ne hgr (cell_be hba (cell_be t34 f0)) hGw) (And.intro (cell_ne hgr (cell_be hba (cell_be t34 f1)) hGw) (cell_ne hgr (cell_be hba (cell_be t34 f2)) hGw)))
      have hzn : w.heap.size + 1 ≤ w'.heap.size := by have := hgr.size; have := HZa.out; omega
      have Hown := hide hown'
      clear hown' hgr hloc hOa hO hK hblt hcl hba t34 O4 f0 f1 f2 hW3 hbg
      go_roundw
      case rel => exact ⟨t + 1, ad', cap', _, _, _, by omega, by go_num, by rw [hvl.out], hvl2, Hown, hK2, hW2, hF2, hzn⟩
      case measure => simp [intOf]; omega
    · have hte : Hid (t = m) := hide (by omega)
      have hge : ¬ (t : Int) < (m : Int) := by omega
      go_wp2
      refine bodyPost_ret (v := .tuple #[.slice a' t c', .int .i64 0]) (by simp [results, Try.results28, go_sem]) rfl ?_
      refine ⟨a', c', by rw [HC.out, HN.out, hte.out], ?_, ?_, hW.out⟩
      · rw [HN.out, ← hte.out]
        exact hK.out.zl hvl.out (hO.out.mono (by omega))
      · rw [HN.out]
        exact ⟨by omega, fun i hi => by rw [triX_len p xs ys i (by rw [hl.out]; exact hi)]; omega⟩
end Go.Proofs.Ytcadiepghhnbeaa
