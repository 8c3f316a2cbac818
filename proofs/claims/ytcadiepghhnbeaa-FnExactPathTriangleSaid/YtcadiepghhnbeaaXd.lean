/- Contracts: the rows of sums on a ground (program): sumsFrom, sum. -/
import Derived.Test.YtcadiepghhnbeaaXc
import Derived.Test.YtcadiepghhnbeaaCk
namespace Go.Proofs.Ytcadiepghhnbeaa
open Go.RowKit
set_option linter.unusedVariables false
set_option linter.unusedSimpArgs false

theorem OwnV.otherQ {B cap : Nat} {w : World} {a : Option Addr} {vs : List Value} (h : OwnV B w a cap vs) {x : Addr} (hne : blk a ≠ some x.block) (u : Value) : OwnV B (w.setCell x u) a cap vs := by
  refine ⟨h.1, ?_⟩
  rcases h.2 with h' | ⟨g, c, cur, h1, h2, h3, h4⟩
  · exact .inl h'
  · refine .inr ⟨g, c, cur, h1, h2, (Below.heap_setCell _ _ _ _ (fun e => ?_)).trans h3, h4⟩
    simp only [Value.slice.injEq] at h1
    exact hne (by rw [h1.1, e]; rfl)
set_option maxRecDepth 100000 in
set_option maxHeartbeats 3200000 in
theorem sumsFrom_any (p : Int) (a : Option Addr) (m c : Nat) (A : List Int) (b : Option Addr) (d : Nat) (B : List Int) (i n : Nat) (w : World)
    (hA : SL w a m c A) (hB : SL w b m d B) (hm : m ≤ 1000) (hi : i < m) (hn : n ≤ 1000) (hG : GW p A B) :
    Calls Try.prog 65 #[jac p a m c b m d, .int .i64 i, .int .i64 n] w fun e w' => ∃ (a' : Option Addr) (c' : Nat) (vs : List Value) (RA : Nat → Option Addr) (RC : Nat → Nat),
      e = .returned (.slice a' (n + 1) c') ∧ vs.length = n + 1 ∧ OwnV w.heap.size w' a' c' vs ∧ KeptQ w.heap.size w' a' vs (rowP p A B m i) RA RC (n + 1) ∧ Below w.heap.size w w' := by
  have HG := hide hG
  have hb0 := bl1 w (.cells #[.int .i64 p, .slice a m c, .slice b m d] 78)
  have f0 : (w.alloc (.cells #[.int .i64 p, .slice a m c, .slice b m d] 78)).cell? ⟨w.heap.size, 0, none⟩ = some (.int .i64 p) := by simp [go_sem]
  have f1 : (w.alloc (.cells #[.int .i64 p, .slice a m c, .slice b m d] 78)).cell? ⟨w.heap.size, 1, none⟩ = some (.slice a m c) := by simp [go_sem]
  have f2 : (w.alloc (.cells #[.int .i64 p, .slice a m c, .slice b m d] 78)).cell? ⟨w.heap.size, 2, none⟩ = some (.slice b m d) := by simp [go_sem]
  have hi' : (i : Int) < (m : Int) := by omega
  clear hG
  go_enter Try.func65, Try.ntmps65
  go_wp2_with (at_make; refine wp_make rfl _ _ rfl _ _ m rfl rfl rfl rfl (by omega) ?_; intro w1 hrow hb hsz; have hB1 := bnext hb0 hb; have g0 := cell_be hb f0; have g1 := cell_be hb f1; have g2 := cell_be hb f2; have e1 := hrow.out.cell i (by rw [List.length_replicate]; exact hi); have fr := hrow.out.free i; have hrow2 := hide (show RowI w1 (w.heap.size + 1) (List.replicate m 0) from (by simpa using hrow.out)); have e2 := cell_al (show w1.cell? ⟨w.heap.size + 1, i, none⟩ = some (.int .i64 0) from (by rw [zeroD] at e1; simpa using e1)) (.cells #[.slice (some ⟨w.heap.size + 1, 0, none⟩) m m] 22); have fr2 := frz_al (show w1.cell? ⟨w.heap.size + 1, i, none⟩ = some (.int .i64 0) from (by rw [zeroD] at e1; simpa using e1)) (by simpa using fr) (.cells #[.slice (some ⟨w.heap.size + 1, 0, none⟩) m m] 22); have hz1 : w.heap.size + 1 < w1.heap.size := (by simpa using hsz); clear e1 fr hrow hsz)
  obtain ⟨ws, hws⟩ : ∃ ws, ws = w1.setCell ⟨w.heap.size + 1, i, none⟩ (.int .i64 1) := ⟨_, rfl⟩
  have hzs : ws.heap.size = w1.heap.size := by rw [hws]; simp
  have hRs := hrow2.out.set i 1
  have hBs := hB1.setCell (p := ⟨w.heap.size + 1, i, none⟩) (Nat.le_succ _) (.int .i64 1)
  have g0' := cell_set2 (a := ⟨w.heap.size + 1, i, none⟩) g0 (by simp) (.int .i64 1)
  have g1' := cell_set2 (a := ⟨w.heap.size + 1, i, none⟩) g1 (by simp) (.int .i64 1)
  have g2' := cell_set2 (a := ⟨w.heap.size + 1, i, none⟩) g2 (by simp) (.int .i64 1)
  rw [← hws] at hRs hBs g0' g1' g2' ⊢
  have hlr : ((List.replicate m (0 : Int)).set i 1).length = m := by simp
  have hOr := hRs.own' (B := w.heap.size) (by omega) (by rw [hlr]; unfold maxLen; omega)
  rw [hlr] at hOr
  have ba := bl1 ws (.cells #[.slice (some ⟨w.heap.size + 1, 0, none⟩) m m] 22)
  have Z0 : Hid (OwnV (w.heap.size + 1) (ws.alloc (.cells #[.slice (some ⟨w.heap.size + 1, 0, none⟩) m m] 22)) (some ⟨ws.heap.size, 0, none⟩) 1 [.slice (some ⟨w.heap.size + 1, 0, none⟩) m m]) := hide (World.ownsRow_lit ws (base := w.heap.size + 1) (e := 22) (size := 1) #[.slice (some ⟨w.heap.size + 1, 0, none⟩) m m] 1 (by omega) (by decide) rfl)
  have Z1 : Hid (KeptQ w.heap.size (ws.alloc (.cells #[.slice (some ⟨w.heap.size + 1, 0, none⟩) m m] 22)) (some ⟨ws.heap.size, 0, none⟩) [.slice (some ⟨w.heap.size + 1, 0, none⟩) m m] (rowP p A B m i) (fun _ => some ⟨w.heap.size + 1, 0, none⟩) (fun _ => m) 1) := hide (by
    refine ⟨fun j hj => ?_, fun j hj => ?_, fun j hj q hq => ?_, fun x y hxy hy => by omega⟩
    · obtain rfl : j = 0 := by omega
      simp [rowP_len]
    · obtain rfl : j = 0 := by omega
      exact hOr.below ba
    · simp only [blk, Option.some.injEq] at hq ⊢
      intro e
      simp at e
      omega)
  have Z2 : Hid (Below w.heap.size w (ws.alloc (.cells #[.slice (some ⟨w.heap.size + 1, 0, none⟩) m m] 22))) := hide (hBs.trans (ba.mono (by omega)))
  have Z3 : Hid ((ws.alloc (.cells #[.slice (some ⟨w.heap.size + 1, 0, none⟩) m m] 22)).cell? ⟨w.heap.size, 0, none⟩ = some (.int .i64 p) ∧ (ws.alloc (.cells #[.slice (some ⟨w.heap.size + 1, 0, none⟩) m m] 22)).cell? ⟨w.heap.size, 1, none⟩ = some (.slice a m c) ∧ (ws.alloc (.cells #[.slice (some ⟨w.heap.size + 1, 0, none⟩) m m] 22)).cell? ⟨w.heap.size, 2, none⟩ = some (.slice b m d)) := hide ⟨cell_be ba g0', cell_be ba g1', cell_be ba g2'⟩
  rw [← hzs]
  have Z4 : (ws.alloc (.cells #[.slice (some ⟨w.heap.size + 1, 0, none⟩) m m] 22)).heap.size > w.heap.size + 1 := Nat.lt_of_lt_of_le (show w.heap.size + 1 < ws.heap.size by omega) ba.size
  have hzs1 : w.heap.size + 1 < ws.heap.size := by omega
  clear hzs hws hRs hBs g0' g1' g2' g0 g1 g2 hlr hOr ba e2 fr2 f0 f1 f2 hb hb0 hrow2 hB1
  generalize (ws.alloc (.cells #[.slice (some ⟨w.heap.size + 1, 0, none⟩) m m] 22)) = wx at *
  go_loopw [7, 20] (fun sv iv wr => ∃ (t : Nat) (a' : Option Addr) (c' : Nat) (vs : List Value) (RA : Nat → Option Addr) (RC : Nat → Nat), t ≤ n ∧ iv = .int .i64 t ∧ sv = .slice a' (t + 1) c' ∧ Hid (vs.length = t + 1) ∧ Hid (OwnV (w.heap.size + 1) wr a' c' vs) ∧ Hid (KeptQ w.heap.size wr a' vs (rowP p A B m i) RA RC (t + 1)) ∧ Hid (Below w.heap.size w wr) ∧ Hid (wr.cell? ⟨w.heap.size, 0, none⟩ = some (.int .i64 p) ∧ wr.cell? ⟨w.heap.size, 1, none⟩ = some (.slice a m c) ∧ wr.cell? ⟨w.heap.size, 2, none⟩ = some (.slice b m d)) ∧ wr.heap.size > w.heap.size + 1) (fun _ iv _ => n - (intOf iv).toNat)
  case atStart => exact ⟨0, _, _, _, _, _, by omega, rfl, rfl, hide rfl, Z0, Z1, Z2, Z3, Z4⟩
  case round =>
    obtain ⟨t, a', c', vs, RA, RC, ht, rfl, rfl, hvl, hO, hK, hW, hF, hz⟩ := hrel
    clear Z0 Z1 Z2 Z3 Z4
    by_cases hlt : t < n
    · have hlt' : (t : Int) < (n : Int) := by omega
      have q0 : (0 : Int) ≤ (t : Int) := by omega
      have q1 : (t : Int) < (t : Int) + 1 := by omega
      obtain ⟨G, rfl, hcG⟩ := hO.out.at (by rw [hvl.out]; omega)
      have ec := hcG t (by rw [hvl.out]; omega)
      rw [hK.out.1 t (by omega)] at ec
      rw [rowP_len] at ec
      have hOt := hK.out.2.1 t (by omega)
      obtain ⟨f0, f1, f2⟩ := hF.out
      have hbd := (Below.refl wr.heap.size wr).drew
      have sA := hide (hA.below hW.out)
      have sB := hide (hB.below hW.out)
      have sR := hide hOt.sl
      have hRr := hide (rowP_rng HG.out.lo A B m i t)
      have hzw := hW.out.size
      clear hcG hOt
      go_upto_region 6 with fail
      refine region_E (fun w' => w'.cell? ⟨w.heap.size, 0, none⟩ = some (.int .i64 p) ∧ w'.cell? ⟨w.heap.size, 1, none⟩ = some (.slice a m c) ∧ w'.cell? ⟨w.heap.size, 2, none⟩ = some (.slice b m d) ∧ w'.cell? ⟨G, t, none⟩ = some (.slice (RA t) m (RC t))) 100 (by kernel_rfl) ⟨cell_be hbd f0, cell_be hbd f1, cell_be hbd f2, cell_be hbd ec⟩ ?_
      intro hS
      refine anyE_takeH 0 rfl (by kernel_rfl) (fun _ _ _ h => h) hS (by rfl) (v := ?_) ?_ ?_
      rotate_left
      · intro w' hSw; (try dsimp only at hSw); go_simp; (try with_reducible rfl)
      try simp only [Act.put, List.setIfInBounds_toArray, List.set_cons_zero, List.set_cons_succ]
      refine anyE_takeH 1 rfl (by kernel_rfl) (fun _ _ _ h => h) hS (by rfl) (v := ?_) ?_ ?_
      rotate_left
      · intro w' hSw; (try dsimp only at hSw); go_simp; (try with_reducible rfl)
      try simp only [Act.put, List.setIfInBounds_toArray, List.set_cons_zero, List.set_cons_succ]
      refine anyE_takeH 2 rfl (by kernel_rfl) (fun _ _ _ h => h) hS (by rfl) (v := ?_) ?_ ?_
      rotate_left
      · intro w' hSw; (try dsimp only at hSw); go_simp; (try with_reducible rfl)
      try simp only [Act.put, List.setIfInBounds_toArray, List.set_cons_zero, List.set_cons_succ]
      refine anyE_takeH 3 rfl (by kernel_rfl) (fun _ _ _ h => h) hS (by rfl) (v := ?_) ?_ ?_
      rotate_left
      · intro w' hSw; (try dsimp only at hSw); go_simp; (try with_reducible rfl)
      try simp only [Act.put, List.setIfInBounds_toArray, List.set_cons_zero, List.set_cons_succ]
      refine anyE_takeH 4 rfl (by kernel_rfl) (fun _ _ _ h => h) hS (by rfl) (v := ?_) ?_ ?_
      rotate_left
      · intro w' hSw; (try dsimp only at hSw); go_simp; (try with_reducible rfl)
      try simp only [Act.put, List.setIfInBounds_toArray, List.set_cons_zero, List.set_cons_succ]
      refine anyE_takeH 5 rfl (by kernel_rfl) (fun _ _ _ h => h) hS (by rfl) (v := ?_) ?_ ?_
      rotate_left
      · intro w' hSw; (try dsimp only at hSw); go_simp; (try with_reducible rfl)
      try simp only [Act.put, List.setIfInBounds_toArray, List.set_cons_zero, List.set_cons_succ]
      refine anyE_oneL 6 (by kernel_rfl) rfl (fun K' hK' => ?_)
      go_simp
      refine (spread_any p a m c A b d B (RA t) (RC t) (rowP p A B m i t) _ (sA.out.below hbd) (sB.out.below hbd) (by have := sR.out.below hbd; rwa [rowP_len] at this) hm HG.out hRr.out).mono ?_
      rintro e w3 ⟨a3, rfl, o3, t3⟩
      dsimp only
      have hm3 := bnext hbd t3
      clear hS
      have hS : w3.cell? ⟨w.heap.size, 0, none⟩ = some (.int .i64 p) ∧ w3.cell? ⟨w.heap.size, 1, none⟩ = some (.slice a m c) ∧ w3.cell? ⟨w.heap.size, 2, none⟩ = some (.slice b m d) ∧ w3.cell? ⟨G, t, none⟩ = some (.slice (RA t) m (RC t)) := ⟨cell_be hm3 f0, cell_be hm3 f1, cell_be hm3 f2, cell_be hm3 ec⟩
      refine hK'.out _ _ hS ?_
      clear hK' K'
      try simp only [Act.put, List.setIfInBounds_toArray, List.set_cons_zero, List.set_cons_succ]
      have hba := bl1 w3 (.cells #[.slice a3 m m] 22)
      have hcl : (w3.alloc (.cells #[.slice a3 m m] 22)).cell? ⟨w3.heap.size, 0, none⟩ = some (.slice a3 m m) := by simp [go_sem]
      have hza : (w3.alloc (.cells #[.slice a3 m m] 22)).heap.size = w3.heap.size + 1 := by simp
      have HZa := hide hza
      have hS2 : (w3.alloc (.cells #[.slice a3 m m] 22)).cell? ⟨w.heap.size, 0, none⟩ = some (.int .i64 p) ∧ (w3.alloc (.cells #[.slice a3 m m] 22)).cell? ⟨w.heap.size, 1, none⟩ = some (.slice a m c) ∧ (w3.alloc (.cells #[.slice a3 m m] 22)).cell? ⟨w.heap.size, 2, none⟩ = some (.slice b m d) ∧ (w3.alloc (.cells #[.slice a3 m m] 22)).cell? ⟨G, t, none⟩ = some (.slice (RA t) m (RC t)) := ⟨cell_be hba hS.1, cell_be hba hS.2.1, cell_be hba hS.2.2.1, cell_be hba hS.2.2.2⟩
      refine anyE_oneL 7 (by kernel_rfl) rfl (fun K' hK' => ?_)
      go_simp
      refine hK'.out _ _ hS2 ?_
      clear hK' K'
      try simp only [Act.put, List.setIfInBounds_toArray, List.set_cons_zero, List.set_cons_succ]
      have hOa := hide ((hO.out.below hm3).below hba)
      have hblt := hide (OwnV.blkLtQ hO.out)
      refine anyE_oneL 8 (by kernel_rfl) rfl (fun K' hK' => ?_)
      refine step_appVK rfl _ _ rfl (w.heap.size + 1) G _ _ vs rfl hvl.out.symm hOa.out _ _ _ rfl hcl rfl (by omega) (by have := HZa.out; have := hm3.size; omega) ?_
      intro ad' cap' w' hown' hgr hloc hkp
      have hvl2 := hide (show (vs ++ [Value.slice a3 m m]).length = t + 1 + 1 by rw [List.length_append, hvl.out]; rfl)
      have hW3 := hW.out.trans (hm3.mono hzw)
      have hW2 : Hid (Below w.heap.size w w') := hide ((hW3.trans (hba.mono hW3.size)).grown hgr (by have := HZa.out; have := hm3.size; omega) (fun k e => by have := OwnV.blkG hOa.out k e; omega))
      have z3 := hm3.size
      have hbg := OwnV.blkG hOa.out
      have hK2 : Hid (KeptQ w.heap.size w' ad' (vs ++ [Value.slice a3 m m]) (rowP p A B m i) (fun j => if j = t + 1 then a3 else RA j) (fun j => if j = t + 1 then m else RC j) (t + 1 + 1)) := hide (by
        have o4 : Own wr.heap.size w3 a3 m (rowP p A B m i (t + 1)) := o3.mono hbd.size
        have k := hK.out.push (X := rowP p A B m i) (ad' := ad') (w' := w') hvl.out hblt.out hzw (hm3) o4 hba (by omega) hgr hloc
        rw [rowP_len] at k
        exact k)
      have hGw : (some G : Option Nat) ≠ some w.heap.size := fun e => by
        have := hbg G rfl
        simp only [Option.some.injEq] at e
        omega
      have hF2 := hide (And.intro (cell_ne hgr hS2.1 hGw) (And.intro (cell_ne hgr hS2.2.1 hGw) (cell_ne hgr hS2.2.2.1 hGw)))
      have hzn : w'.heap.size > w.heap.size + 1 := by have := hgr.size; omega
      have Hown := hide hown'
      have hS3 : w'.cell? ⟨w.heap.size, 0, none⟩ = some (.int .i64 p) ∧ w'.cell? ⟨w.heap.size, 1, none⟩ = some (.slice a m c) ∧ w'.cell? ⟨w.heap.size, 2, none⟩ = some (.slice b m d) ∧ w'.cell? ⟨G, t, none⟩ = some (.slice (RA t) m (RC t)) := by
        refine ⟨hF2.out.1, hF2.out.2.1, hF2.out.2.2, ?_⟩
        rw [hkp t (by rw [hvl.out]; omega), hK.out.1 t (by omega), rowP_len]
      refine hK'.out _ _ hS3 ?_
      clear hK' K' hS hS2 hkp hown' hgr hloc hOa hO hK hblt hcl hba hm3 t3 o3 hbd f0 f1 f2 ec sA sB sR
      try simp only [Act.put, List.setIfInBounds_toArray, List.set_cons_zero, List.set_cons_succ]
      refine anyE_oneL 9 (by kernel_rfl) rfl (fun K' hK' => ?_)
      go_simp
      refine hK'.out _ _ hS3 (anyE_doneL (by kernel_rfl) ?_)
      clear hK' K' hS3
      try simp only [Act.put, List.setIfInBounds_toArray, List.set_cons_zero, List.set_cons_succ]
      go_wp2
      go_roundw
      case rel => exact ⟨t + 1, ad', cap', _, _, _, by omega, by go_num, by rw [hvl.out], hvl2, Hown, hK2, hW2, hF2, hzn⟩
      case measure => simp [intOf]; omega
    · obtain rfl : t = n := by omega
      go_wp2
      go_ret
      exact ⟨a', c', vs, RA, RC, rfl, hvl.out, hO.out.mono (by omega), hK.out, hW.out⟩
set_option maxRecDepth 100000 in
set_option maxHeartbeats 1600000 in
theorem sum_any (p : Int) (a : Option Addr) (m c : Nat) (A : List Int) (b : Option Addr) (d : Nat) (B : List Int) (i n k : Nat) (w : World)
    (hA : SL w a m c A) (hB : SL w b m d B) (hm : m ≤ 1000) (hi : i ≤ 1000) (hk : k ≤ 1000) (hn : n ≤ 1000) (hG : GW p A B) :
    Calls Try.prog 62 #[jac p a m c b m d, .int .i64 n, .int .i64 i, .int .i64 k] w fun e w' => e = .returned (.int .i64 (sumP p A B m i n k)) ∧ Below w.heap.size w w' := by
  have HG := hide hG
  have hb0 := bl1 w (.cells #[.int .i64 p, .slice a m c, .slice b m d] 78)
  have f0 : (w.alloc (.cells #[.int .i64 p, .slice a m c, .slice b m d] 78)).cell? ⟨w.heap.size, 0, none⟩ = some (.int .i64 p) := by simp [go_sem]
  have f1 : (w.alloc (.cells #[.int .i64 p, .slice a m c, .slice b m d] 78)).cell? ⟨w.heap.size, 1, none⟩ = some (.slice a m c) := by simp [go_sem]
  have f2 : (w.alloc (.cells #[.int .i64 p, .slice a m c, .slice b m d] 78)).cell? ⟨w.heap.size, 2, none⟩ = some (.slice b m d) := by simp [go_sem]
  clear hG
  by_cases h1 : i < m
  rotate_left
  · have hz := hide (sumP_out p A B m i n k (.inl (by omega)))
    have H1 := hide h1
    clear h1
    go_enter Try.func62, Try.ntmps62
    go_wp2_with fail
    refine (has_f p a m c b m d (i : Int) _ (by omega) (by have := H1.out; omega)).mono ?_
    rintro e w1 ⟨rfl, t1⟩
    go_wp2
    go_ret
    exact ⟨ret_int hz.out.symm, bnext hb0 t1⟩
  by_cases h2 : k < m
  rotate_left
  · have hz := hide (sumP_out p A B m i n k (.inr (by omega)))
    have H2 := hide h2
    clear h2
    go_enter Try.func62, Try.ntmps62
    go_wp2_with fail
    refine (has_t p a m c b m d (i : Int) _ (by omega) (by omega) (by omega)).mono ?_
    rintro e w1 ⟨rfl, t1⟩
    replace f0 := cell_be t1 f0
    replace f1 := cell_be t1 f1
    replace f2 := cell_be t1 f2
    go_wp2_with fail
    refine (has_f p a m c b m d (k : Int) _ (by omega) (by have := H2.out; omega)).mono ?_
    rintro e w2 ⟨rfl, t2⟩
    go_wp2
    go_ret
    exact ⟨ret_int hz.out.symm, bnext (bnext hb0 t1) t2⟩
  go_enter Try.func62, Try.ntmps62
  go_wp2_with fail
  refine (has_t p a m c b m d (i : Int) _ (by omega) (by omega) (by omega)).mono ?_
  rintro e w1 ⟨rfl, t1⟩
  replace f0 := cell_be t1 f0
  replace f1 := cell_be t1 f1
  replace f2 := cell_be t1 f2
  go_wp2_with fail
  refine (has_t p a m c b m d (k : Int) _ (by omega) (by omega) (by omega)).mono ?_
  rintro e w2 ⟨rfl, t2⟩
  replace f0 := cell_be t2 f0
  replace f1 := cell_be t2 f1
  replace f2 := cell_be t2 f2
  have hB2 := bnext (bnext hb0 t1) t2
  have sA := hide (hA.below hB2)
  have sB := hide (hB.below hB2)
  clear hA hB hb0 t1 t2
  go_wp2_with fail
  refine (sumsFrom_any p a m c A b d B i n _ sA.out sB.out hm h1 hn HG.out).mono ?_
  rintro e w3 ⟨a', c', vs, RA, RC, rfl, hvl, hO, hK, t3⟩
  obtain ⟨G, rfl, hcG⟩ := hO.at (by omega)
  have ec := hcG n (by omega)
  rw [hK.1 n (by omega), rowP_len] at ec
  have hr := (hK.2.1 n (by omega)).sl
  rw [rowP_len] at hr
  obtain ⟨g, o, ha, hg, hc⟩ := hr.at (by omega)
  rw [ha] at ec
  have e2 := hc k h2
  have hs : Hid (sumP p A B m i n k = (rowP p A B m i n).getD k 0) := hide rfl
  obtain ⟨X, hX⟩ : ∃ X, (rowP p A B m i n).getD k 0 = X := ⟨_, rfl⟩
  rw [hX] at e2 hs
  have h1' : (i : Int) < (m : Int) := by omega
  have h2' : (k : Int) < (m : Int) := by omega
  have h3 : (n : Int) < (n : Int) + 1 := by omega
  have hB3 := bnext hB2 t3
  clear hcG hr hc hX hO hK hvl ha
  go_wp2
  go_ret
  exact ⟨ret_int hs.out.symm, hB3⟩
end Go.Proofs.Ytcadiepghhnbeaa
