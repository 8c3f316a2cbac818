/- Merged texts. -/
import Derived.Test.YthahcnmfaghohaaYTC11
import Derived.Test.YthahcnmfaghohaaYTC24
import Derived.Test.YthahcnmfaghohaaYTC7
/- Contracts: the rows of sums on a ground (program): sumsFrom, sum. -/
namespace Go.Proofs.Ythahcnmfaghohaa
open Go.RowKit
set_option linter.unusedVariables false
set_option linter.unusedSimpArgs false

theorem OwnV.otherQ {B cap : Nat} {w : World} {a : Option Addr} {vs : List Value} (h : OwnV B w a cap vs) {x : Addr} (hne : blk a ≠ some x.block) (u : Value) : OwnV B (w.setCell x u) a cap vs := by
  refine ⟨h.1, ?_⟩
  rcases h.2 with h' | ⟨g, c, cur, h1, h2, h3, h4⟩
  · exact .inl h'
  · refine .inr ⟨g, c, cur, h1, h2, (Below.heap_setCell _ _ _ _ (fun e => ?_)).trans h3, h4⟩
    simp only [Value.slice.injEq] at h1
    exact hne (by rw [h1.1, e]; rfl)
set_option maxRecDepth 100000 in
set_option maxHeartbeats 3200000 in
theorem sumsFrom_any (p : Int) (a : Option Addr) (m c : Nat) (A : List Int) (b : Option Addr) (d : Nat) (B : List Int) (i n : Nat) (w : World)
    (hA : SL w a m c A) (hB : SL w b m d B) (hm : m ≤ 1000) (hi : i < m) (hn : n ≤ 1000) (hG : GW p A B) :
    Calls Try.prog 67 #[jac p a m c b m d, .int .i64 i, .int .i64 n] w fun e w' => ∃ (a' : Option Addr) (c' : Nat) (vs : List Value) (RA : Nat → Option Addr) (RC : Nat → Nat),
      e = .returned (.slice a' (n + 1) c') ∧ vs.length = n + 1 ∧ OwnV w.heap.size w' a' c' vs ∧ KeptQ w.heap.size w' a' vs (rowP p A B m i) RA RC (n + 1) ∧ Below w.heap.size w w' := by
  have HG := hide hG
  have hb0 := bl1 w (.cells #[.int .i64 p, .slice a m c, .slice b m d] 52)
  have f0 : (w.alloc (.cells #[.int .i64 p, .slice a m c, .slice b m d] 52)).cell? ⟨w.heap.size, 0, none⟩ = some (.int .i64 p) := by simp [go_sem]
  have f1 : (w.alloc (.cells #[.int .i64 p, .slice a m c, .slice b m d] 52)).cell? ⟨w.heap.size, 1, none⟩ = some (.slice a m c) := by simp [go_sem]
  have f2 : (w.alloc (.cells #[.int .i64 p, .slice a m c, .slice b m d] 52)).cell? ⟨w.heap.size, 2, none⟩ = some (.slice b m d) := by simp [go_sem]
  have hi' : (i : Int) < (m : Int) := by omega
  clear hG
  go_enter Try.func67, Try.ntmps67
  go_wp2_with (at_make; refine wp_make rfl _ _ rfl _ _ m rfl rfl rfl rfl (by omega) ?_; intro w1 hrow hb hsz; have hB1 := bnext hb0 hb; have g0 := cell_be hb f0; have g1 := cell_be hb f1; have g2 := cell_be hb f2; have e1 := hrow.out.cell i (by rw [List.length_replicate]; exact hi); have fr := hrow.out.free i; have hrow2 := hide (show RowI w1 (w.heap.size + 1) (List.replicate m 0) from (by simpa using hrow.out)); have e2 := cell_al (show w1.cell? ⟨w.heap.size + 1, i, none⟩ = some (.int .i64 0) from (by rw [zeroD] at e1; simpa using e1)) (.cells #[.slice (some ⟨w.heap.size + 1, 0, none⟩) m m] 22); have fr2 := frz_al (show w1.cell? ⟨w.heap.size + 1, i, none⟩ = some (.int .i64 0) from (by rw [zeroD] at e1; simpa using e1)) (by simpa using fr) (.cells #[.slice (some ⟨w.heap.size + 1, 0, none⟩) m m] 22); have hz1 : w.heap.size + 1 < w1.heap.size := (by simpa using hsz); clear e1 fr hrow hsz)
  obtain ⟨ws, hws⟩ : ∃ ws, ws = w1.setCell ⟨w.heap.size + 1, i, none⟩ (.int .i64 1) := ⟨_, rfl⟩
  have hzs : ws.heap.size = w1.heap.size := by rw [hws]; simp
  have hRs := hrow2.out.set i 1
  have hBs := hB1.setCell (p := ⟨w.heap.size + 1, i, none⟩) (Nat.le_succ _) (.int .i64 1)
  have g0' := cell_set2 (a := ⟨w.heap.size + 1, i, none⟩) g0 (by simp) (.int .i64 1)
  have g1' := cell_set2 (a := ⟨w.heap.size + 1, i, none⟩) g1 (by simp) (.int .i64 1)
  have g2' := cell_set2 (a := ⟨w.heap.size + 1, i, none⟩) g2 (by simp) (.int .i64 1)
  rw [← hws] at hRs hBs g0' g1' g2' ⊢
  have hlr : ((List.replicate m (0 : Int)).set i 1).length = m := by simp
  have hOr := hRs.own' (B := w.heap.size) (by omega) (by rw [hlr]; unfold maxLen; omega)
  rw [hlr] at hOr
  have ba := bl1 ws (.cells #[.slice (some ⟨w.heap.size + 1, 0, none⟩) m m] 22)
  have Z0 : Hid (OwnV (w.heap.size + 1) (ws.alloc (.cells #[.slice (some ⟨w.heap.size + 1, 0, none⟩) m m] 22)) (some ⟨ws.heap.size, 0, none⟩) 1 [.slice (some ⟨w.heap.size + 1, 0, none⟩) m m]) := hide (World.ownsRow_lit ws (base := w.heap.size + 1) (e := 22) (size := 1) #[.slice (some ⟨w.heap.size + 1, 0, none⟩) m m] 1 (by omega) (by decide) rfl)
  have Z1 : Hid (KeptQ w.heap.size (ws.alloc (.cells #[.slice (some ⟨w.heap.size + 1, 0, none⟩) m m] 22)) (some ⟨ws.heap.size, 0, none⟩) [.slice (some ⟨w.heap.size + 1, 0, none⟩) m m] (rowP p A B m i) (fun _ => some ⟨w.heap.size + 1, 0, none⟩) (fun _ => m) 1) := hide (by
    refine ⟨fun j hj => ?_, fun j hj => ?_, fun j hj q hq => ?_, fun x y hxy hy => by omega⟩
    · obtain rfl : j = 0 := by omega
      simp [rowP_len]
    · obtain rfl : j = 0 := by omega
      exact hOr.below ba
    · simp only [blk, Option.some.injEq] at hq ⊢
      intro e
      simp at e
      omega)
  have Z2 : Hid (Below w.heap.size w (ws.alloc (.cells #[.slice (some ⟨w.heap.size + 1, 0, none⟩) m m] 22))) := hide (hBs.trans (ba.mono (by omega)))
  have Z3 : Hid ((ws.alloc (.cells #[.slice (some ⟨w.heap.size + 1, 0, none⟩) m m] 22)).cell? ⟨w.heap.size, 0, none⟩ = some (.int .i64 p) ∧ (ws.alloc (.cells #[.slice (some ⟨w.heap.size + 1, 0, none⟩) m m] 22)).cell? ⟨w.heap.size, 1, none⟩ = some (.slice a m c) ∧ (ws.alloc (.cells #[.slice (some ⟨w.heap.size + 1, 0, none⟩) m m] 22)).cell? ⟨w.heap.size, 2, none⟩ = some (.slice b m d)) := hide ⟨cell_be ba g0', cell_be ba g1', cell_be ba g2'⟩
  rw [← hzs]
  have Z4 : (ws.alloc (.cells #[.slice (some ⟨w.heap.size + 1, 0, none⟩) m m] 22)).heap.size > w.heap.size + 1 := Nat.lt_of_lt_of_le (show w.heap.size + 1 < ws.heap.size by omega) ba.size
  have hzs1 : w.heap.size + 1 < ws.heap.size := by omega
  clear hzs hws hRs hBs g0' g1' g2' g0 g1 g2 hlr hOr ba e2 fr2 f0 f1 f2 hb hb0 hrow2 hB1
  generalize (ws.alloc (.cells #[.slice (some ⟨w.heap.size + 1, 0, none⟩) m m] 22)) = wx at *
  go_loopw [7, 20] (fun sv iv wr => ∃ (t : Nat) (a' : Option Addr) (c' : Nat) (vs : List Value) (RA : Nat → Option Addr) (RC : Nat → Nat), t ≤ n ∧ iv = .int .i64 t ∧ sv = .slice a' (t + 1) c' ∧ Hid (vs.length = t + 1) ∧ Hid (OwnV (w.heap.size + 1) wr a' c' vs) ∧ Hid (KeptQ w.heap.size wr a' vs (rowP p A B m i) RA RC (t + 1)) ∧ Hid (Below w.heap.size w wr) ∧ Hid (wr.cell? ⟨w.heap.size, 0, none⟩ = some (.int .i64 p) ∧ wr.cell? ⟨w.heap.size, 1, none⟩ = some (.slice a m c) ∧ wr.cell? ⟨w.heap.size, 2, none⟩ = some (.slice b m d)) ∧ wr.heap.size > w.heap.size + 1) (fun _ iv _ => n - (intOf iv).toNat)
  case atStart => exact ⟨0, _, _, _, _, _, by omega, rfl, rfl, hide rfl, Z0, Z1, Z2, Z3, Z4⟩
  case round =>
    obtain ⟨t, a', c', vs, RA, RC, ht, rfl, rfl, hvl, hO, hK, hW, hF, hz⟩ := hrel
    clear Z0 Z1 Z2 Z3 Z4
    by_cases hlt : t < n
    · have hlt' : (t : Int) < (n : Int) := by omega
      have q0 : (0 : Int) ≤ (t : Int) := by omega
      have q1 : (t : Int) < (t : Int) + 1 := by omega
      obtain ⟨G, rfl, hcG⟩ := hO.out.at (by rw [hvl.out]; omega)
      have ec := hcG t (by rw [hvl.out]; omega)
      rw [hK.out.1 t (by omega)] at ec
      rw [rowP_len] at ec
      have hOt := hK.out.2.1 t (by omega)
      obtain ⟨f0, f1, f2⟩ := hF.out
      have hbd := (Below.refl wr.heap.size wr).drew
      have sA := hide (hA.below hW.out)
      have sB := hide (hB.below hW.out)
      have sR := hide hOt.sl
      have hRr := hide (rowP_rng HG.out.lo A B m i t)
      have hzw := hW.out.size
      clear hcG hOt
      go_upto_region 6 with fail
      refine region_E (fun w' => w'.cell? ⟨w.heap.size, 0, none⟩ = some (.int .i64 p) ∧ w'.cell? ⟨w.heap.size, 1, none⟩ = some (.slice a m c) ∧ w'.cell? ⟨w.heap.size, 2, none⟩ = some (.slice b m d) ∧ w'.cell? ⟨G, t, none⟩ = some (.slice (RA t) m (RC t))) 100 (by kernel_rfl) ⟨cell_be hbd f0, cell_be hbd f1, cell_be hbd f2, cell_be hbd ec⟩ ?_
      intro hS
      refine anyE_takeH 0 rfl (by kernel_rfl) (fun _ _ _ h => h) hS (by rfl) (v := ?_) ?_ ?_
      rotate_left
      · intro w' hSw; (try dsimp only at hSw); go_simp; (try with_reducible rfl)
      try simp only [Act.put, List.setIfInBounds_toArray, List.set_cons_zero, List.set_cons_succ]
      refine anyE_takeH 1 rfl (by kernel_rfl) (fun _ _ _ h => h) hS (by rfl) (v := ?_) ?_ ?_
      rotate_left
      · intro w' hSw; (try dsimp only at hSw); go_simp; (try with_reducible rfl)
      try simp only [Act.put, List.setIfInBounds_toArray, List.set_cons_zero, List.set_cons_succ]
      refine anyE_takeH 2 rfl (by kernel_rfl) (fun _ _ _ h => h) hS (by rfl) (v := ?_) ?_ ?_
      rotate_left
      · intro w' hSw; (try dsimp only at hSw); go_simp; (try with_reducible rfl)
      try simp only [Act.put, List.setIfInBounds_toArray, List.set_cons_zero, List.set_cons_succ]
      refine anyE_takeH 3 rfl (by kernel_rfl) (fun _ _ _ h => h) hS (by rfl) (v := ?_) ?_ ?_
      rotate_left
      · intro w' hSw; (try dsimp only at hSw); go_simp; (try with_reducible rfl)
      try simp only [Act.put, List.setIfInBounds_toArray, List.set_cons_zero, List.set_cons_succ]
      refine anyE_takeH 4 rfl (by kernel_rfl) (fun _ _ _ h => h) hS (by rfl) (v := ?_) ?_ ?_
      rotate_left
      · intro w' hSw; (try dsimp only at hSw); go_simp; (try with_reducible rfl)
      try simp only [Act.put, List.setIfInBounds_toArray, List.set_cons_zero, List.set_cons_succ]
      refine anyE_takeH 5 rfl (by kernel_rfl) (fun _ _ _ h => h) hS (by rfl) (v := ?_) ?_ ?_
      rotate_left
      · intro w' hSw; (try dsimp only at hSw); go_simp; (try with_reducible rfl)
      try simp only [Act.put, List.setIfInBounds_toArray, List.set_cons_zero, List.set_cons_succ]
      refine anyE_oneL 6 (by kernel_rfl) rfl (fun K' hK' => ?_)
      go_simp
      refine (spread_any p a m c A b d B (RA t) (RC t) (rowP p A B m i t) _ (sA.out.below hbd) (sB.out.below hbd) (by have := sR.out.below hbd; rwa [rowP_len] at this) hm HG.out hRr.out).mono ?_
      rintro e w3 ⟨a3, rfl, o3, t3⟩
      dsimp only
      have hm3 := bnext hbd t3
      clear hS
      have hS : w3.cell? ⟨w.heap.size, 0, none⟩ = some (.int .i64 p) ∧ w3.cell? ⟨w.heap.size, 1, none⟩ = some (.slice a m c) ∧ w3.cell? ⟨w.heap.size, 2, none⟩ = some (.slice b m d) ∧ w3.cell? ⟨G, t, none⟩ = some (.slice (RA t) m (RC t)) := ⟨cell_be hm3 f0, cell_be hm3 f1, cell_be hm3 f2, cell_be hm3 ec⟩
      refine hK'.out _ _ hS ?_
      clear hK' K'
      try simp only [Act.put, List.setIfInBounds_toArray, List.set_cons_zero, List.set_cons_succ]
      have hba := bl1 w3 (.cells #[.slice a3 m m] 22)
      have hcl : (w3.alloc (.cells #[.slice a3 m m] 22)).cell? ⟨w3.heap.size, 0, none⟩ = some (.slice a3 m m) := by simp [go_sem]
      have hza : (w3.alloc (.cells #[.slice a3 m m] 22)).heap.size = w3.heap.size + 1 := by simp
      have HZa := hide hza
      have hS2 : (w3.alloc (.cells #[.slice a3 m m] 22)).cell? ⟨w.heap.size, 0, none⟩ = some (.int .i64 p) ∧ (w3.alloc (.cells #[.slice a3 m m] 22)).cell? ⟨w.heap.size, 1, none⟩ = some (.slice a m c) ∧ (w3.alloc (.cells #[.slice a3 m m] 22)).cell? ⟨w.heap.size, 2, none⟩ = some (.slice b m d) ∧ (w3.alloc (.cells #[.slice a3 m m] 22)).cell? ⟨G, t, none⟩ = some (.slice (RA t) m (RC t)) := ⟨cell_be hba hS.1, cell_be hba hS.2.1, cell_be hba hS.2.2.1, cell_be hba hS.2.2.2⟩
      refine anyE_oneL 7 (by kernel_rfl) rfl (fun K' hK' => ?_)
      go_simp
      refine hK'.out _ _ hS2 ?_
      clear hK' K'
      try simp only [Act.put, List.setIfInBounds_toArray, List.set_cons_zero, List.set_cons_succ]
      have hOa := hide ((hO.out.below hm3).below hba)
      have hblt := hide (OwnV.blkLtQ hO.out)
      refine anyE_oneL 8 (by kernel_rfl) rfl (fun K' hK' => ?_)
      refine step_appVK rfl _ _ rfl (w.heap.size + 1) G _ _ vs rfl hvl.out.symm hOa.out _ _ _ rfl hcl rfl (by omega) (by have := HZa.out; have := hm3.size; omega) ?_
      intro ad' cap' w' hown' hgr hloc hkp
      have hvl2 := hide (show (vs ++ [Value.slice a3 m m]).length = t + 1 + 1 by rw [List.length_append, hvl.out]; rfl)
      have hW3 := hW.out.trans (hm3.mono hzw)
      have hW2 : Hid (Below w.heap.size w w') := hide ((hW3.trans (hba.mono hW3.size)).grown hgr (by have := HZa.out; have := hm3.size; omega) (fun k e => by have := OwnV.blkG hOa.out k e; omega))
      have z3 := hm3.size
      have hbg := OwnV.blkG hOa.out
      have hK2 : Hid (KeptQ w.heap.size w' ad' (vs ++ [Value.slice a3 m m]) (rowP p A B m i) (fun j => if j = t + 1 then a3 else RA j) (fun j => if j = t + 1 then m else RC j) (t + 1 + 1)) := hide (by
        have o4 : Own wr.heap.size w3 a3 m (rowP p A B m i (t + 1)) := o3.mono hbd.size
        have k := hK.out.push (X := rowP p A B m i) (ad' := ad') (w' := w') hvl.out hblt.out hzw (hm3) o4 hba (by omega) hgr hloc
        rw [rowP_len] at k
        exact k)
      have hGw : (some G : Option Nat) ≠ some w.heap.size := fun e => by
        have := hbg G rfl
        simp only [Option.some.injEq] at e
        omega
      have hF2 := hide (And.intro (cell_ne hgr hS2.1 hGw) (And.intro (cell_ne hgr hS2.2.1 hGw) (cell_ne hgr hS2.2.2.1 hGw)))
      have hzn : w'.heap.size > w.heap.size + 1 := by have := hgr.size; omega
      have Hown := hide hown'
      have hS3 : w'.cell? ⟨w.heap.size, 0, none⟩ = some (.int .i64 p) ∧ w'.cell? ⟨w.heap.size, 1, none⟩ = some (.slice a m c) ∧ w'.cell? ⟨w.heap.size, 2, none⟩ = some (.slice b m d) ∧ w'.cell? ⟨G, t, none⟩ = some (.slice (RA t) m (RC t)) := by
        refine ⟨hF2.out.1, hF2.out.2.1, hF2.out.2.2, ?_⟩
        rw [hkp t (by rw [hvl.out]; omega), hK.out.1 t (by omega), rowP_len]
      refine hK'.out _ _ hS3 ?_
      clear hK' K' hS hS2 hkp hown' hgr hloc hOa hO hK hblt hcl hba hm3 t3 o3 hbd f0 f1 f2 ec sA sB sR
      try simp only [Act.put, List.setIfInBounds_toArray, List.set_cons_zero, List.set_cons_succ]
      refine anyE_oneL 9 (by kernel_rfl) rfl (fun K' hK' => ?_)
      go_simp
      refine hK'.out _ _ hS3 (anyE_doneL (by kernel_rfl) ?_)
      clear hK' K' hS3
      try simp only [Act.put, List.setIfInBounds_toArray, List.set_cons_zero, List.set_cons_succ]
      go_wp2
      go_roundw
      case rel => exact ⟨t + 1, ad', cap', _, _, _, by omega, by go_num, by rw [hvl.out], hvl2, Hown, hK2, hW2, hF2, hzn⟩
      case measure => simp [intOf]; omega
    · obtain rfl : t = n := by omega
      go_wp2
      go_ret
      exact ⟨a', c', vs, RA, RC, rfl, hvl.out, hO.out.mono (by omega), hK.out, hW.out⟩
set_option maxRecDepth 100000 in
set_option maxHeartbeats 1600000 in
theorem sum_any (p : Int) (a : Option Addr) (m c : Nat) (A : List Int) (b : Option Addr) (d : Nat) (B : List Int) (i n k : Nat) (w : World)
    (hA : SL w a m c A) (hB : SL w b m d B) (hm : m ≤ 1000) (hi : i ≤ 1000) (hk : k ≤ 1000) (hn : n ≤ 1000) (hG : GW p A B) :
    Calls Try.prog 61 #[jac p a m c b m d, .int .i64 n, .int .i64 i, .int .i64 k] w fun e w' => e = .returned (.int .i64 (sumP p A B m i n k)) ∧ Below w.heap.size w w' := by
  have HG := hide hG
  have hb0 := bl1 w (.cells #[.int .i64 p, .slice a m c, .slice b m d] 52)
  have f0 : (w.alloc (.cells #[.int .i64 p, .slice a m c, .slice b m d] 52)).cell? ⟨w.heap.size, 0, none⟩ = some (.int .i64 p) := by simp [go_sem]
  have f1 : (w.alloc (.cells #[.int .i64 p, .slice a m c, .slice b m d] 52)).cell? ⟨w.heap.size, 1, none⟩ = some (.slice a m c) := by simp [go_sem]
  have f2 : (w.alloc (.cells #[.int .i64 p, .slice a m c, .slice b m d] 52)).cell? ⟨w.heap.size, 2, none⟩ = some (.slice b m d) := by simp [go_sem]
  clear hG
  by_cases h1 : i < m
  rotate_left
  · have hz := hide (sumP_out p A B m i n k (.inl (by omega)))
    have H1 := hide h1
    clear h1
    go_enter Try.func61, Try.ntmps61
    go_wp2_with fail
    refine (has_f p a m c b m d (i : Int) _ (by omega) (by have := H1.out; omega)).mono ?_
    rintro e w1 ⟨rfl, t1⟩
    go_wp2
    go_ret
    exact ⟨ret_int hz.out.symm, bnext hb0 t1⟩
  by_cases h2 : k < m
  rotate_left
  · have hz := hide (sumP_out p A B m i n k (.inr (by omega)))
    have H2 := hide h2
    clear h2
    go_enter Try.func61, Try.ntmps61
    go_wp2_with fail
    refine (has_t p a m c b m d (i : Int) _ (by omega) (by omega) (by omega)).mono ?_
    rintro e w1 ⟨rfl, t1⟩
    replace f0 := cell_be t1 f0
    replace f1 := cell_be t1 f1
    replace f2 := cell_be t1 f2
    go_wp2_with fail
    refine (has_f p a m c b m d (k : Int) _ (by omega) (by have := H2.out; omega)).mono ?_
    rintro e w2 ⟨rfl, t2⟩
    go_wp2
    go_ret
    exact ⟨ret_int hz.out.symm, bnext (bnext hb0 t1) t2⟩
  go_enter Try.func61, Try.ntmps61
  go_wp2_with fail
  refine (has_t p a m c b m d (i : Int) _ (by omega) (by omega) (by omega)).mono ?_
  rintro e w1 ⟨rfl, t1⟩
  replace f0 := cell_be t1 f0
  replace f1 := cell_be t1 f1
  replace f2 := cell_be t1 f2
  go_wp2_with fail
  refine (has_t p a m c b m d (k : Int) _ (by omega) (by omega) (by omega)).mono ?_
  rintro e w2 ⟨rfl, t2⟩
  replace f0 := cell_be t2 f0
  replace f1 := cell_be t2 f1
  replace f2 := cell_be t2 f2
  have hB2 := bnext (bnext hb0 t1) t2
  have sA := hide (hA.below hB2)
  have sB := hide (hB.below hB2)
  clear hA hB hb0 t1 t2
  go_wp2_with fail
  refine (sumsFrom_any p a m c A b d B i n _ sA.out sB.out hm h1 hn HG.out).mono ?_
  rintro e w3 ⟨a', c', vs, RA, RC, rfl, hvl, hO, hK, t3⟩
  obtain ⟨G, rfl, hcG⟩ := hO.at (by omega)
  have ec := hcG n (by omega)
  rw [hK.1 n (by omega), rowP_len] at ec
  have hr := (hK.2.1 n (by omega)).sl
  rw [rowP_len] at hr
  obtain ⟨g, o, ha, hg, hc⟩ := hr.at (by omega)
  rw [ha] at ec
  have e2 := hc k h2
  have hs : Hid (sumP p A B m i n k = (rowP p A B m i n).getD k 0) := hide rfl
  obtain ⟨X, hX⟩ : ∃ X, (rowP p A B m i n).getD k 0 = X := ⟨_, rfl⟩
  rw [hX] at e2 hs
  have h1' : (i : Int) < (m : Int) := by omega
  have h2' : (k : Int) < (m : Int) := by omega
  have h3 : (n : Int) < (n : Int) + 1 := by omega
  have hB3 := bnext hB2 t3
  clear hcG hr hc hX hO hK hvl ha
  go_wp2
  go_ret
  exact ⟨ret_int hs.out.symm, hB3⟩
end Go.Proofs.Ythahcnmfaghohaa
/- Contracts: groundOf, plainGround, count, CountPaths, CountLevelPaths, BallotNumber, PathSum (program). -/
namespace Go.Proofs.Ythahcnmfaghohaa
open Go.RowKit
set_option linter.unusedVariables false
set_option linter.unusedSimpArgs false

theorem SL.lit1 (w : World) (v : Int) : SL (w.alloc (.cells #[.int .i64 v] 2)) (some ⟨w.heap.size, 0, none⟩) 1 1 [v] := by
  refine ⟨rfl, ⟨Nat.le_refl _, fun h => by cases h⟩, .inr ⟨_, _, rfl, fun j hj => ?_⟩⟩
  obtain rfl : j = 0 := by omega
  simp [go_sem]
set_option maxHeartbeats 800000 in
theorem groundOf_any (p : Int) (a : Option Addr) (n c : Nat) (b : Option Addr) (m d : Nat) (w : World) :
    Calls Try.prog 29 #[jac p a n c b m d] w fun e w' => e = .returned (jac p a n c b m d) ∧ Below w.heap.size w w' := by
  go_enter Try.func29, Try.ntmps29
  go_wp2
  refine bodyPost_ret (v := jac p a n c b m d) (by simp [results, Try.results29, go_sem]) rfl ⟨rfl, ?_⟩
  exact bl2 _ _ _
/-- the ground of counts -/
abbrev cntP : Int := 1099511627776
def cntL (m : Nat) (lv : Int) : List Int := List.replicate m lv
theorem cntL_at (m : Nat) (lv : Int) (j : Nat) : (cntL m lv).getD j 0 = if j < m then lv else 0 := by
  unfold cntL
  rw [List.getD_eq_getElem?_getD, List.getElem?_replicate]
  split <;> rfl
theorem cntL_bit (m : Nat) (lv : Int) (h : lv = 0 ∨ lv = 1) : bitL (cntL m lv) := fun j => by
  rw [cntL_at]
  split
  · exact h
  · exact .inl rfl
theorem cnt_gw (m : Nat) (lv : Int) (h : lv = 0 ∨ lv = 1) : GW cntP (cntL m lv) (cntL m 1) := by
  refine ⟨by decide, by decide, fun j => ?_, fun j => ?_⟩
  · rcases cntL_bit m lv h j with e | e <;> rw [e] <;> decide
  · rcases cntL_bit m 1 (.inr rfl) j with e | e <;> rw [e] <;> decide
set_option maxRecDepth 100000 in
set_option maxHeartbeats 1600000 in
theorem plainGround_any (n : Nat) (lv : Int) (w : World) (hn : 1 ≤ n) (hn2 : n ≤ 1000) :
    Calls Try.prog 38 #[.int .i64 n, .int .i64 lv] w fun e w' => ∃ a' b', e = .returned (jac cntP a' n n b' n n) ∧ SL w' a' n n (cntL n lv) ∧ SL w' b' n n (cntL n 1) ∧ Below w.heap.size w w' := by
  have hs1 : SL ((w.alloc (.cells #[.int .i64 0, .slice none 0 0, .slice none 0 0] 52)).alloc (.cells #[.int .i64 lv] 2)) (some ⟨w.heap.size + 1, 0, none⟩) 1 1 [lv] := by simpa using SL.lit1 (w.alloc (.cells #[.int .i64 0, .slice none 0 0, .slice none 0 0] 52)) lv
  go_enter Try.func38, Try.ntmps38
  go_wp2_with fail
  refine (repeat_any lv _ n _ hs1 hn hn2).mono ?_
  rintro e w1 ⟨a1, rfl, o1, t1⟩
  have hb1 := bnext (bl2 w (.cells #[.int .i64 0, .slice none 0 0, .slice none 0 0] 52) (.cells #[.int .i64 lv] 2)) t1
  have r0 : w1.cell? ⟨w.heap.size, 0, none⟩ = some (.int .i64 0) := cell_be t1 (by simp [go_sem])
  have r1 : w1.cell? ⟨w.heap.size, 1, none⟩ = some (.slice none 0 0) := cell_be t1 (by simp [go_sem])
  have r2 : w1.cell? ⟨w.heap.size, 2, none⟩ = some (.slice none 0 0) := cell_be t1 (by simp [go_sem])
  have y0 : w1.frozen? ⟨w.heap.size, 0, none⟩ = false := (t1.frozen (by simp; omega)).trans (by simp [go_sem])
  have y1 : w1.frozen? ⟨w.heap.size, 1, none⟩ = false := (t1.frozen (by simp; omega)).trans (by simp [go_sem])
  have y2 : w1.frozen? ⟨w.heap.size, 2, none⟩ = false := (t1.frozen (by simp; omega)).trans (by simp [go_sem])
  have z1 : w.heap.size + 2 ≤ w1.heap.size := by have := t1.size; simpa using this
  have O1 := hide (o1.mono (B' := w.heap.size + 1) (by simp <;> omega))
  have hs2 := SL.lit1 w1 1
  have hb2 := bl1 w1 (.cells #[.int .i64 1] 2)
  clear hs1 o1 t1
  go_wp2_with fail
  refine (repeat_any 1 _ n _ hs2 hn hn2).mono ?_
  rintro e w2 ⟨a2, rfl, o2, t2⟩
  have t12 := bnext hb2 t2
  have O2 := hide (o2.mono (B' := w.heap.size + 1) (by simp; omega))
  replace O1 := hide (O1.out.below t12)
  replace y0 := fr_be t12 r0 y0
  replace y1 := fr_be t12 r1 y1
  replace y2 := fr_be t12 r2 y2
  replace r0 := cell_be t12 r0
  replace r1 := cell_be t12 r1
  replace r2 := cell_be t12 r2
  have hB := bnext hb1 t12
  clear o2 t2 t12 hb1 hb2 hs2
  go_wp2
  refine bodyPost_ret (v := jac cntP a1 n n a2 n n) (by simp [results, Try.results38, go_sem, r0, r1, r2]) rfl ?_
  have q : ∀ {a : Option Addr} {x : Int}, Own (w.heap.size + 1) w2 a n (List.replicate n x) → SL (((w2.setCell ⟨w.heap.size, 0, none⟩ (.int .i64 cntP)).setCell ⟨w.heap.size, 1, none⟩ (.slice a1 n n)).setCell ⟨w.heap.size, 2, none⟩ (.slice a2 n n)) a n n (cntL n x) := fun h => by
    have := ((OZ.of h (by rw [List.length_replicate])).setLow (x := ⟨w.heap.size, 0, none⟩) (by simp) (.int .i64 cntP)).setLow (x := ⟨w.heap.size, 1, none⟩) (by simp) (.slice a1 n n)
    exact (this.setLow (x := ⟨w.heap.size, 2, none⟩) (by simp) (.slice a2 n n)).sl
  exact ⟨a1, a2, rfl, q O1.out, q O2.out, (((hB.setCell (by simp) _).setCell (by simp) _).setCell (by simp) _)⟩
def cntC (n i k h : Int) : Int := if areB 25 [n, i, k, h] then 0 else 2
def cntV (lv n i k h : Int) : Int := if areB 25 [n, i, k, h] then sumP cntP (cntL (h.toNat + 1) lv) (cntL (h.toNat + 1) 1) (h.toNat + 1) i.toNat n.toNat k.toNat else 0
theorem are4 {n i k h : Int} (H : areB 25 [n, i, k, h] = true) : (0 ≤ n ∧ n ≤ 24) ∧ (0 ≤ i ∧ i ≤ 24) ∧ (0 ≤ k ∧ k ≤ 24) ∧ (0 ≤ h ∧ h ≤ 24) := by
  have := areB_at H 0 (by simp)
  have := areB_at H 1 (by simp)
  have := areB_at H 2 (by simp)
  have := areB_at H 3 (by simp)
  simp at *
  omega
set_option maxRecDepth 100000 in
set_option maxHeartbeats 1600000 in
theorem count_any (n i k h lv : Int) (w : World) (hlv : lv = 0 ∨ lv = 1) :
    Calls Try.prog 51 #[.int .i64 n, .int .i64 i, .int .i64 k, .int .i64 h, .int .i64 lv] w fun e w' => e = .returned (.tuple #[.int .i64 (cntV lv n i k h), .int .i64 (cntC n i k h)]) ∧ Below w.heap.size w w' := by
  have hs : SL (w.alloc (.cells #[.int .i64 n, .int .i64 i, .int .i64 k, .int .i64 h] 2)) (some ⟨w.heap.size, 0, none⟩) 4 4 [n, i, k, h] := by
    refine ⟨rfl, ⟨Nat.le_refl _, fun e => by cases e⟩, .inr ⟨_, _, rfl, fun j hj => ?_⟩⟩
    rcases (show j = 0 ∨ j = 1 ∨ j = 2 ∨ j = 3 by omega) with rfl | rfl | rfl | rfl <;> simp [go_sem]
  have hb0 := bl1 w (.cells #[.int .i64 n, .int .i64 i, .int .i64 k, .int .i64 h] 2)
  cases H : areB 25 [n, i, k, h]
  · have HC := hide (show cntC n i k h = 2 by simp [cntC, H])
    have HV := hide (show cntV lv n i k h = 0 by simp [cntV, H])
    have HH := hide H
    clear H
    go_enter Try.func51, Try.ntmps51
    go_wp2_with fail
    refine (areNumbers_any 25 _ _ _ _ _ hs (by omega)).mono ?_
    rintro e w1 ⟨rfl, rfl⟩
    rw [HH.out]
    go_wp2
    refine bodyPost_ret (v := .tuple #[.int .i64 0, .int .i64 2]) (by simp [results, Try.results51, go_sem]) rfl ?_
    exact ⟨by rw [HC.out, HV.out], hb0⟩
  · obtain ⟨⟨n0, n1⟩, ⟨i0, i1⟩, ⟨k0, k1⟩, h0, h1⟩ := are4 H
    obtain ⟨N, rfl⟩ : ∃ N : Nat, n = N := ⟨n.toNat, by omega⟩
    obtain ⟨I, rfl⟩ : ∃ I : Nat, i = I := ⟨i.toNat, by omega⟩
    obtain ⟨K, rfl⟩ : ∃ K : Nat, k = K := ⟨k.toNat, by omega⟩
    obtain ⟨M, rfl⟩ : ∃ M : Nat, h = M := ⟨h.toNat, by omega⟩
    have HC := hide (show cntC N I K M = 0 by simp [cntC, H])
    have HV := hide (show cntV lv N I K M = sumP cntP (cntL (M + 1) lv) (cntL (M + 1) 1) (M + 1) I N K by simp [cntV, H])
    have HH := hide H
    have v1 : IntKind.i64.wrap ((M : Int) + 1) = ((M + 1 : Nat) : Int) := by rw [show ((M : Int) + 1) = ((M + 1 : Nat) : Int) by omega]; exact IntWalk.i64_in _ (by omega)
    clear H
    go_enter Try.func51, Try.ntmps51
    go_wp2_with fail
    refine (areNumbers_any 25 _ _ _ _ _ hs (by omega)).mono ?_
    rintro e w1 ⟨rfl, rfl⟩
    rw [HH.out]
    go_wp2_with fail
    refine (plainGround_any (M + 1) lv _ (by omega) (by omega)).mono ?_
    rintro e w2 ⟨a1, b1, rfl, s1, s2, t2⟩
    have S1 := hide s1
    have S2 := hide s2
    have hB := bnext hb0 t2
    clear s1 s2 t2 hb0 hs v1
    go_wp2_with fail
    refine (sum_any cntP a1 (M + 1) (M + 1) (cntL (M + 1) lv) b1 (M + 1) (cntL (M + 1) 1) I N K _ S1.out S2.out (by omega) (by omega) (by omega) (by omega) (cnt_gw _ _ hlv)).mono ?_
    rintro e w3 ⟨rfl, t3⟩
    have hB3 := bnext hB t3
    rw [← HV.out]
    clear t3 hB
    go_wp2
    refine bodyPost_ret (v := .tuple #[.int .i64 (cntV lv N I K M), .int .i64 0]) (by simp [results, Try.results51, go_sem]) rfl ?_
    exact ⟨by rw [HC.out], hB3⟩
theorem implCountPaths (n i k h : Int) (w : World) :
    Calls Try.prog 37 #[.int .i64 n, .int .i64 i, .int .i64 k, .int .i64 h] w fun e w' => e = .returned (.tuple #[.int .i64 (cntV 1 n i k h), .int .i64 (cntC n i k h)]) ∧ Below w.heap.size w w' := by
  go_enter Try.func37, Try.ntmps37
  go_wp2_with fail
  refine (count_any n i k h 1 _ (.inr rfl)).mono ?_
  rintro e w1 ⟨rfl, t1⟩
  go_wp2
  refine bodyPost_ret (v := .tuple #[.int .i64 (cntV 1 n i k h), .int .i64 (cntC n i k h)]) (by simp [results, Try.results37, go_sem]) rfl ?_
  exact ⟨rfl, t1⟩
theorem jac_gw {p : Int} {xs ys : List Int} (h : jacB p xs ys = true) : GW p xs ys := by
  obtain ⟨hpr, _, _, _, h1, h2⟩ := jacB_rng h
  obtain ⟨hp, hp2⟩ := primeB_lo hpr
  have b : ∀ {f : List Int}, areB p f = true → ∀ j, 0 ≤ f.getD j 0 ∧ f.getD j 0 * p ≤ 1152921504606846976 := @fun f hf j => by
    have := getD_rng hf hp j
    refine ⟨this.1, ?_⟩
    have m := Int.mul_le_mul (show f.getD j 0 ≤ 10007 by omega) hp2 (by omega) (by omega)
    omega
  exact ⟨hp, by omega, b h1, b (posB_are h2)⟩
end Go.Proofs.Ythahcnmfaghohaa
