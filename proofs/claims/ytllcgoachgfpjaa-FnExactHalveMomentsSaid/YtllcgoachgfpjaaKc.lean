/- Contracts: HalveMoments (program and model). -/
import Derived.Test.YtllcgoachgfpjaaKb
import Derived.Test.YtllcgoachgfpjaaAx
import Derived.Test.YtllcgoachgfpjaaNo
import Derived.Test.YtllcgoachgfpjaaRx
namespace Go.Proofs.Ytllcgoachgfpjaa
open Go.RowKit
set_option linter.unusedVariables false
set_option linter.unusedSimpArgs false

def hamC (p : Int) (xs : List Int) : Int := if momB p xs then (if symB xs then 0 else 5) else 1
def hamF (xs : List Int) (i : Nat) : Int := xs.getD (2 * i) 0
def hamV (p : Int) (xs : List Int) : List Int := if hamC p xs = 0 then tab ((xs.length + 1) / 2) (hamF xs) else []
def hamP (p : Int) (xs : List Int) : Int := if hamC p xs = 0 then p else 0
theorem ret_b2' (a b : Bool) (c d : Int) (h : a = b) (h' : c = d) : (Value.tuple #[.bool a, .int .i64 c]) = .tuple #[.bool b, .int .i64 d] := by rw [h, h']
set_option maxRecDepth 100000 in
set_option maxHeartbeats 1600000 in
theorem implHalveMoments (p : Int) (a : Option Addr) (n c : Nat) (xs : List Int) (w : World) (hs : SL w a n c xs) (hn : n ≤ 4000000) :
    Calls Try.prog 40 #[mom p a n c] w (ResM w (hamP p xs) (hamV p xs) (hamC p xs)) := by
  have hl := hide hs.len
  have hb0 := bl2 w (.cells #[.int .i64 p, .slice a n c] 26) (.cells #[.int .i64 0, .slice none 0 0] 26)
  have g1 := hs.below hb0
  cases hm : momB p xs
  · have HC := hide (show hamC p xs = 1 by simp [hamC, hm])
    have HV := hide (show hamV p xs = [] by simp [hamV, HC.out])
    have HQ := hide (show hamP p xs = 0 by simp [hamP, HC.out])
    have HA := hide (show asyC p xs = 1 by simp [asyC, hm])
    have HB := hide (show asyV p xs = false by simp [asyV, hm])
    clear hm
    go_enter Try.func40, Try.ntmps40
    go_wp2_with fail
    refine (implAreSymmetric _ _ _ _ _ _ g1 hn).mono ?_
    rintro e w1 ⟨rfl, hb1⟩
    rw [HA.out, HB.out]
    have f0 : w1.cell? ⟨w.heap.size, 0, none⟩ = some (.int .i64 p) := cell_be hb1 (by simp [go_sem])
    have f1 : w1.cell? ⟨w.heap.size, 1, none⟩ = some (.slice a n c) := cell_be hb1 (by simp [go_sem])
    have r0 : w1.cell? ⟨w.heap.size + 1, 0, none⟩ = some (.int .i64 0) := cell_be hb1 (by simp [go_sem])
    have r1 : w1.cell? ⟨w.heap.size + 1, 1, none⟩ = some (.slice none 0 0) := cell_be hb1 (by simp [go_sem])
    have y0 : w1.frozen? ⟨w.heap.size + 1, 0, none⟩ = false := (hb1.frozen (by simp)).trans (by simp [go_sem])
    have y1 : w1.frozen? ⟨w.heap.size + 1, 1, none⟩ = false := (hb1.frozen (by simp)).trans (by simp [go_sem])
    have hB1 := bnext hb0 hb1
    go_wp2
    refine bodyPost_ret (v := .tuple #[mom 0 none 0 0, .int .i64 1]) (by simp [results, Try.results40, go_sem, r0, r1]) rfl ?_
    exact ResM.nil HQ.out HV.out HC.out ((hB1.setCell (by simp) _).setCell (by simp) _)
  obtain ⟨_, k1, k2, _⟩ := momB_rng hm
  rw [hl.out] at k1 k2
  have HA := hide (show asyC p xs = 0 by simp [asyC, hm])
  cases hsy : symB xs
  · have HC := hide (show hamC p xs = 5 by simp [hamC, hm, hsy])
    have HV := hide (show hamV p xs = [] by simp [hamV, HC.out])
    have HQ := hide (show hamP p xs = 0 by simp [hamP, HC.out])
    have HB := hide (show asyV p xs = false by simp [asyV, hsy])
    clear hm hsy
    go_enter Try.func40, Try.ntmps40
    go_wp2_with fail
    refine (implAreSymmetric _ _ _ _ _ _ g1 hn).mono ?_
    rintro e w1 ⟨rfl, hb1⟩
    rw [HA.out, HB.out]
    have f0 : w1.cell? ⟨w.heap.size, 0, none⟩ = some (.int .i64 p) := cell_be hb1 (by simp [go_sem])
    have f1 : w1.cell? ⟨w.heap.size, 1, none⟩ = some (.slice a n c) := cell_be hb1 (by simp [go_sem])
    have r0 : w1.cell? ⟨w.heap.size + 1, 0, none⟩ = some (.int .i64 0) := cell_be hb1 (by simp [go_sem])
    have r1 : w1.cell? ⟨w.heap.size + 1, 1, none⟩ = some (.slice none 0 0) := cell_be hb1 (by simp [go_sem])
    have y0 : w1.frozen? ⟨w.heap.size + 1, 0, none⟩ = false := (hb1.frozen (by simp)).trans (by simp [go_sem])
    have y1 : w1.frozen? ⟨w.heap.size + 1, 1, none⟩ = false := (hb1.frozen (by simp)).trans (by simp [go_sem])
    have hB1 := bnext hb0 hb1
    go_wp2
    refine bodyPost_ret (v := .tuple #[mom 0 none 0 0, .int .i64 5]) (by simp [results, Try.results40, go_sem, r0, r1]) rfl ?_
    exact ResM.nil HQ.out HV.out HC.out ((hB1.setCell (by simp) _).setCell (by simp) _)
  have HC := hide (show hamC p xs = 0 by simp [hamC, hm, hsy])
  have HV := hide (show hamV p xs = tab ((n + 1) / 2) (hamF xs) by simp [hamV, HC.out, hl.out])
  have HQ := hide (show hamP p xs = p by simp [hamP, HC.out])
  have HB := hide (show asyV p xs = true by simp [asyV, hm, hsy])
  clear hm hsy
  go_enter Try.func40, Try.ntmps40
  go_wp2_with fail
  refine (implAreSymmetric _ _ _ _ _ _ g1 hn).mono ?_
  rintro e w1 ⟨rfl, hb1⟩
  rw [HA.out, HB.out]
  have f0 : w1.cell? ⟨w.heap.size, 0, none⟩ = some (.int .i64 p) := cell_be hb1 (by simp [go_sem])
  have f1 : w1.cell? ⟨w.heap.size, 1, none⟩ = some (.slice a n c) := cell_be hb1 (by simp [go_sem])
  have r0 : w1.cell? ⟨w.heap.size + 1, 0, none⟩ = some (.int .i64 0) := cell_be hb1 (by simp [go_sem])
  have r1 : w1.cell? ⟨w.heap.size + 1, 1, none⟩ = some (.slice none 0 0) := cell_be hb1 (by simp [go_sem])
  have y0 : w1.frozen? ⟨w.heap.size + 1, 0, none⟩ = false := (hb1.frozen (by simp)).trans (by simp [go_sem])
  have y1 : w1.frozen? ⟨w.heap.size + 1, 1, none⟩ = false := (hb1.frozen (by simp)).trans (by simp [go_sem])
  have hB1 := bnext hb0 hb1
  have z1 := hb1.size
  simp at z1
  have hO0 : Hid (Own w1.heap.size w1 none 0 (tab 0 (hamF xs))) := hide (Own.nil _ _)
  have hbb := Below.refl w1.heap.size w1
  go_wp2
  go_loopw [6, 7] (fun ov kv wr => ∃ (i : Nat) (a' : Option Addr) (c' : Nat), i ≤ (n + 1) / 2 ∧ kv = .int .i64 (2 * (i : Int)) ∧ ov = .slice a' i c' ∧ Hid (Own w1.heap.size wr a' c' (tab i (hamF xs))) ∧ Below w1.heap.size w1 wr) (fun _ kv _ => n + 2 - (intOf kv).toNat)
  case atStart => exact ⟨0, none, 0, by omega, rfl, rfl, hO0, hbb⟩
  case round =>
    obtain ⟨i, a', c', hi, rfl, rfl, hO, hBr⟩ := hrel
    clear hO0 hbb
    have hB := hB1.trans (hBr.mono (by omega))
    replace f0 := cell_be hBr f0
    replace f1 := cell_be hBr f1
    have v1 : IntKind.i64.wrap (2 * (i : Int) + 2) = 2 * (i : Int) + 2 := IntWalk.i64_in _ (by omega)
    by_cases hlt : 2 * i < n
    · obtain ⟨b, off, rfl, hbw, hcell⟩ := (hs.below hB).at (by omega)
      have e1 := hcell (2 * i) hlt
      have hst : Hid (tab (i + 1) (hamF xs) = tab i (hamF xs) ++ [xs.getD (2 * i) 0]) := hide (tab_snoc i (hamF xs)).symm
      obtain ⟨x, hx⟩ : ∃ x, xs.getD (2 * i) 0 = x := ⟨_, rfl⟩
      rw [hx] at e1 hst
      obtain ⟨zs, hzs⟩ : ∃ zs, tab i (hamF xs) = zs := ⟨_, rfl⟩
      have hzl := hide (show zs.length = i by rw [← hzs, tab_len])
      rw [hzs] at hO hst
      have j1 : (0 : Int) ≤ 2 * (i : Int) := by omega
      have j2 : 2 * (i : Int) < (n : Int) := by omega
      have j3 : (2 * (i : Int)).toNat = 2 * i := by omega
      have hbs := hBr.size
      have hOa := hide (hO.out.below (bl1 wr (.cells #[.int .i64 x] 2)))
      clear hx hzs hcell hO
      go_wp2_with (at_builtin; refine wp_append rfl _ _ rfl w1.heap.size _ i _ zs rfl hzl.out.symm hOa.out _ 1 1 [x] rfl (litSL wr x) (by omega) (by simp; omega) ?_; intro ad' cap' w2 hown hb)
      have hown' : Hid (Own w1.heap.size w2 ad' cap' (tab (i + 1) (hamF xs))) := hide (by rw [hst.out]; exact hown)
      have hB2 := (hBr.alloc hBr.size (.cells #[.int .i64 x] 2)).trans hb
      have hl2 : Hid ((zs ++ [x]).length = i + 1) := hide (by rw [List.length_append, hzl.out]; rfl)
      clear hown hb hOa hst
      go_wp2
      go_roundw
      case rel => exact ⟨i + 1, ad', cap', by omega, by go_num, by rw [hzl.out], hown', hB2⟩
      case measure => simp [intOf]; omega
    · have hin : Hid (i = (n + 1) / 2) := hide (by omega)
      have j2 : ¬ 2 * (i : Int) < (n : Int) := by omega
      replace y0 := (hBr.frozen (World.block_lt_of_cell? _ _ r0)).trans y0
      replace y1 := (hBr.frozen (World.block_lt_of_cell? _ _ r1)).trans y1
      replace r0 := cell_be hBr r0
      replace r1 := cell_be hBr r1
      have ho := hide hO.out
      rw [hin.out] at ho
      clear hO
      go_wp2
      refine bodyPost_ret (v := .tuple #[mom p a' i c', .int .i64 0]) (by simp [results, Try.results40, go_sem, r0, r1]) rfl ?_
      exact ResM.own HQ.out HC.out (by rw [HV.out, tab_len, hin.out]) (by rw [HV.out]; exact ((ho.out.setLow (by simp <;> omega) _).setLow (by simp <;> omega) _).mono (by omega)) (by rw [HV.out, tab_len]; omega) ((hB.setCell (by simp <;> omega) _).setCell (by simp <;> omega) _)
set_option maxRecDepth 100000 in
set_option maxHeartbeats 3200000 in
theorem specHalveMoments (p : Int) (a : Option Addr) (n c : Nat) (xs : List Int) (w : World) (hs : SL w a n c xs) (hn : n ≤ 4000000) :
    Calls Try.prog 39 #[mom p a n c] w (ResM w (hamP p xs) (hamV p xs) (hamC p xs)) := by
  have hl := hide hs.len
  have hb0 := bl2 w (.cells #[.int .i64 p, .slice a n c] 26) (.cells #[.int .i64 0, .slice none 0 0] 26)
  have g1 := hs.below hb0
  cases hm : momB p xs
  · have HC := hide (show hamC p xs = 1 by simp [hamC, hm])
    have HV := hide (show hamV p xs = [] by simp [hamV, HC.out])
    have HQ := hide (show hamP p xs = 0 by simp [hamP, HC.out])
    have Hm := hide hm
    clear hm
    go_enter Try.func39, Try.ntmps39
    go_wp2_with fail
    refine (l02Are_any _ _ _ _ _ _ g1 hn).mono ?_
    rintro e w1 ⟨rfl, hb1⟩
    rw [Hm.out]
    have f0 : w1.cell? ⟨w.heap.size, 0, none⟩ = some (.int .i64 p) := cell_be hb1 (by simp [go_sem])
    have f1 : w1.cell? ⟨w.heap.size, 1, none⟩ = some (.slice a n c) := cell_be hb1 (by simp [go_sem])
    have r0 : w1.cell? ⟨w.heap.size + 1, 0, none⟩ = some (.int .i64 0) := cell_be hb1 (by simp [go_sem])
    have r1 : w1.cell? ⟨w.heap.size + 1, 1, none⟩ = some (.slice none 0 0) := cell_be hb1 (by simp [go_sem])
    have y0 : w1.frozen? ⟨w.heap.size + 1, 0, none⟩ = false := (hb1.frozen (by simp)).trans (by simp [go_sem])
    have y1 : w1.frozen? ⟨w.heap.size + 1, 1, none⟩ = false := (hb1.frozen (by simp)).trans (by simp [go_sem])
    have hB1 := bnext hb0 hb1
    go_wp2
    refine bodyPost_ret (v := .tuple #[mom 0 none 0 0, .int .i64 1]) (by simp [results, Try.results39, go_sem, r0, r1]) rfl ?_
    exact ResM.nil HQ.out HV.out HC.out ((hB1.setCell (by simp) _).setCell (by simp) _)
  obtain ⟨_, k1, k2, _⟩ := momB_rng hm
  rw [hl.out] at k1 k2
  have Hm := hide hm
  cases hsy : symB xs
  · have HC := hide (show hamC p xs = 5 by simp [hamC, hm, hsy])
    have HV := hide (show hamV p xs = [] by simp [hamV, HC.out])
    have HQ := hide (show hamP p xs = 0 by simp [hamP, HC.out])
    have HB := hide hsy
    clear hm hsy
    go_enter Try.func39, Try.ntmps39
    go_wp2_with fail
    refine (l02Are_any _ _ _ _ _ _ g1 hn).mono ?_
    rintro e w1 ⟨rfl, hb1⟩
    rw [Hm.out]
    have f0 : w1.cell? ⟨w.heap.size, 0, none⟩ = some (.int .i64 p) := cell_be hb1 (by simp [go_sem])
    have f1 : w1.cell? ⟨w.heap.size, 1, none⟩ = some (.slice a n c) := cell_be hb1 (by simp [go_sem])
    have r0 : w1.cell? ⟨w.heap.size + 1, 0, none⟩ = some (.int .i64 0) := cell_be hb1 (by simp [go_sem])
    have r1 : w1.cell? ⟨w.heap.size + 1, 1, none⟩ = some (.slice none 0 0) := cell_be hb1 (by simp [go_sem])
    have y0 : w1.frozen? ⟨w.heap.size + 1, 0, none⟩ = false := (hb1.frozen (by simp)).trans (by simp [go_sem])
    have y1 : w1.frozen? ⟨w.heap.size + 1, 1, none⟩ = false := (hb1.frozen (by simp)).trans (by simp [go_sem])
    have hB1 := bnext hb0 hb1
    go_wp2_with fail
    refine (l08Symmetric_any _ _ _ _ _ _ (g1.below hb1) hn k1).mono ?_
    rintro e w2 ⟨rfl, hb2⟩
    rw [HB.out]
    replace y0 := (hb2.frozen (World.block_lt_of_cell? _ _ r0)).trans y0
    replace y1 := (hb2.frozen (World.block_lt_of_cell? _ _ r1)).trans y1
    replace f0 := cell_be hb2 f0
    replace f1 := cell_be hb2 f1
    replace r0 := cell_be hb2 r0
    replace r1 := cell_be hb2 r1
    have hB2 := bnext hB1 hb2
    go_wp2
    refine bodyPost_ret (v := .tuple #[mom 0 none 0 0, .int .i64 5]) (by simp [results, Try.results39, go_sem, r0, r1]) rfl ?_
    exact ResM.nil HQ.out HV.out HC.out ((hB2.setCell (by simp) _).setCell (by simp) _)
  have HC := hide (show hamC p xs = 0 by simp [hamC, hm, hsy])
  have HV := hide (show hamV p xs = tab ((n + 1) / 2) (hamF xs) by simp [hamV, HC.out, hl.out])
  have HQ := hide (show hamP p xs = p by simp [hamP, HC.out])
  have HB := hide hsy
  clear hm hsy
  go_enter Try.func39, Try.ntmps39
  go_wp2_with fail
  refine (l02Are_any _ _ _ _ _ _ g1 hn).mono ?_
  rintro e w1 ⟨rfl, hb1⟩
  rw [Hm.out]
  have f0 : w1.cell? ⟨w.heap.size, 0, none⟩ = some (.int .i64 p) := cell_be hb1 (by simp [go_sem])
  have f1 : w1.cell? ⟨w.heap.size, 1, none⟩ = some (.slice a n c) := cell_be hb1 (by simp [go_sem])
  have r0 : w1.cell? ⟨w.heap.size + 1, 0, none⟩ = some (.int .i64 0) := cell_be hb1 (by simp [go_sem])
  have r1 : w1.cell? ⟨w.heap.size + 1, 1, none⟩ = some (.slice none 0 0) := cell_be hb1 (by simp [go_sem])
  have y0 : w1.frozen? ⟨w.heap.size + 1, 0, none⟩ = false := (hb1.frozen (by simp)).trans (by simp [go_sem])
  have y1 : w1.frozen? ⟨w.heap.size + 1, 1, none⟩ = false := (hb1.frozen (by simp)).trans (by simp [go_sem])
  have hB1 := bnext hb0 hb1
  go_wp2_with fail
  refine (l08Symmetric_any _ _ _ _ _ _ (g1.below hb1) hn k1).mono ?_
  rintro e w2 ⟨rfl, hb2⟩
  rw [HB.out]
  replace y0 := (hb2.frozen (World.block_lt_of_cell? _ _ r0)).trans y0
  replace y1 := (hb2.frozen (World.block_lt_of_cell? _ _ r1)).trans y1
  replace f0 := cell_be hb2 f0
  replace f1 := cell_be hb2 f1
  replace r0 := cell_be hb2 r0
  replace r1 := cell_be hb2 r1
  have hB := bnext hB1 hb2
  have hzz : w.heap.size + 2 ≤ w2.heap.size := by have := hb1.size; simp at this; have := hb2.size; omega
  have hO0 : Hid (Own w2.heap.size ((w2.alloc (.cells #[] 2)).alloc (.cells #[.int .i64 p, .slice (some ⟨w2.heap.size, 0, none⟩) 0 0] 26)) (some ⟨w2.heap.size, 0, none⟩) 0 (tab 0 (hamF xs))) := hide (by
    have := World.ownsRow_lit w2 (base := w2.heap.size) (e := 2) (size := 1) #[] 0 (Nat.le_refl _) (by simp) rfl
    exact Own.below (ys := []) this (bl1 _ _))
  have hB0 := bl2 w2 (.cells #[] 2) (.cells #[.int .i64 p, .slice (some ⟨w2.heap.size, 0, none⟩) 0 0] 26)
  go_wp2
  go_loopw [5] (fun kv wr => ∃ (i : Nat) (a' : Option Addr) (c' : Nat), i ≤ (n + 1) / 2 ∧ kv = .int .i64 (2 * (i : Int)) ∧ Hid (Own w2.heap.size wr a' c' (tab i (hamF xs))) ∧ Hid (blk a' ≠ some (w2.heap.size + 1)) ∧
    wr.cell? ⟨w2.heap.size + 1, 0, none⟩ = some (.int .i64 p) ∧ wr.cell? ⟨w2.heap.size + 1, 1, none⟩ = some (.slice a' i c') ∧ wr.frozen? ⟨w2.heap.size + 1, 1, none⟩ = false ∧ Below w2.heap.size w2 wr ∧ w2.heap.size + 2 ≤ wr.heap.size) (fun kv _ => n + 2 - (intOf kv).toNat)
  case atStart => exact ⟨0, some ⟨w2.heap.size, 0, none⟩, 0, by omega, rfl, hO0, hide (by simp [blk]), by simp [go_sem], by simp [go_sem], by simp [go_sem], hB0, by simp⟩
  case round =>
    obtain ⟨i, a', c', hi, rfl, hO, hne, s0, s1, sf, hbr, hsz⟩ := hrel
    clear hO0 hB0
    have hBr := hB.trans (hbr.mono (by omega))
    replace f0 := cell_be hbr f0
    replace f1 := cell_be hbr f1
    have v1 : IntKind.i64.wrap (2 * (i : Int) + 2) = 2 * (i : Int) + 2 := IntWalk.i64_in _ (by omega)
    by_cases hlt : 2 * i < n
    · obtain ⟨b, off, rfl, hbw, hcell⟩ := hs.at (by omega)
      have e1 := cell_be hBr (hcell (2 * i) hlt)
      have hst : Hid (tab (i + 1) (hamF xs) = tab i (hamF xs) ++ [xs.getD (2 * i) 0]) := hide (tab_snoc i (hamF xs)).symm
      obtain ⟨v, hx⟩ : ∃ x, xs.getD (2 * i) 0 = x := ⟨_, rfl⟩
      rw [hx] at e1 hst
      obtain ⟨zs, hzs⟩ : ∃ zs, tab i (hamF xs) = zs := ⟨_, rfl⟩
      have hzl := hide (show zs.length = i by rw [← hzs, tab_len])
      rw [hzs] at hO hst
      have j1 : (0 : Int) ≤ 2 * (i : Int) := by omega
      have j2 : 2 * (i : Int) < (n : Int) := by omega
      have j3 : (2 * (i : Int)).toNat = 2 * i := by omega
      clear hx hzs hcell
      have s0a : ((wr.alloc (.cells #[.int .i64 v] 2)).drew).cell? ⟨w2.heap.size + 1, 0, none⟩ = some (.int .i64 p) := cell_al s0 (.cells #[.int .i64 v] 2)
      have s1a : ((wr.alloc (.cells #[.int .i64 v] 2)).drew).cell? ⟨w2.heap.size + 1, 1, none⟩ = some (.slice a' i c') := cell_al s1 (.cells #[.int .i64 v] 2)
      have sfa : ((wr.alloc (.cells #[.int .i64 v] 2)).drew).frozen? ⟨w2.heap.size + 1, 1, none⟩ = false := frz_al s1 sf (.cells #[.int .i64 v] 2)
      have hba : Below wr.heap.size wr ((wr.alloc (.cells #[.int .i64 v] 2)).drew) := (bl1 wr _).drew
      have hOa := hide (hO.out.below hba)
      have hcl : ((wr.alloc (.cells #[.int .i64 v] 2)).drew).cell? ⟨wr.heap.size, 0, none⟩ = some (.int .i64 v) := by simp [go_sem]
      clear hO
      have hb2' : Below w2.heap.size w2 ((wr.alloc (.cells #[.int .i64 v] 2)).drew) := (hbr.alloc (by omega) _).drew
      have F : ∀ w', Below wr.heap.size wr w' → w'.cell? ⟨w.heap.size, 1, none⟩ = some (.slice (some ⟨b, off, none⟩) n c) ∧ w'.cell? ⟨b, off + 2 * i, none⟩ = some (.int .i64 v) := fun w' hb => ⟨cell_be hb f1, cell_be hb e1⟩
      have hbd := (Below.refl wr.heap.size wr).drew
      go_upto_region 9 with fail
      refine region_E (fun w' => w'.cell? ⟨w.heap.size, 1, none⟩ = some (.slice (some ⟨b, off, none⟩) n c) ∧ w'.cell? ⟨b, off + 2 * i, none⟩ = some (.int .i64 v) ∧ w'.cell? ⟨w2.heap.size + 1, 1, none⟩ = some (.slice a' i c')) 10 (by kernel_rfl) ?_ ?_
      · have F0 := F _ hbd
        exact ⟨F0.1, F0.2, cell_be hbd s1⟩
      intro hS
      refine anyE_takeL 0 rfl (by kernel_rfl) (fun _ _ _ h => h) hS (by rfl) (v := ?_) ?_ ?_
      rotate_left
      · intro w' hSw; (try dsimp only at hSw); go_simp; (try with_reducible rfl)
      try simp only [Act.put, List.setIfInBounds_toArray, List.set_cons_zero, List.set_cons_succ]
      refine anyE_takeL 1 rfl (by kernel_rfl) (fun _ _ _ h => h) hS (by rfl) (v := ?_) ?_ ?_
      rotate_left
      · intro w' hSw; (try dsimp only at hSw); go_simp; (try with_reducible rfl)
      try simp only [Act.put, List.setIfInBounds_toArray, List.set_cons_zero, List.set_cons_succ]
      refine anyE_takeL 2 rfl (by kernel_rfl) (fun _ _ _ h => h) hS (by rfl) (v := ?_) ?_ ?_
      rotate_left
      · intro w' hSw; (try dsimp only at hSw); go_simp; (try with_reducible rfl)
      try simp only [Act.put, List.setIfInBounds_toArray, List.set_cons_zero, List.set_cons_succ]
      refine anyE_takeL 3 rfl (by kernel_rfl) (fun _ _ _ h => h) hS (by rfl) (v := ?_) ?_ ?_
      rotate_left
      · intro w' hSw; (try dsimp only at hSw); go_simp; (try with_reducible rfl)
      try simp only [Act.put, List.setIfInBounds_toArray, List.set_cons_zero, List.set_cons_succ]
      refine anyE_takeL 4 rfl (by kernel_rfl) (fun _ _ _ h => h) hS (by rfl) (v := ?_) ?_ ?_
      rotate_left
      · intro w' hSw; (try dsimp only at hSw); go_simp; (try with_reducible rfl)
      try simp only [Act.put, List.setIfInBounds_toArray, List.set_cons_zero, List.set_cons_succ]
      refine anyE_takeL 5 rfl (by kernel_rfl) (fun _ _ _ h => h) hS (by rfl) (v := ?_) ?_ ?_
      rotate_left
      · intro w' hSw; (try dsimp only at hSw); go_simp; (try with_reducible rfl)
      try simp only [Act.put, List.setIfInBounds_toArray, List.set_cons_zero, List.set_cons_succ]
      refine anyE_takeL 6 rfl (by kernel_rfl) (fun _ _ _ h => h) hS (by rfl) (v := ?_) ?_ ?_
      rotate_left
      · intro w' hSw; (try dsimp only at hSw); go_simp; (try with_reducible rfl)
      try simp only [Act.put, List.setIfInBounds_toArray, List.set_cons_zero, List.set_cons_succ]
      clear hS
      refine anyE_oneL 7 (by kernel_rfl) rfl (fun K hK => ?_)
      go_simp
      have S0 := F _ hba
      have S1 := And.intro S0.1 (And.intro S0.2 s1a)
      refine hK.out _ _ S1 ?_
      clear hK K
      try simp only [Act.put, List.setIfInBounds_toArray, List.set_cons_zero, List.set_cons_succ]
      refine anyE_oneL 8 (by kernel_rfl) rfl (fun K hK => ?_)
      refine step_app1 (by rfl) _ _ (by rfl) w2.heap.size _ _ _ zs (by rfl) hzl.out.symm hOa.out _ _ v (by rfl) hcl (by omega) (by simp; omega) ?_
      intro ad' cap' w' hown' hgr hloc
      have s0' := cell_ne hgr s0a hne.out
      have s1' := cell_ne hgr s1a hne.out
      have sf' := frz_ne hgr s1a sfa hne.out
      have hge := own_blk_ge hOa.out
      have S2 := And.intro (cell_ne hgr S0.1 (fun e => by have := hge _ e; omega)) (And.intro (cell_ne hgr S0.2 (fun e => by have := hge _ e; omega)) s1')
      refine hK.out _ _ S2 ?_
      clear hK K
      try simp only [Act.put, List.setIfInBounds_toArray, List.set_cons_zero, List.set_cons_succ]
      refine anyE_takeL 9 rfl (by kernel_rfl) (fun _ _ _ h => h) S2 (by rfl) (v := ?_) ?_ ?_
      rotate_left
      · intro w' hSw; (try dsimp only at hSw); go_simp; (try with_reducible rfl)
      try simp only [Act.put, List.setIfInBounds_toArray, List.set_cons_zero, List.set_cons_succ]
      clear S0 S1 S2
      refine anyE_lastL (by kernel_rfl) rfl (by kernel_rfl) (fun K hK => ?_)
      go_simp
      refine hK.out _ _ ?_
      clear hK K
      try simp only [Act.put, List.setIfInBounds_toArray, List.set_cons_zero, List.set_cons_succ]
      all_goals
        have hbn := hb2'.grown hgr (by simp; omega) (own_blk_ge hOa.out)
        have hn2 := hide (show blk ad' ≠ some (w2.heap.size + 1) from by
          rcases hloc with h | h <;> rw [h]
          · exact hne.out
          · simp; omega)
        have hzl2 := hide (show (zs ++ [v]).length = i + 1 by simp [hzl.out])
        have hgs := hgr.size
        go_wp2
        go_roundw
        case rel => exact ⟨i + 1, ad', cap', by omega, by go_num, by rw [hst.out]; exact hide (hown'.otherG hn2.out _), hn2, cell_set2' s0' (by simp) _, by rw [show i + 1 = zs.length + 1 by rw [hzl.out]]; exact World.cell?_setCell_same _ _ _ s1', by simpa using sf', hbn.setCell (by simp) _, by simp at hgs ⊢; omega⟩
        case measure => simp [intOf]; omega
    · have hin : Hid (i = (n + 1) / 2) := hide (by omega)
      have j2 : ¬ 2 * (i : Int) < (n : Int) := by omega
      replace y0 := (hbr.frozen (World.block_lt_of_cell? _ _ r0)).trans y0
      replace y1 := (hbr.frozen (World.block_lt_of_cell? _ _ r1)).trans y1
      replace r0 := cell_be hbr r0
      replace r1 := cell_be hbr r1
      have ho := hide hO.out
      rw [hin.out] at ho
      clear hO
      go_wp2
      refine bodyPost_ret (v := .tuple #[mom p a' i c', .int .i64 0]) (by simp [results, Try.results39, go_sem, r0, r1]) rfl ?_
      exact ResM.own HQ.out HC.out (by rw [HV.out, tab_len, hin.out]) (by rw [HV.out]; exact ((ho.out.setLow (by simp <;> omega) _).setLow (by simp <;> omega) _).mono (by omega)) (by rw [HV.out, tab_len]; omega) ((hBr.setCell (by simp <;> omega) _).setCell (by simp <;> omega) _)
end Go.Proofs.Ytllcgoachgfpjaa
