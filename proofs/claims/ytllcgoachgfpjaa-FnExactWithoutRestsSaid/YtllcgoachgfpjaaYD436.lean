/- Merged texts. -/
import Derived.Test.YtllcgoachgfpjaaYD435
import Derived.Test.YtllcgoachgfpjaaYD432
import Derived.Test.YtllcgoachgfpjaaYD427
import Derived.Test.YtllcgoachgfpjaaYD426
/- Contract: WithoutRests (program). -/
namespace Go.Proofs.Ytllcgoachgfpjaa
open Go.RowKit Go.Sort
set_option linter.unusedVariables false
set_option linter.unusedSimpArgs false

def wrR (xs ys : List Int) : List (Int × Int) := keepW (zipW xs ys)
def wrsC (p : Int) (xs ys : List Int) : Int := if rulB p xs ys then 0 else 1
def wrsP (p : Int) (xs ys : List Int) : Int := if wrsC p xs ys = 0 then p else 0
def wrsV (p : Int) (xs ys : List Int) : List Int := if wrsC p xs ys = 0 then nodesR (wrR xs ys) else []
def wrsU (p : Int) (xs ys : List Int) : List Int := if wrsC p xs ys = 0 then wtsR (wrR xs ys) else []
theorem wrs_err {p : Int} {xs ys : List Int} {e : Int} (h : wrsC p xs ys = e) (he : e ≠ 0) : wrsP p xs ys = 0 ∧ wrsV p xs ys = [] ∧ wrsU p xs ys = [] := by
  have : wrsC p xs ys ≠ 0 := by rw [h]; exact he
  exact ⟨if_neg this, if_neg this, if_neg this⟩
theorem zipW_asc {xs ys : List Int} (h : ascB xs = true) : AscR (zipW xs ys) := by
  unfold ascB at h
  rw [decide_eq_true_eq, List.pairwise_iff_getElem] at h
  unfold AscR
  rw [List.pairwise_iff_getElem]
  intro i j hi hj hij
  have e1 := zipW_at xs ys i (by rwa [zipW_len] at hi)
  have e2 := zipW_at xs ys j (by rwa [zipW_len] at hj)
  rw [List.getD, List.getElem?_eq_getElem hi] at e1
  rw [List.getD, List.getElem?_eq_getElem hj] at e2
  simp only [Option.getD_some] at e1 e2
  rw [zipW_len] at hi hj
  rw [e1, e2]
  show xs.getD i 0 < xs.getD j 0
  rw [List.getD, List.getD, List.getElem?_eq_getElem hi, List.getElem?_eq_getElem hj]
  exact h i j hi hj hij
theorem wrR_puts (p : Int) {xs ys : List Int} (h : ascB xs = true) : putsR p [] (wrR xs ys) = wrR xs ys := by
  have := puts_id p (wrR xs ys) [] (by
    rw [List.nil_append]
    exact List.Pairwise.filter _ (zipW_asc h))
  rwa [List.nil_append] at this
theorem wrR_wts {p : Int} {xs ys : List Int} (hp : 2 ≤ p) (h : areB p ys = true) : ∀ e ∈ wrR xs ys, 0 ≤ e.2 ∧ e.2 < p := fun e he => zipW_wts hp h e (List.mem_filter.1 he).1
theorem wrR_len (xs ys : List Int) : (wrR xs ys).length ≤ xs.length := by
  have := keepW_le (zipW xs ys)
  rwa [zipW_len] at this
set_option maxRecDepth 100000 in
set_option maxHeartbeats 3200000 in
theorem implWithoutRests (p : Int) (a : Option Addr) (n c : Nat) (xs : List Int) (b : Option Addr) (m d : Nat) (ys : List Int) (w : World) (hs : SL w a n c xs) (ht : SL w b m d ys) (hn : n ≤ 4000000) (hm : m ≤ 4000000) :
    Calls Try.prog 48 #[jac p a n c b m d] w (ResJ w (wrsP p xs ys) (wrsV p xs ys) (wrsU p xs ys) (wrsC p xs ys)) := by
  have hl := hide hs.len
  have hl2 := hide ht.len
  have hb0 := bl2 w (.cells #[.int .i64 p, .slice a n c, .slice b m d] 56) (.cells #[.int .i64 0, .slice none 0 0, .slice none 0 0] 56)
  have g1 := hs.below hb0
  have g2 := ht.below hb0
  cases hj : rulB p xs ys
  · have HC := hide (show wrsC p xs ys = 1 by simp [wrsC, hj])
    have HE := hide (wrs_err HC.out (by decide))
    have Hj := hide hj
    clear hj
    go_enter Try.func48, Try.ntmps48
    go_wp2_with fail
    refine (implIsRule _ _ _ _ _ _ _ _ _ _ g1 g2 hn hm).mono ?_
    rintro e w2 ⟨rfl, hb1⟩
    rw [Hj.out]
    have f0 : w2.cell? ⟨w.heap.size, 0, none⟩ = some (.int .i64 p) := cell_be hb1 (by simp [go_sem])
    have f1 : w2.cell? ⟨w.heap.size, 1, none⟩ = some (.slice a n c) := cell_be hb1 (by simp [go_sem])
    have f2 : w2.cell? ⟨w.heap.size, 2, none⟩ = some (.slice b m d) := cell_be hb1 (by simp [go_sem])
    have r0 : w2.cell? ⟨w.heap.size + 1, 0, none⟩ = some (.int .i64 0) := cell_be hb1 (by simp [go_sem])
    have r1 : w2.cell? ⟨w.heap.size + 1, 1, none⟩ = some (.slice none 0 0) := cell_be hb1 (by simp [go_sem])
    have r2 : w2.cell? ⟨w.heap.size + 1, 2, none⟩ = some (.slice none 0 0) := cell_be hb1 (by simp [go_sem])
    have y0 : w2.frozen? ⟨w.heap.size + 1, 0, none⟩ = false := (hb1.frozen (by simp)).trans (by simp [go_sem])
    have y1 : w2.frozen? ⟨w.heap.size + 1, 1, none⟩ = false := (hb1.frozen (by simp)).trans (by simp [go_sem])
    have y2 : w2.frozen? ⟨w.heap.size + 1, 2, none⟩ = false := (hb1.frozen (by simp)).trans (by simp [go_sem])
    have hB2 := bnext hb0 hb1
    go_wp2
    refine bodyPost_ret (v := .tuple #[jac 0 none 0 0 none 0 0, .int .i64 1]) (by simp [results, Try.results48, go_sem, r0, r1, r2]) rfl ?_
    exact ResJ.nil HE.out.1 HE.out.2.1 HE.out.2.2 HC.out (((hB2.setCell (by simp) _).setCell (by simp) _).setCell (by simp) _)
  have Hj := hide hj
  obtain ⟨hpr, n2, n3, hx, hy, hasc⟩ := rulB_rng hj
  obtain ⟨hp, hp2⟩ := primeB_lo hpr
  rw [hl.out] at n2 n3
  rw [hl2.out] at n3
  subst n3
  have HC := hide (show wrsC p xs ys = 0 by simp [wrsC, hj])
  have HQ := hide (show wrsP p xs ys = p by unfold wrsP; rw [if_pos HC.out])
  have HV := hide (show wrsV p xs ys = nodesR (wrR xs ys) by unfold wrsV; rw [if_pos HC.out])
  have HU := hide (show wrsU p xs ys = wtsR (wrR xs ys) by unfold wrsU; rw [if_pos HC.out])
  have HW := hide (wrR_wts (xs := xs) hp hy)
  have hlen := wrR_len xs ys
  rw [hl.out] at hlen
  have HPu := hide (wrR_puts p (ys := ys) hasc)
  clear hj hpr hx hy hasc
  go_enter Try.func48, Try.ntmps48
  go_wp2_with fail
  refine (implIsRule _ _ _ _ _ _ _ _ _ _ g1 g2 hn hm).mono ?_
  rintro e w2 ⟨rfl, hb1⟩
  rw [Hj.out]
  have f0 : w2.cell? ⟨w.heap.size, 0, none⟩ = some (.int .i64 p) := cell_be hb1 (by simp [go_sem])
  have f1 : w2.cell? ⟨w.heap.size, 1, none⟩ = some (.slice a m c) := cell_be hb1 (by simp [go_sem])
  have f2 : w2.cell? ⟨w.heap.size, 2, none⟩ = some (.slice b m d) := cell_be hb1 (by simp [go_sem])
  have r0 : w2.cell? ⟨w.heap.size + 1, 0, none⟩ = some (.int .i64 0) := cell_be hb1 (by simp [go_sem])
  have r1 : w2.cell? ⟨w.heap.size + 1, 1, none⟩ = some (.slice none 0 0) := cell_be hb1 (by simp [go_sem])
  have r2 : w2.cell? ⟨w.heap.size + 1, 2, none⟩ = some (.slice none 0 0) := cell_be hb1 (by simp [go_sem])
  have y0 : w2.frozen? ⟨w.heap.size + 1, 0, none⟩ = false := (hb1.frozen (by simp)).trans (by simp [go_sem])
  have y1 : w2.frozen? ⟨w.heap.size + 1, 1, none⟩ = false := (hb1.frozen (by simp)).trans (by simp [go_sem])
  have y2 : w2.frozen? ⟨w.heap.size + 1, 2, none⟩ = false := (hb1.frozen (by simp)).trans (by simp [go_sem])
  have hB2 := bnext hb0 hb1
  have z2 := hb1.size
  simp at z2
  go_wp2_with fail
  refine (ruleOf_without p a m c b d (wrR xs ys) _ hp hp2 (by omega) HW.out (fun w' hb => ?_)).mono ?_
  · refine (withoutParts_any p a m c xs b d ys w' (hs.below (bnext hB2 hb)) (ht.below (bnext hB2 hb)) (by omega)).mono ?_
    rintro e u ⟨g, c', rfl, hg, hP, hB⟩
    exact ⟨g, c', rfl, hg, hP, hB⟩
  rw [HPu.out]
  rintro e w3 ⟨a3, c3, b3, d3, rfl, hJ, t3⟩
  have hJ' := hide hJ
  obtain ⟨N, hN⟩ : ∃ N, (wrR xs ys).length = N := ⟨_, rfl⟩
  rw [hN] at hJ' hlen ⊢
  have HN := hide hN
  have hB3 := bnext hB2 t3
  replace y0 := (t3.frozen (World.block_lt_of_cell? _ _ r0)).trans y0
  replace y1 := (t3.frozen (World.block_lt_of_cell? _ _ r1)).trans y1
  replace y2 := (t3.frozen (World.block_lt_of_cell? _ _ r2)).trans y2
  replace f0 := cell_be t3 f0
  replace f1 := cell_be t3 f1
  replace f2 := cell_be t3 f2
  replace r0 := cell_be t3 r0
  replace r1 := cell_be t3 r1
  replace r2 := cell_be t3 r2
  clear hJ t3 hN
  go_wp2
  refine bodyPost_ret (v := .tuple #[jac p a3 N c3 b3 N d3, .int .i64 0]) (by simp [results, Try.results48, go_sem, r0, r1, r2]) rfl ?_
  have j2 := ((hJ'.out.setLow (x := ⟨w.heap.size + 1, 0, none⟩) (by simp; omega) (.int .i64 p)).setLow (x := ⟨w.heap.size + 1, 1, none⟩) (by simp; omega) (.slice a3 N c3)).setLow (x := ⟨w.heap.size + 1, 2, none⟩) (by simp; omega) (.slice b3 N d3)
  exact ResJ.mk HQ.out HC.out (by rw [HV.out, nodesR_len]; exact HN.out.symm) (by rw [HU.out, wtsR_len]; exact HN.out.symm) (by rw [HV.out, HU.out]; simpa using j2.mono (lo' := w.heap.size) (by omega) (Nat.le_refl _)) (by rw [HV.out, nodesR_len, HN.out]; omega) (by rw [HU.out, wtsR_len, HN.out]; omega) (((hB3.setCell (by simp) _).setCell (by simp) _).setCell (by simp) _)
end Go.Proofs.Ytllcgoachgfpjaa
/- Contract: WithoutRests (model). -/
namespace Go.Proofs.Ytllcgoachgfpjaa
open Go.RowKit Go.Sort
set_option linter.unusedVariables false
set_option linter.unusedSimpArgs false

theorem JS.jz0 {B q : Nat} {w : World} {p : Int} {a : Option Addr} {ca : Nat} {us : List Int} {b : Option Addr} {cb : Nat} {vs : List Int} (h : JS B q w p a ca us b cb vs) : JZ B w.heap.size w a us.length ca us b vs.length cb vs := by
  by_cases h0 : us.length = 0
  · exact ⟨OZ.of h.oA rfl, OZ.of h.oB rfl, .inl h0⟩
  · exact h.jz h0
theorem nodesR_snoc (R : List (Int × Int)) (x y : Int) : nodesR (R ++ [(x, y)]) = nodesR R ++ [x] := by simp [nodesR]
theorem wtsR_snoc (R : List (Int × Int)) (x y : Int) : wtsR (R ++ [(x, y)]) = wtsR R ++ [y] := by simp [wtsR]
set_option maxRecDepth 100000 in
set_option maxHeartbeats 6400000 in
theorem specWithoutRests (p : Int) (a : Option Addr) (n c : Nat) (xs : List Int) (b : Option Addr) (m d : Nat) (ys : List Int) (w : World) (hs : SL w a n c xs) (ht : SL w b m d ys) (hn : n ≤ 4000000) (hm : m ≤ 4000000) :
    Calls Try.prog 46 #[jac p a n c b m d] w (ResJ w (wrsP p xs ys) (wrsV p xs ys) (wrsU p xs ys) (wrsC p xs ys)) := by
  have hl := hide hs.len
  have hl2 := hide ht.len
  have hb0 := bl2 w (.cells #[.int .i64 p, .slice a n c, .slice b m d] 56) (.cells #[.int .i64 0, .slice none 0 0, .slice none 0 0] 56)
  have g1 := hs.below hb0
  have g2 := ht.below hb0
  cases hj : rulB p xs ys
  · have HC := hide (show wrsC p xs ys = 1 by simp [wrsC, hj])
    have HE := hide (wrs_err HC.out (by decide))
    have Hj := hide hj
    clear hj
    go_enter Try.func46, Try.ntmps46
    go_wp2_with fail
    refine (l07Is_any _ _ _ _ _ _ _ _ _ _ g1 g2 hn hm).mono ?_
    rintro e w2 ⟨rfl, hb1⟩
    rw [Hj.out]
    have f0 : w2.cell? ⟨w.heap.size, 0, none⟩ = some (.int .i64 p) := cell_be hb1 (by simp [go_sem])
    have f1 : w2.cell? ⟨w.heap.size, 1, none⟩ = some (.slice a n c) := cell_be hb1 (by simp [go_sem])
    have f2 : w2.cell? ⟨w.heap.size, 2, none⟩ = some (.slice b m d) := cell_be hb1 (by simp [go_sem])
    have r0 : w2.cell? ⟨w.heap.size + 1, 0, none⟩ = some (.int .i64 0) := cell_be hb1 (by simp [go_sem])
    have r1 : w2.cell? ⟨w.heap.size + 1, 1, none⟩ = some (.slice none 0 0) := cell_be hb1 (by simp [go_sem])
    have r2 : w2.cell? ⟨w.heap.size + 1, 2, none⟩ = some (.slice none 0 0) := cell_be hb1 (by simp [go_sem])
    have y0 : w2.frozen? ⟨w.heap.size + 1, 0, none⟩ = false := (hb1.frozen (by simp)).trans (by simp [go_sem])
    have y1 : w2.frozen? ⟨w.heap.size + 1, 1, none⟩ = false := (hb1.frozen (by simp)).trans (by simp [go_sem])
    have y2 : w2.frozen? ⟨w.heap.size + 1, 2, none⟩ = false := (hb1.frozen (by simp)).trans (by simp [go_sem])
    have hB2 := bnext hb0 hb1
    go_wp2
    refine bodyPost_ret (v := .tuple #[jac 0 none 0 0 none 0 0, .int .i64 1]) (by simp [results, Try.results46, go_sem, r0, r1, r2]) rfl ?_
    exact ResJ.nil HE.out.1 HE.out.2.1 HE.out.2.2 HC.out (((hB2.setCell (by simp) _).setCell (by simp) _).setCell (by simp) _)
  have Hj := hide hj
  obtain ⟨hpr, n2, n3, hx, hy, hasc⟩ := rulB_rng hj
  obtain ⟨hp, hp2⟩ := primeB_lo hpr
  rw [hl.out] at n2 n3
  rw [hl2.out] at n3
  subst n3
  have HC := hide (show wrsC p xs ys = 0 by simp [wrsC, hj])
  have HQ := hide (show wrsP p xs ys = p by unfold wrsP; rw [if_pos HC.out])
  have HV := hide (show wrsV p xs ys = nodesR (wrR xs ys) by unfold wrsV; rw [if_pos HC.out])
  have HU := hide (show wrsU p xs ys = wtsR (wrR xs ys) by unfold wrsU; rw [if_pos HC.out])
  have hlen := wrR_len xs ys
  rw [hl.out] at hlen
  have Hzl := hide (show (zipW xs ys).length = m by rw [zipW_len, hl.out])
  have Hza := hide (fun i (h : i < m) => zipW_at xs ys i (by rw [hl.out]; exact h))
  have Hk := hide (fun k => keepW_le ((zipW xs ys).take k))
  clear hj hpr hx hy hasc
  go_enter Try.func46, Try.ntmps46
  go_wp2_with fail
  refine (l07Is_any _ _ _ _ _ _ _ _ _ _ g1 g2 hn hm).mono ?_
  rintro e w2 ⟨rfl, hb1⟩
  rw [Hj.out]
  have f0 : w2.cell? ⟨w.heap.size, 0, none⟩ = some (.int .i64 p) := cell_be hb1 (by simp [go_sem])
  have f1 : w2.cell? ⟨w.heap.size, 1, none⟩ = some (.slice a m c) := cell_be hb1 (by simp [go_sem])
  have f2 : w2.cell? ⟨w.heap.size, 2, none⟩ = some (.slice b m d) := cell_be hb1 (by simp [go_sem])
  have r0 : w2.cell? ⟨w.heap.size + 1, 0, none⟩ = some (.int .i64 0) := cell_be hb1 (by simp [go_sem])
  have r1 : w2.cell? ⟨w.heap.size + 1, 1, none⟩ = some (.slice none 0 0) := cell_be hb1 (by simp [go_sem])
  have r2 : w2.cell? ⟨w.heap.size + 1, 2, none⟩ = some (.slice none 0 0) := cell_be hb1 (by simp [go_sem])
  have y0 : w2.frozen? ⟨w.heap.size + 1, 0, none⟩ = false := (hb1.frozen (by simp)).trans (by simp [go_sem])
  have y1 : w2.frozen? ⟨w.heap.size + 1, 1, none⟩ = false := (hb1.frozen (by simp)).trans (by simp [go_sem])
  have y2 : w2.frozen? ⟨w.heap.size + 1, 2, none⟩ = false := (hb1.frozen (by simp)).trans (by simp [go_sem])
  have hB2 := bnext hb0 hb1
  have z2 := hb1.size
  simp at z2
  have hLit : JS w2.heap.size (w2.heap.size + 1 + 1) (((w2.alloc (.cells #[] 2)).alloc (.cells #[] 2)).alloc (.cells #[.int .i64 p, .slice (some ⟨w2.heap.size, 0, none⟩) 0 0, .slice (some ⟨w2.heap.size + 1, 0, none⟩) 0 0] 56)) p (some ⟨w2.heap.size, 0, none⟩) 0 [] (some ⟨w2.heap.size + 1, 0, none⟩) 0 [] :=
    ⟨(own_lit0' _ _ rfl _ (Nat.le_refl _)).below (bl2 _ _ _), (own_lit0' _ _ (by simp) _ (by omega)).below (bl1 _ _), ⟨by simp [blk]; omega, by simp [blk], fun g h1 h2 => by simp [blk] at h1 h2; omega⟩, ⟨by simp [go_sem], by simp [go_sem], by simp [go_sem]⟩, ⟨by simp [go_sem], by simp [go_sem]⟩, by omega⟩
  have hWl := bl3 w2 (.cells #[] 2) (.cells #[] 2) (.cells #[.int .i64 p, .slice (some ⟨w2.heap.size, 0, none⟩) 0 0, .slice (some ⟨w2.heap.size + 1, 0, none⟩) 0 0] 56)
  go_wp2
  obtain ⟨w5, hw5⟩ : ∃ w5, w5 = (((w2.alloc (.cells #[] 2)).alloc (.cells #[] 2)).alloc (.cells #[.int .i64 p, .slice (some ⟨w2.heap.size, 0, none⟩) 0 0, .slice (some ⟨w2.heap.size + 1, 0, none⟩) 0 0] 56)) := ⟨_, rfl⟩
  rw [← hw5] at hLit hWl ⊢
  clear hw5
  obtain ⟨qq, hqq⟩ : ∃ qq, qq = w2.heap.size + 1 + 1 := ⟨_, rfl⟩
  rw [← hqq] at hLit ⊢
  clear hqq
  have HWl := hide hWl
  have HLit := hide hLit
  clear hWl hLit
  go_loopw [5] (fun iv wr => ∃ (i ca cb : Nat) (a' b' : Option Addr), i ≤ m ∧ iv = .int .i64 i ∧ Hid (JS w2.heap.size qq wr p a' ca (nodesR (keepW ((zipW xs ys).take i))) b' cb (wtsR (keepW ((zipW xs ys).take i)))) ∧ Hid (Below w2.heap.size w2 wr)) (fun iv _ => m - (intOf iv).toNat)
  case atStart => exact ⟨0, 0, 0, _, _, by omega, rfl, HLit, HWl⟩
  case round =>
    obtain ⟨i, ca, cb, a', b', hi, rfl, hJ, hW⟩ := hrel
    clear HLit HWl
    by_cases hlt : i < m
    · have hlt' : (i : Int) < (m : Int) := by omega
      have i0 : (0 : Int) ≤ (i : Int) := by omega
      obtain ⟨aa, ao, rfl, haw, hca⟩ := hs.at (show 0 < m by omega)
      obtain ⟨bb, bo, rfl, hbw, hcb⟩ := ht.at (show 0 < m by omega)
      have hsn := hide (keepW_snoc (zipW xs ys) i (by rw [Hzl.out]; exact hlt))
      rw [Hza.out i hlt] at hsn
      have e1w := cell_be hB2 (hca i hlt)
      have e2w := cell_be hB2 (hcb i hlt)
      obtain ⟨X, hX⟩ : ∃ X, xs.getD i 0 = X := ⟨_, rfl⟩
      obtain ⟨Y, hY⟩ : ∃ Y, ys.getD i 0 = Y := ⟨_, rfl⟩
      rw [hX] at e1w hsn
      rw [hY] at e2w hsn
      have f1' := cell_be hW.out f1
      have f2' := cell_be hW.out f2
      have e1 := cell_be hW.out e1w
      have e2 := cell_be hW.out e2w
      have hkl := Hk.out i
      clear hX hY hca hcb
      by_cases hz : Y = 0
      · have ob : (Y != 0) = false := by simp [hz]
        have hsn' : Hid (keepW ((zipW xs ys).take (i + 1)) = keepW ((zipW xs ys).take i)) := hide (by rw [hsn.out, if_pos hz, List.append_nil])
        clear hz hsn hkl
        go_wp2
        go_roundw
        case rel => exact ⟨i + 1, ca, cb, a', b', by omega, by go_num, by rw [hsn'.out]; exact hJ, hW⟩
        case measure => simp [intOf]; omega
      · have ob : (Y != 0) = true := by simp [hz]
        have hsA : Hid (nodesR (keepW ((zipW xs ys).take (i + 1))) = nodesR (keepW ((zipW xs ys).take i)) ++ [X]) := hide (by rw [hsn.out, if_neg hz, nodesR_snoc])
        have hsB : Hid (wtsR (keepW ((zipW xs ys).take (i + 1))) = wtsR (keepW ((zipW xs ys).take i)) ++ [Y]) := hide (by rw [hsn.out, if_neg hz, wtsR_snoc])
        have hul : (nodesR (keepW ((zipW xs ys).take i))).length ≤ 24 := by rw [nodesR_len]; have := Hzl.out; simp at hkl; omega
        have hvl : (wtsR (keepW ((zipW xs ys).take i))).length ≤ 24 := by rw [wtsR_len]; have := Hzl.out; simp at hkl; omega
        obtain ⟨us, hus⟩ : ∃ us, nodesR (keepW ((zipW xs ys).take i)) = us := ⟨_, rfl⟩
        obtain ⟨vs, hvs⟩ : ∃ vs, wtsR (keepW ((zipW xs ys).take i)) = vs := ⟨_, rfl⟩
        rw [hus] at hJ hsA hul
        rw [hvs] at hJ hsB hvl
        clear hz hsn hkl hus hvs
        go_upto_region 8 with fail
        have J0 := hJ.out
        have hbd := (Below.refl wr.heap.size wr).drew
        have hba : Below wr.heap.size wr ((wr.alloc (.cells #[.int .i64 X] 2)).drew) := (bl1 wr _).drew
        have JA := J0.below hba
        have hOa := hide JA.oA
        have hcl : ((wr.alloc (.cells #[.int .i64 X] 2)).drew).cell? ⟨wr.heap.size, 0, none⟩ = some (.int .i64 X) := by simp [go_sem]
        have hsz := hW.out.size
        have hqw := J0.hi
        have hlo := J0.lo
        refine region_E (fun v => v.cell? ⟨qq, 1, none⟩ = some (.slice a' us.length ca) ∧ v.cell? ⟨w.heap.size, 1, none⟩ = some (.slice (some ⟨aa, ao, none⟩) m c) ∧ v.cell? ⟨aa, ao + i, none⟩ = some (.int .i64 X)) 10 (by kernel_rfl) ⟨cell_be hbd J0.c1, cell_be hbd f1', cell_be hbd e1⟩ ?_
        intro hS
        refine anyE_takeL 0 rfl (by kernel_rfl) (fun _ _ _ h => h) hS (by rfl) (v := ?_) ?_ ?_
        rotate_left
        · intro w' hSw; (try dsimp only at hSw); go_simp; (try with_reducible rfl)
        try simp only [Act.put, List.setIfInBounds_toArray, List.set_cons_zero, List.set_cons_succ]
        refine anyE_takeL 1 rfl (by kernel_rfl) (fun _ _ _ h => h) hS (by rfl) (v := ?_) ?_ ?_
        rotate_left
        · intro w' hSw; (try dsimp only at hSw); go_simp; (try with_reducible rfl)
        try simp only [Act.put, List.setIfInBounds_toArray, List.set_cons_zero, List.set_cons_succ]
        refine anyE_takeL 2 rfl (by kernel_rfl) (fun _ _ _ h => h) hS (by rfl) (v := ?_) ?_ ?_
        rotate_left
        · intro w' hSw; (try dsimp only at hSw); go_simp; (try with_reducible rfl)
        try simp only [Act.put, List.setIfInBounds_toArray, List.set_cons_zero, List.set_cons_succ]
        refine anyE_takeL 3 rfl (by kernel_rfl) (fun _ _ _ h => h) hS (by rfl) (v := ?_) ?_ ?_
        rotate_left
        · intro w' hSw; (try dsimp only at hSw); go_simp; (try with_reducible rfl)
        try simp only [Act.put, List.setIfInBounds_toArray, List.set_cons_zero, List.set_cons_succ]
        refine anyE_takeL 4 rfl (by kernel_rfl) (fun _ _ _ h => h) hS (by rfl) (v := ?_) ?_ ?_
        rotate_left
        · intro w' hSw; (try dsimp only at hSw); go_simp; (try with_reducible rfl)
        try simp only [Act.put, List.setIfInBounds_toArray, List.set_cons_zero, List.set_cons_succ]
        refine anyE_takeL 5 rfl (by kernel_rfl) (fun _ _ _ h => h) hS (by rfl) (v := ?_) ?_ ?_
        rotate_left
        · intro w' hSw; (try dsimp only at hSw); go_simp; (try with_reducible rfl)
        try simp only [Act.put, List.setIfInBounds_toArray, List.set_cons_zero, List.set_cons_succ]
        refine anyE_takeL 6 rfl (by kernel_rfl) (fun _ _ _ h => h) hS (by rfl) (v := ?_) ?_ ?_
        rotate_left
        · intro w' hSw; (try dsimp only at hSw); go_simp; (try with_reducible rfl)
        try simp only [Act.put, List.setIfInBounds_toArray, List.set_cons_zero, List.set_cons_succ]
        clear hS
        refine anyE_oneL 7 (by kernel_rfl) rfl (fun K hK => ?_)
        go_simp
        have S1 := And.intro (JA.c1) (And.intro (cell_be hba f1') (cell_be hba e1))
        refine hK.out _ _ S1 ?_
        clear hK K
        try simp only [Act.put, List.setIfInBounds_toArray, List.set_cons_zero, List.set_cons_succ]
        refine anyE_oneL 8 (by kernel_rfl) rfl (fun K hK => ?_)
        refine step_app1 (by rfl) _ _ (by rfl) w2.heap.size _ _ _ us (by rfl) rfl hOa.out _ _ X (by rfl) hcl (by omega) (by first | omega | (simp; omega)) ?_
        intro ad' cap' v' hown' hgr hloc
        have hge := own_blk_ge hOa.out
        have s1' := cell_ne hgr JA.c1 JA.2.2.1.1
        have sf' := frz_ne hgr JA.c1 JA.z1 JA.2.2.1.1
        have S2 := And.intro (s1') (And.intro (cell_ne hgr S1.2.1 (fun e => by have := hge _ e; omega)) (cell_ne hgr S1.2.2 (fun e => by have := hge _ e; omega)))
        refine hK.out _ _ S2 ?_
        clear hK K
        try simp only [Act.put, List.setIfInBounds_toArray, List.set_cons_zero, List.set_cons_succ]
        refine anyE_takeL 9 rfl (by kernel_rfl) (fun _ _ _ h => h) S2 (by rfl) (v := ?_) ?_ ?_
        rotate_left
        · intro w' hSw; (try dsimp only at hSw); go_simp; (try with_reducible rfl)
        try simp only [Act.put, List.setIfInBounds_toArray, List.set_cons_zero, List.set_cons_succ]
        clear S1 S2
        refine anyE_lastL (by kernel_rfl) rfl (by kernel_rfl) (fun K hK => ?_)
        go_simp
        refine hK.out _ _ ?_
        clear hK K
        try simp only [Act.put, List.setIfInBounds_toArray, List.set_cons_zero, List.set_cons_succ]
        have J6 := hide (J0.pushA hown' hgr hloc)
        have W6 := hide (below_push hW.out (by omega) hgr (own_blk_ge hOa.out) J0.lo (k := 1) (.slice ad' (us.length + 1) cap'))
        obtain ⟨w6, hw6⟩ : ∃ w6, w6 = v'.setCell ⟨qq, 1, none⟩ (.slice ad' (us.length + 1) cap') := ⟨_, rfl⟩
        rw [← hw6] at J6 W6 ⊢
        clear hw6 hgr hown' hloc hOa hba hcl hbd J0 JA s1' sf' hge hsz hqw hlo
        have J7 : Hid (JS w2.heap.size qq w6 p ad' cap' (nodesR (keepW ((zipW xs ys).take (i + 1)))) b' cb vs) := hide (by rw [hsA.out]; exact J6.out)
        obtain ⟨us2, hus2⟩ : ∃ us2, nodesR (keepW ((zipW xs ys).take (i + 1))) = us2 := ⟨_, rfl⟩
        have HU2 := hide hus2
        rw [hus2] at J7
        clear hus2 f1' f2' e1 e2
        have f2' := cell_be W6.out f2
        have e2 := cell_be W6.out e2w
        go_upto_region 9 with fail
        have J0 := J7.out
        have hbd := (Below.refl w6.heap.size w6).drew
        have hba : Below w6.heap.size w6 ((w6.alloc (.cells #[.int .i64 Y] 2)).drew) := (bl1 w6 _).drew
        have JA := J0.below hba
        have hOa := hide JA.oB
        have hcl : ((w6.alloc (.cells #[.int .i64 Y] 2)).drew).cell? ⟨w6.heap.size, 0, none⟩ = some (.int .i64 Y) := by simp [go_sem]
        have hsz := W6.out.size
        have hqw := J0.hi
        have hlo := J0.lo
        refine region_E (fun v => v.cell? ⟨qq, 2, none⟩ = some (.slice b' vs.length cb) ∧ v.cell? ⟨w.heap.size, 2, none⟩ = some (.slice (some ⟨bb, bo, none⟩) m d) ∧ v.cell? ⟨bb, bo + i, none⟩ = some (.int .i64 Y)) 10 (by kernel_rfl) ⟨cell_be hbd J0.c2, cell_be hbd f2', cell_be hbd e2⟩ ?_
        intro hS
        refine anyE_takeL 0 rfl (by kernel_rfl) (fun _ _ _ h => h) hS (by rfl) (v := ?_) ?_ ?_
        rotate_left
        · intro w' hSw; (try dsimp only at hSw); go_simp; (try with_reducible rfl)
        try simp only [Act.put, List.setIfInBounds_toArray, List.set_cons_zero, List.set_cons_succ]
        refine anyE_takeL 1 rfl (by kernel_rfl) (fun _ _ _ h => h) hS (by rfl) (v := ?_) ?_ ?_
        rotate_left
        · intro w' hSw; (try dsimp only at hSw); go_simp; (try with_reducible rfl)
        try simp only [Act.put, List.setIfInBounds_toArray, List.set_cons_zero, List.set_cons_succ]
        refine anyE_takeL 2 rfl (by kernel_rfl) (fun _ _ _ h => h) hS (by rfl) (v := ?_) ?_ ?_
        rotate_left
        · intro w' hSw; (try dsimp only at hSw); go_simp; (try with_reducible rfl)
        try simp only [Act.put, List.setIfInBounds_toArray, List.set_cons_zero, List.set_cons_succ]
        refine anyE_takeL 3 rfl (by kernel_rfl) (fun _ _ _ h => h) hS (by rfl) (v := ?_) ?_ ?_
        rotate_left
        · intro w' hSw; (try dsimp only at hSw); go_simp; (try with_reducible rfl)
        try simp only [Act.put, List.setIfInBounds_toArray, List.set_cons_zero, List.set_cons_succ]
        refine anyE_takeL 4 rfl (by kernel_rfl) (fun _ _ _ h => h) hS (by rfl) (v := ?_) ?_ ?_
        rotate_left
        · intro w' hSw; (try dsimp only at hSw); go_simp; (try with_reducible rfl)
        try simp only [Act.put, List.setIfInBounds_toArray, List.set_cons_zero, List.set_cons_succ]
        refine anyE_takeL 5 rfl (by kernel_rfl) (fun _ _ _ h => h) hS (by rfl) (v := ?_) ?_ ?_
        rotate_left
        · intro w' hSw; (try dsimp only at hSw); go_simp; (try with_reducible rfl)
        try simp only [Act.put, List.setIfInBounds_toArray, List.set_cons_zero, List.set_cons_succ]
        refine anyE_takeL 6 rfl (by kernel_rfl) (fun _ _ _ h => h) hS (by rfl) (v := ?_) ?_ ?_
        rotate_left
        · intro w' hSw; (try dsimp only at hSw); go_simp; (try with_reducible rfl)
        try simp only [Act.put, List.setIfInBounds_toArray, List.set_cons_zero, List.set_cons_succ]
        clear hS
        refine anyE_oneL 7 (by kernel_rfl) rfl (fun K hK => ?_)
        go_simp
        have S1 := And.intro (JA.c2) (And.intro (cell_be hba f2') (cell_be hba e2))
        refine hK.out _ _ S1 ?_
        clear hK K
        try simp only [Act.put, List.setIfInBounds_toArray, List.set_cons_zero, List.set_cons_succ]
        refine anyE_oneL 8 (by kernel_rfl) rfl (fun K hK => ?_)
        refine step_app1 (by rfl) _ _ (by rfl) w2.heap.size _ _ _ vs (by rfl) rfl hOa.out _ _ Y (by rfl) hcl (by omega) (by first | omega | (simp; omega)) ?_
        intro bd' bap' v' hown' hgr hloc
        have hge := own_blk_ge hOa.out
        have s1' := cell_ne hgr JA.c2 JA.2.2.1.2.1
        have sf' := frz_ne hgr JA.c2 JA.z2 JA.2.2.1.2.1
        have S2 := And.intro (s1') (And.intro (cell_ne hgr S1.2.1 (fun e => by have := hge _ e; omega)) (cell_ne hgr S1.2.2 (fun e => by have := hge _ e; omega)))
        refine hK.out _ _ S2 ?_
        clear hK K
        try simp only [Act.put, List.setIfInBounds_toArray, List.set_cons_zero, List.set_cons_succ]
        refine anyE_takeL 9 rfl (by kernel_rfl) (fun _ _ _ h => h) S2 (by rfl) (v := ?_) ?_ ?_
        rotate_left
        · intro w' hSw; (try dsimp only at hSw); go_simp; (try with_reducible rfl)
        try simp only [Act.put, List.setIfInBounds_toArray, List.set_cons_zero, List.set_cons_succ]
        clear S1 S2
        refine anyE_lastL (by kernel_rfl) rfl (by kernel_rfl) (fun K hK => ?_)
        go_simp
        refine hK.out _ _ ?_
        clear hK K
        try simp only [Act.put, List.setIfInBounds_toArray, List.set_cons_zero, List.set_cons_succ]
        have J8 := hide (J0.pushB hown' hgr hloc)
        have W7 := hide (below_push W6.out (by omega) hgr (own_blk_ge hOa.out) J0.lo (k := 2) (.slice bd' (vs.length + 1) bap'))
        obtain ⟨w7, hw6⟩ : ∃ w7, w7 = v'.setCell ⟨qq, 2, none⟩ (.slice bd' (vs.length + 1) bap') := ⟨_, rfl⟩
        rw [← hw6] at J8 W7 ⊢
        clear hw6 hgr hown' hloc hOa hba hcl hbd J0 JA s1' sf' hge hsz hqw hlo
        have J9 : Hid (JS w2.heap.size qq w7 p ad' cap' (nodesR (keepW ((zipW xs ys).take (i + 1)))) bd' bap' (wtsR (keepW ((zipW xs ys).take (i + 1))))) := hide (by rw [hsB.out, HU2.out]; exact J8.out)
        go_wp2
        go_roundw
        case rel => exact ⟨i + 1, cap', bap', ad', bd', by omega, by go_num, J9, W7⟩
        case measure => simp [intOf]; omega
    · have him : Hid (i = m) := hide (by omega)
      have hge : ¬ (i : Int) < (m : Int) := by omega
      have hfull : Hid (keepW ((zipW xs ys).take i) = wrR xs ys) := hide (by rw [him.out, ← Hzl.out, List.take_length]; rfl)
      rw [hfull.out] at hJ
      obtain ⟨us, hus⟩ : ∃ us, nodesR (wrR xs ys) = us := ⟨_, rfl⟩
      obtain ⟨vs, hvs⟩ : ∃ vs, wtsR (wrR xs ys) = vs := ⟨_, rfl⟩
      have hul : us.length ≤ 24 := by rw [← hus, nodesR_len]; omega
      have hvl : vs.length ≤ 24 := by rw [← hvs, wtsR_len]; omega
      have huv := hide (show vs.length = us.length by rw [← hus, ← hvs, nodesR_len, wtsR_len])
      rw [hus] at hJ HV
      rw [hvs] at hJ HU
      have jz := hJ.out.jz0
      have c0 := hJ.out.c0
      have c1 := hJ.out.c1
      have c2 := hJ.out.c2
      have f1' := cell_be hW.out f1
      have r0' := cell_be hW.out r0
      have r1' := cell_be hW.out r1
      have r2' := cell_be hW.out r2
      have y0' := (hW.out.frozen (p := ⟨w.heap.size + 1, 0, none⟩) (by simp; omega)).trans y0
      have y1' := (hW.out.frozen (p := ⟨w.heap.size + 1, 1, none⟩) (by simp; omega)).trans y1
      have y2' := (hW.out.frozen (p := ⟨w.heap.size + 1, 2, none⟩) (by simp; omega)).trans y2
      have hBw := hB2.trans (hW.out.mono (by omega))
      clear hus hvs r0 r1 r2 y0 y1 y2 f0 f1 f2
      go_wp2
      refine bodyPost_ret (v := .tuple #[jac p a' us.length ca b' vs.length cb, .int .i64 0]) (by simp [results, Try.results46, go_sem, r0', r1', r2']) rfl ?_
      have jz2 := ((jz.setLow (x := ⟨w.heap.size + 1, 0, none⟩) (by simp; omega) (.int .i64 p)).setLow (x := ⟨w.heap.size + 1, 1, none⟩) (by simp; omega) (.slice a' us.length ca)).setLow (x := ⟨w.heap.size + 1, 2, none⟩) (by simp; omega) (.slice b' vs.length cb)
      exact ResJ.mk HQ.out HC.out (by rw [HV.out]) (by rw [HU.out]) (by rw [HV.out, HU.out]; simpa using jz2.mono (lo' := w.heap.size) (by omega) (Nat.le_refl _)) (by rw [HV.out]; omega) (by rw [HU.out]; omega) (((hBw.setCell (by simp) _).setCell (by simp) _).setCell (by simp) _)
end Go.Proofs.Ytllcgoachgfpjaa
