/- Merged texts. -/
import Derived.Test.YtcadiepghhnbeaaYW132
import Derived.Test.YtcadiepghhnbeaaYW127
import Derived.Test.YtcadiepghhnbeaaYW133
import Derived.Test.YtcadiepghhnbeaaYW116
/- Contracts: MoveRule (program). -/
namespace Go.Proofs.Ytcadiepghhnbeaa
open Go.RowKit Go.Sort
set_option linter.unusedVariables false
set_option linter.unusedSimpArgs false

def mvrR (p : Int) (xs ys : List Int) (a b : Int) : List (Int × Int) := putsR p [] (movW p a b (zipW xs ys))
def mvrC (p : Int) (xs ys : List Int) (a b : Int) : Int := if rulB p xs ys then (if (1 ≤ a ∧ a < p) ∧ 0 ≤ b ∧ b < p then 0 else 2) else 1
def mvrP (p : Int) (xs ys : List Int) (a b : Int) : Int := if mvrC p xs ys a b = 0 then p else 0
def mvrV (p : Int) (xs ys : List Int) (a b : Int) : List Int := if mvrC p xs ys a b = 0 then nodesR (mvrR p xs ys a b) else []
def mvrU (p : Int) (xs ys : List Int) (a b : Int) : List Int := if mvrC p xs ys a b = 0 then wtsR (mvrR p xs ys a b) else []
theorem mvr_err {p : Int} {xs ys : List Int} {a b e : Int} (h : mvrC p xs ys a b = e) (he : e ≠ 0) : mvrP p xs ys a b = 0 ∧ mvrV p xs ys a b = [] ∧ mvrU p xs ys a b = [] := by
  have : mvrC p xs ys a b ≠ 0 := by rw [h]; exact he
  exact ⟨if_neg this, if_neg this, if_neg this⟩
theorem zipW_wts {p : Int} {xs ys : List Int} (hp : 2 ≤ p) (h : areB p ys = true) : ∀ e ∈ zipW xs ys, 0 ≤ e.2 ∧ e.2 < p := by
  intro e he
  obtain ⟨i, hi, rfl⟩ := List.getElem_of_mem he
  rw [zipW_len] at hi
  have := zipW_at xs ys i hi
  rw [List.getD, List.getElem?_eq_getElem (by rw [zipW_len]; exact hi)] at this
  simp only [Option.getD_some] at this
  rw [this]
  exact getD_rng h hp i
theorem movW_len (p A B : Int) (L : List (Int × Int)) : (movW p A B L).length = L.length := mvK_len _ _ _ _ _
theorem movW_at (p A B : Int) (L : List (Int × Int)) (i : Nat) (h : i < L.length) : (movW p A B L).getD i (0, 0) = ((B + A * (L.getD i (0, 0)).1) % p, (L.getD i (0, 0)).2) := by
  unfold movW; rw [mvK_at _ _ _ _ _ _ h, if_pos h]
theorem movW_wts {p A B : Int} {L : List (Int × Int)} (h : ∀ e ∈ L, 0 ≤ e.2 ∧ e.2 < p) : ∀ e ∈ movW p A B L, 0 ≤ e.2 ∧ e.2 < p := by
  intro e he
  obtain ⟨i, hi, rfl⟩ := List.getElem_of_mem he
  rw [movW_len] at hi
  have := movW_at p A B L i hi
  rw [List.getD, List.getElem?_eq_getElem (by rw [movW_len]; exact hi)] at this
  simp only [Option.getD_some] at this
  have hm : L.getD i (0, 0) ∈ L := by rw [List.getD, List.getElem?_eq_getElem hi]; exact List.getElem_mem _
  rw [this]
  exact h (L.getD i (0, 0)) hm
theorem putR_len (p : Int) (r : List (Int × Int)) (x v : Int) : (putR p r x v).length ≤ r.length + 1 := by
  induction r with
  | nil => simp [putR]
  | cons e l ih =>
    unfold putR
    split
    · simp; omega
    · split <;> simp
theorem putsR_len (p : Int) (l : List (Int × Int)) : ∀ r, (putsR p r l).length ≤ r.length + l.length := by
  induction l with
  | nil => intro r; simp [putsR]
  | cons e l ih =>
    intro r
    have := ih (putR p r e.1 e.2)
    have h2 := putR_len p r e.1 e.2
    show (putsR p (putR p r e.1 e.2) l).length ≤ _
    simp
    omega
end Go.Proofs.Ytcadiepghhnbeaa
/- Contract: WeightsFor (program). -/
namespace Go.Proofs.Ytcadiepghhnbeaa
open Go.RowKit Go.Sort
set_option linter.unusedVariables false
set_option linter.unusedSimpArgs false

def wftC (p : Int) (ms xs : List Int) : Int := if momB p ms then (if lisB p xs 0 ms.length && ascB xs then 0 else 2) else 1
def wftP (p : Int) (ms xs : List Int) : Int := if wftC p ms xs = 0 then p else 0
def wftV (p : Int) (ms xs : List Int) : List Int := if wftC p ms xs = 0 then xs else []
def wftU (p : Int) (ms xs : List Int) : List Int := if wftC p ms xs = 0 then wfW p ms xs else []
theorem wft_err {p : Int} {ms xs : List Int} {e : Int} (h : wftC p ms xs = e) (he : e ≠ 0) : wftP p ms xs = 0 ∧ wftV p ms xs = [] ∧ wftU p ms xs = [] := by
  have : wftC p ms xs ≠ 0 := by rw [h]; exact he
  exact ⟨if_neg this, if_neg this, if_neg this⟩
theorem zipW_up {xs ys : List Int} (h : ascB xs = true) : AscR (zipW xs ys) := by
  unfold ascB at h
  rw [decide_eq_true_eq, List.pairwise_iff_getElem] at h
  unfold AscR
  rw [List.pairwise_iff_getElem]
  intro i j hi hj hij
  have e1 := zipW_at xs ys i (by rwa [zipW_len] at hi)
  have e2 := zipW_at xs ys j (by rwa [zipW_len] at hj)
  rw [List.getD, List.getElem?_eq_getElem hi] at e1
  rw [List.getD, List.getElem?_eq_getElem hj] at e2
  simp only [Option.getD_some] at e1 e2
  rw [zipW_len] at hi hj
  rw [e1, e2]
  show xs.getD i 0 < xs.getD j 0
  rw [List.getD, List.getD, List.getElem?_eq_getElem hi, List.getElem?_eq_getElem hj]
  exact h i j hi hj hij
theorem wfW_len (p : Int) (ms xs : List Int) : (wfW p ms xs).length = xs.length := tab_len _ _
theorem puts_zip (p : Int) {xs ys : List Int} (h : ascB xs = true) : putsR p [] (zipW xs ys) = zipW xs ys := by
  have := puts_id p (zipW xs ys) [] (by rw [List.nil_append]; exact zipW_up h)
  rwa [List.nil_append] at this
theorem nodesZ {xs ys : List Int} : nodesR (zipW xs ys) = xs := by
  refine List.ext_getElem (by rw [nodesR_len, zipW_len]) fun i h1 h2 => ?_
  have := zipW_at xs ys i h2
  have hz : i < (zipW xs ys).length := by rw [zipW_len]; exact h2
  rw [List.getD, List.getElem?_eq_getElem hz, List.getD, List.getElem?_eq_getElem h2] at this
  simp only [Option.getD_some] at this
  simp [nodesR, this]
theorem wtsZ {xs ys : List Int} (h : ys.length = xs.length) : wtsR (zipW xs ys) = ys := by
  refine List.ext_getElem (by rw [wtsR_len, zipW_len, h]) fun i h1 h2 => ?_
  have := zipW_at xs ys i (by omega)
  have hz : i < (zipW xs ys).length := by rw [zipW_len]; omega
  rw [List.getD, List.getElem?_eq_getElem hz, List.getD, List.getD, List.getElem?_eq_getElem h2] at this
  simp only [Option.getD_some] at this
  simp [wtsR, this]
set_option maxRecDepth 100000 in
set_option maxHeartbeats 3200000 in
theorem implWeightsFor (p : Int) (a : Option Addr) (n c : Nat) (ms : List Int) (b : Option Addr) (m d : Nat) (xs : List Int) (w : World) (hs : SL w a n c ms) (ht : SL w b m d xs) (hn : n ≤ 4000000) (hm : m ≤ 4000000) :
    Calls Try.prog 15 #[mom p a n c, .slice b m d] w (ResJ w (wftP p ms xs) (wftV p ms xs) (wftU p ms xs) (wftC p ms xs)) := by
  have hl := hide hs.len
  have hl2 := hide ht.len
  have hb0 := bl2 w (.cells #[.int .i64 p, .slice a n c] 30) (.cells #[.int .i64 0, .slice none 0 0, .slice none 0 0] 27)
  have g1 := hs.below hb0
  have g2 := ht.below hb0
  cases hM : momB p ms
  · have HC := hide (show wftC p ms xs = 1 by simp [wftC, hM])
    have HE := hide (wft_err HC.out (by decide))
    have HM := hide hM
    clear hM
    go_enter Try.func15, Try.ntmps15
    go_wp2_with fail
    refine (areMoments_any _ _ _ _ _ _ g1 hn).mono ?_
    rintro e w2 ⟨rfl, hb1⟩
    rw [HM.out]
    have f0 : w2.cell? ⟨w.heap.size, 0, none⟩ = some (.int .i64 p) := cell_be hb1 (by simp [go_sem])
    have f1 : w2.cell? ⟨w.heap.size, 1, none⟩ = some (.slice a n c) := cell_be hb1 (by simp [go_sem])
    have r0 : w2.cell? ⟨w.heap.size + 1, 0, none⟩ = some (.int .i64 0) := cell_be hb1 (by simp [go_sem])
    have r1 : w2.cell? ⟨w.heap.size + 1, 1, none⟩ = some (.slice none 0 0) := cell_be hb1 (by simp [go_sem])
    have r2 : w2.cell? ⟨w.heap.size + 1, 2, none⟩ = some (.slice none 0 0) := cell_be hb1 (by simp [go_sem])
    have y0 : w2.frozen? ⟨w.heap.size + 1, 0, none⟩ = false := (hb1.frozen (by simp)).trans (by simp [go_sem])
    have y1 : w2.frozen? ⟨w.heap.size + 1, 1, none⟩ = false := (hb1.frozen (by simp)).trans (by simp [go_sem])
    have y2 : w2.frozen? ⟨w.heap.size + 1, 2, none⟩ = false := (hb1.frozen (by simp)).trans (by simp [go_sem])
    have hB2 := bnext hb0 hb1
    go_wp2
    refine bodyPost_ret (v := .tuple #[jac 0 none 0 0 none 0 0, .int .i64 1]) (by simp [results, Try.results15, go_sem, r0, r1, r2]) rfl ?_
    exact ResJ.nil HE.out.1 HE.out.2.1 HE.out.2.2 HC.out (((hB2.setCell (by simp) _).setCell (by simp) _).setCell (by simp) _)
  have HM := hide hM
  obtain ⟨hpr, n1, n2, hma⟩ := momB_rng hM
  obtain ⟨hp, hp2⟩ := primeB_lo hpr
  rw [hl.out] at n1 n2
  cases hL : lisB p xs 0 (n : Int)
  · have HC := hide (show wftC p ms xs = 2 by simp [wftC, hM, hl.out, hL])
    have HE := hide (wft_err HC.out (by decide))
    have HL := hide hL
    clear hM hL
    go_enter Try.func15, Try.ntmps15
    go_wp2_with fail
    refine (areMoments_any _ _ _ _ _ _ g1 hn).mono ?_
    rintro e w2 ⟨rfl, hb1⟩
    rw [HM.out]
    have f0 : w2.cell? ⟨w.heap.size, 0, none⟩ = some (.int .i64 p) := cell_be hb1 (by simp [go_sem])
    have f1 : w2.cell? ⟨w.heap.size, 1, none⟩ = some (.slice a n c) := cell_be hb1 (by simp [go_sem])
    have r0 : w2.cell? ⟨w.heap.size + 1, 0, none⟩ = some (.int .i64 0) := cell_be hb1 (by simp [go_sem])
    have r1 : w2.cell? ⟨w.heap.size + 1, 1, none⟩ = some (.slice none 0 0) := cell_be hb1 (by simp [go_sem])
    have r2 : w2.cell? ⟨w.heap.size + 1, 2, none⟩ = some (.slice none 0 0) := cell_be hb1 (by simp [go_sem])
    have y0 : w2.frozen? ⟨w.heap.size + 1, 0, none⟩ = false := (hb1.frozen (by simp)).trans (by simp [go_sem])
    have y1 : w2.frozen? ⟨w.heap.size + 1, 1, none⟩ = false := (hb1.frozen (by simp)).trans (by simp [go_sem])
    have y2 : w2.frozen? ⟨w.heap.size + 1, 2, none⟩ = false := (hb1.frozen (by simp)).trans (by simp [go_sem])
    have hB2 := bnext hb0 hb1
    go_wp2_with fail
    refine (isListFor_any p b m d xs 0 (n : Int) _ (g2.below hb1) hm).mono ?_
    rintro e v2 ⟨rfl, rfl⟩
    rw [HL.out]
    go_wp2
    refine bodyPost_ret (v := .tuple #[jac 0 none 0 0 none 0 0, .int .i64 2]) (by simp [results, Try.results15, go_sem, r0, r1, r2]) rfl ?_
    exact ResJ.nil HE.out.1 HE.out.2.1 HE.out.2.2 HC.out (((hB2.setCell (by simp) _).setCell (by simp) _).setCell (by simp) _)
  have HL := hide hL
  obtain ⟨_, m1, m2, hxa⟩ := lisB_rng hL
  rw [hl2.out] at m1 m2
  have HWF := hide (areB_wf hp2 hxa)
  cases hA : ascB xs
  · have HC := hide (show wftC p ms xs = 2 by simp [wftC, hM, hl.out, hL, hA])
    have HE := hide (wft_err HC.out (by decide))
    have HAs := hide hA
    clear hM hL hA
    go_enter Try.func15, Try.ntmps15
    go_wp2_with fail
    refine (areMoments_any _ _ _ _ _ _ g1 hn).mono ?_
    rintro e w2 ⟨rfl, hb1⟩
    rw [HM.out]
    have f0 : w2.cell? ⟨w.heap.size, 0, none⟩ = some (.int .i64 p) := cell_be hb1 (by simp [go_sem])
    have f1 : w2.cell? ⟨w.heap.size, 1, none⟩ = some (.slice a n c) := cell_be hb1 (by simp [go_sem])
    have r0 : w2.cell? ⟨w.heap.size + 1, 0, none⟩ = some (.int .i64 0) := cell_be hb1 (by simp [go_sem])
    have r1 : w2.cell? ⟨w.heap.size + 1, 1, none⟩ = some (.slice none 0 0) := cell_be hb1 (by simp [go_sem])
    have r2 : w2.cell? ⟨w.heap.size + 1, 2, none⟩ = some (.slice none 0 0) := cell_be hb1 (by simp [go_sem])
    have y0 : w2.frozen? ⟨w.heap.size + 1, 0, none⟩ = false := (hb1.frozen (by simp)).trans (by simp [go_sem])
    have y1 : w2.frozen? ⟨w.heap.size + 1, 1, none⟩ = false := (hb1.frozen (by simp)).trans (by simp [go_sem])
    have y2 : w2.frozen? ⟨w.heap.size + 1, 2, none⟩ = false := (hb1.frozen (by simp)).trans (by simp [go_sem])
    have hB2 := bnext hb0 hb1
    go_wp2_with fail
    refine (isListFor_any p b m d xs 0 (n : Int) _ (g2.below hb1) hm).mono ?_
    rintro e v2 ⟨rfl, rfl⟩
    rw [HL.out]
    go_wp2_with fail
    refine (areAscending_any b m d xs _ (g2.below hb1) (by omega) HWF.out).mono ?_
    rintro e w3 ⟨rfl, hb2⟩
    rw [HAs.out]
    replace y0 := (hb2.frozen (World.block_lt_of_cell? _ _ r0)).trans y0
    replace y1 := (hb2.frozen (World.block_lt_of_cell? _ _ r1)).trans y1
    replace y2 := (hb2.frozen (World.block_lt_of_cell? _ _ r2)).trans y2
    replace f0 := cell_be hb2 f0
    replace f1 := cell_be hb2 f1
    replace r0 := cell_be hb2 r0
    replace r1 := cell_be hb2 r1
    replace r2 := cell_be hb2 r2
    have hB3 := bnext hB2 hb2
    go_wp2
    refine bodyPost_ret (v := .tuple #[jac 0 none 0 0 none 0 0, .int .i64 2]) (by simp [results, Try.results15, go_sem, r0, r1, r2]) rfl ?_
    exact ResJ.nil HE.out.1 HE.out.2.1 HE.out.2.2 HC.out (((hB3.setCell (by simp) _).setCell (by simp) _).setCell (by simp) _)
  have HAs := hide hA
  have HC := hide (show wftC p ms xs = 0 by simp [wftC, hM, hl.out, hL, hA])
  have HQ := hide (show wftP p ms xs = p by unfold wftP; rw [if_pos HC.out])
  have HV := hide (show wftV p ms xs = xs by unfold wftV; rw [if_pos HC.out])
  have HU := hide (show wftU p ms xs = wfW p ms xs by unfold wftU; rw [if_pos HC.out])
  have HW := hide (zipW_wts (xs := xs) hp (wfW_are hp ms xs))
  have HPu := hide (puts_zip p (ys := wfW p ms xs) hA)
  have HZl := hide (show (zipW xs (wfW p ms xs)).length = m by rw [zipW_len, hl2.out])
  have HN := hide (nodesZ (xs := xs) (ys := wfW p ms xs))
  have HT := hide (wtsZ (wfW_len p ms xs))
  have HPr := hide hpr
  have HMa := hide hma
  have HXa := hide hxa
  clear hM hL hA hpr hma hxa
  go_enter Try.func15, Try.ntmps15
  go_wp2_with fail
  refine (areMoments_any _ _ _ _ _ _ g1 hn).mono ?_
  rintro e w2 ⟨rfl, hb1⟩
  rw [HM.out]
  have f0 : w2.cell? ⟨w.heap.size, 0, none⟩ = some (.int .i64 p) := cell_be hb1 (by simp [go_sem])
  have f1 : w2.cell? ⟨w.heap.size, 1, none⟩ = some (.slice a n c) := cell_be hb1 (by simp [go_sem])
  have r0 : w2.cell? ⟨w.heap.size + 1, 0, none⟩ = some (.int .i64 0) := cell_be hb1 (by simp [go_sem])
  have r1 : w2.cell? ⟨w.heap.size + 1, 1, none⟩ = some (.slice none 0 0) := cell_be hb1 (by simp [go_sem])
  have r2 : w2.cell? ⟨w.heap.size + 1, 2, none⟩ = some (.slice none 0 0) := cell_be hb1 (by simp [go_sem])
  have y0 : w2.frozen? ⟨w.heap.size + 1, 0, none⟩ = false := (hb1.frozen (by simp)).trans (by simp [go_sem])
  have y1 : w2.frozen? ⟨w.heap.size + 1, 1, none⟩ = false := (hb1.frozen (by simp)).trans (by simp [go_sem])
  have y2 : w2.frozen? ⟨w.heap.size + 1, 2, none⟩ = false := (hb1.frozen (by simp)).trans (by simp [go_sem])
  have hB2 := bnext hb0 hb1
  go_wp2_with fail
  refine (isListFor_any p b m d xs 0 (n : Int) _ (g2.below hb1) hm).mono ?_
  rintro e v2 ⟨rfl, rfl⟩
  rw [HL.out]
  go_wp2_with fail
  refine (areAscending_any b m d xs _ (g2.below hb1) (by omega) HWF.out).mono ?_
  rintro e w3 ⟨rfl, hb2⟩
  rw [HAs.out]
  replace y0 := (hb2.frozen (World.block_lt_of_cell? _ _ r0)).trans y0
  replace y1 := (hb2.frozen (World.block_lt_of_cell? _ _ r1)).trans y1
  replace y2 := (hb2.frozen (World.block_lt_of_cell? _ _ r2)).trans y2
  replace f0 := cell_be hb2 f0
  replace f1 := cell_be hb2 f1
  replace r0 := cell_be hb2 r0
  replace r1 := cell_be hb2 r1
  replace r2 := cell_be hb2 r2
  have hB3 := bnext hB2 hb2
  have z2 : w.heap.size + 2 ≤ w3.heap.size := by have q1 := hb1.size; have q2 := hb2.size; simp at q1; omega
  go_wp2_with fail
  refine (ruleOf_weights p a n c b m d (zipW xs (wfW p ms xs)) _ hp hp2 (by rw [HZl.out]; omega) HW.out (fun w' hb => ?_)).mono ?_
  · rw [HZl.out]
    refine (weightsParts_any p a n c ms b m d xs w' (hs.below (bnext hB3 hb)) (ht.below (bnext hB3 hb)) n2 (by omega) HPr.out HMa.out HXa.out).mono ?_
    rintro e u ⟨g, rfl, hg, hP, hB⟩
    exact ⟨g, m, rfl, hg, hP, hB⟩
  rw [HPu.out]
  rintro e w4 ⟨a3, c3, b3, d3, rfl, hJ, t3⟩
  rw [HN.out, HT.out, HZl.out] at hJ
  rw [HZl.out]
  have hJ' := hide hJ
  have hB4 := bnext hB3 t3
  replace y0 := (t3.frozen (World.block_lt_of_cell? _ _ r0)).trans y0
  replace y1 := (t3.frozen (World.block_lt_of_cell? _ _ r1)).trans y1
  replace y2 := (t3.frozen (World.block_lt_of_cell? _ _ r2)).trans y2
  replace f0 := cell_be t3 f0
  replace f1 := cell_be t3 f1
  replace r0 := cell_be t3 r0
  replace r1 := cell_be t3 r1
  replace r2 := cell_be t3 r2
  clear hJ t3
  go_wp2
  refine bodyPost_ret (v := .tuple #[jac p a3 m c3 b3 m d3, .int .i64 0]) (by simp [results, Try.results15, go_sem, r0, r1, r2]) rfl ?_
  have j2 := ((hJ'.out.setLow (x := ⟨w.heap.size + 1, 0, none⟩) (by simp; omega) (.int .i64 p)).setLow (x := ⟨w.heap.size + 1, 1, none⟩) (by simp; omega) (.slice a3 m c3)).setLow (x := ⟨w.heap.size + 1, 2, none⟩) (by simp; omega) (.slice b3 m d3)
  exact ResJ.mk HQ.out HC.out (by rw [HV.out]; exact hl2.out.symm) (by rw [HU.out, wfW_len]; exact hl2.out.symm) (by rw [HV.out, HU.out]; simpa using j2.mono (lo' := w.heap.size) (by omega) (Nat.le_refl _)) (by rw [HV.out, hl2.out]; omega) (by rw [HU.out, wfW_len, hl2.out]; omega) (((hB4.setCell (by simp) _).setCell (by simp) _).setCell (by simp) _)
end Go.Proofs.Ytcadiepghhnbeaa
