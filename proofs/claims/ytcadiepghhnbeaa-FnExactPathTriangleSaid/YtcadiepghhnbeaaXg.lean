/- Contracts: l09Code, PathSum (model). -/
import Derived.Test.YtcadiepghhnbeaaXf
import Derived.Test.YtcadiepghhnbeaaXe
import Derived.Deep.QuietTactic
namespace Go.Proofs.Ytcadiepghhnbeaa
open Go.RowKit
set_option linter.unusedVariables false
set_option linter.unusedSimpArgs false

def hgtB (N : Int) (zs : List Int) : Bool := zs.all (fun z => decide (0 ≤ z ∧ z ≤ N))
theorem hgtB_snoc (N : Int) (zs : List Int) (k : Nat) (h : k < zs.length) : hgtB N (zs.take (k + 1)) = (hgtB N (zs.take k) && decide (0 ≤ zs.getD k 0 ∧ zs.getD k 0 ≤ N)) := by
  unfold hgtB
  rw [take_snocI zs k h, List.all_append]
  simp
theorem hgtB_false (N : Int) (zs : List Int) (k : Nat) (h : k < zs.length) (hx : ¬ (0 ≤ zs.getD k 0 ∧ zs.getD k 0 ≤ N)) : hgtB N zs = false := by
  rw [Bool.eq_false_iff]
  intro hh
  unfold hgtB at hh
  rw [List.all_eq_true] at hh
  have hm : zs.getD k 0 ∈ zs := by
    rw [List.getD_eq_getElem?_getD, List.getElem?_eq_getElem h]
    exact List.getElem_mem h
  have := hh _ hm
  exact hx (by simpa using this)
def l9C (p : Int) (xs ys : List Int) (n : Int) (zs : List Int) : Int := if jcd p xs ys n 0 24 = 0 then (if hgtB ((xs.length : Int) - 1) zs then 0 else 2) else jcd p xs ys n 0 24
set_option maxRecDepth 100000 in
set_option maxHeartbeats 1600000 in
theorem l09Code_any (p : Int) (a : Option Addr) (n c : Nat) (xs : List Int) (b : Option Addr) (m d : Nat) (ys : List Int) (k : Int) (s : Option Addr) (ks cs : Nat) (zs : List Int) (w : World) (hs : SL w a n c xs) (ht : SL w b m d ys) (hz : SL w s ks cs zs) (hn : n ≤ 4000000) (hm : m ≤ 4000000) (hk : ks ≤ 1000) :
    Calls Try.prog 57 #[jac p a n c b m d, .int .i64 k, .slice s ks cs] w fun e w' => e = .returned (.int .i64 (l9C p xs ys k zs)) ∧ Below w.heap.size w w' := by
  have hl := hide hs.len
  have hlz := hide hz.len
  have hb0 := bl1 w (.cells #[.int .i64 p, .slice a n c, .slice b m d] 45)
  have g1 := hs.below hb0
  have g2 := ht.below hb0
  cases hj : jacB p xs ys
  · have H := hide (show l9C p xs ys k zs = 1 by simp [l9C, jcd, hj])
    have Hj := hide hj
    clear hj
    go_enter Try.func57, Try.ntmps57
    go_wp2_with fail
    refine (l03Is_any _ _ _ _ _ _ _ _ _ _ g1 g2 hn hm).mono ?_
    rintro e w1 ⟨rfl, hb1⟩
    rw [Hj.out]
    go_wp2
    go_ret
    exact ⟨ret_int H.out.symm, bnext hb0 hb1⟩
  have Hj := hide hj
  by_cases h : 0 ≤ k ∧ k ≤ 24
  rotate_left
  · have H := hide (show l9C p xs ys k zs = 2 by unfold l9C; rw [show jcd p xs ys k 0 24 = 2 by simp only [jcd, hj, if_true]; rw [if_neg h]]; rfl)
    have Hh := hide h
    clear hj h
    go_enter Try.func57, Try.ntmps57
    go_wp2_with fail
    refine (l03Is_any _ _ _ _ _ _ _ _ _ _ g1 g2 hn hm).mono ?_
    rintro e w1 ⟨rfl, hb1⟩
    rw [Hj.out]
    go_wp2_with fail
    refine (l01In_no _ _ _ _ Hh.out).mono ?_
    rintro e w2 ⟨rfl, rfl⟩
    go_wp2
    go_ret
    exact ⟨ret_int H.out.symm, bnext hb0 hb1⟩
  have H := hide (show l9C p xs ys k zs = if hgtB ((n : Int) - 1) zs then 0 else 2 by unfold l9C; rw [if_pos (by simp only [jcd, hj, if_true]; rw [if_pos h]), hl.out])
  have vn : IntKind.i64.wrap ((n : Int) - 1) = (n : Int) - 1 := IntWalk.i64_in _ (by omega)
  clear hj
  go_enter Try.func57, Try.ntmps57
  go_wp2_with fail
  refine (l03Is_any _ _ _ _ _ _ _ _ _ _ g1 g2 hn hm).mono ?_
  rintro e w1 ⟨rfl, hb1⟩
  rw [Hj.out]
  have e1 : w1.cell? ⟨w.heap.size, 1, none⟩ = some (.slice a n c) := cell_be hb1 (by simp [go_sem])
  have B1 := bnext hb0 hb1
  clear hb0 hb1 g1 g2
  go_wp2_with fail
  refine (l01In_yes _ _ _ _ h.1 h.2).mono ?_
  rintro e w2 ⟨rfl, rfl⟩
  clear h
  go_wp2
  have Z0 := hide (show hgtB ((n : Int) - 1) (zs.take 0) = true by simp [hgtB])
  go_loopw [7] (fun iv wr => ∃ i : Nat, i ≤ ks ∧ iv = .int .i64 i ∧ Hid (hgtB ((n : Int) - 1) (zs.take i) = true) ∧ Below w.heap.size w wr ∧ wr.cell? ⟨w.heap.size, 1, none⟩ = some (.slice a n c)) (fun iv _ => ks - (intOf iv).toNat)
  case atStart => exact ⟨0, by omega, rfl, Z0, B1, e1⟩
  case round =>
    obtain ⟨i, hi, rfl, hI, hBr, e1r⟩ := hrel
    clear Z0 B1 e1
    by_cases hlt : i < ks
    · have hlt' : (i : Int) < (ks : Int) := by omega
      have q0 : (0 : Int) ≤ (i : Int) := by omega
      obtain ⟨g, o, rfl, hg, hc⟩ := hz.at (by omega)
      have ec := cell_be hBr (hc i hlt)
      have Hn := hide (hgtB_snoc ((n : Int) - 1) zs i (by rw [hlz.out]; exact hlt))
      have Hf := hide (hgtB_false ((n : Int) - 1) zs i (by rw [hlz.out]; exact hlt))
      obtain ⟨x, hx⟩ : ∃ x, zs.getD i 0 = x := ⟨_, rfl⟩
      rw [hx] at ec Hn Hf
      clear hc hx
      by_cases hin : 0 ≤ x ∧ x ≤ (n : Int) - 1
      · have HN := hide (show hgtB ((n : Int) - 1) (zs.take (i + 1)) = true by rw [Hn.out, hI.out]; simp [hin])
        have Hin := hide hin
        clear hin
        go_wp2
        go_quiet (first | (go_at_call 72; refine Calls.quiet_of_same (still_of (l01In_yes _ _ _ _ Hin.out.1 Hin.out.2))))
        go_wp2
        go_roundw
        case rel => exact ⟨i + 1, by omega, by go_num, HN, below_drewN hBr _, by simpa using e1r⟩
        case measure => simp [intOf]; omega
      · have HN := hide (show l9C p xs ys k zs = 2 by rw [H.out, Hf.out hin]; rfl)
        have Hin := hide hin
        clear hin
        go_wp2
        go_quiet (first | (go_at_call 72; refine Calls.quiet_of_same (still_of (l01In_no _ _ _ _ Hin.out))))
        go_wp2
        go_ret
        exact ⟨ret_int HN.out.symm, below_drewN hBr _⟩
    · have hik : i = ks := by omega
      have HN := hide (show l9C p xs ys k zs = 0 by
        have t := hI.out
        rw [hik, List.take_of_length_le (by rw [hlz.out]; exact Nat.le_refl _)] at t
        rw [H.out, t]; rfl)
      have hge : ¬ (i : Int) < (ks : Int) := by omega
      clear hik
      go_wp2
      go_ret
      exact ⟨ret_int HN.out.symm, hBr⟩
theorem l9C_pth (p : Int) (xs ys : List Int) (n i k : Int) : l9C p xs ys n [i, k] = pthC p xs ys n i k := by
  unfold l9C pthC hgtB
  split
  · have e : ([i, k].all fun z => decide (0 ≤ z ∧ z ≤ (xs.length : Int) - 1)) = decide ((0 ≤ i ∧ i < (xs.length : Int)) ∧ 0 ≤ k ∧ k < (xs.length : Int)) := by
      simp only [List.all_cons, List.all_nil, Bool.and_true]
      rw [Bool.eq_iff_iff]
      simp only [Bool.and_eq_true, decide_eq_true_eq]
      omega
    rw [e]
    simp only [decide_eq_true_eq]
  · rfl
set_option maxRecDepth 100000 in
set_option maxHeartbeats 1600000 in
theorem specPathSum (p : Int) (a : Option Addr) (n c : Nat) (xs : List Int) (b : Option Addr) (m d : Nat) (ys : List Int) (k i l : Int) (w : World) (hs : SL w a n c xs) (ht : SL w b m d ys) (hn : n ≤ 4000000) (hm : m ≤ 4000000) :
    Calls Try.prog 24 #[jac p a n c b m d, .int .i64 k, .int .i64 i, .int .i64 l] w fun e w' => e = .returned (.tuple #[.int .i64 (pthV p xs ys k i l), .int .i64 (pthC p xs ys k i l)]) ∧ Below w.heap.size w w' := by
  have hl := hide hs.len
  have hl2 := hide ht.len
  have hb0 := bl1 w (.cells #[.int .i64 p, .slice a n c, .slice b m d] 45)
  obtain ⟨wx, hwx⟩ : ∃ wx, wx = w.alloc (.cells #[.int .i64 p, .slice a n c, .slice b m d] 45) := ⟨_, rfl⟩
  have hxs : wx.heap.size = w.heap.size + 1 := by rw [hwx]; simp
  have hsz : SL (wx.alloc (.cells #[.int .i64 i, .int .i64 l] 2)) (some ⟨wx.heap.size, 0, none⟩) 2 2 [i, l] := by
    refine ⟨rfl, ⟨Nat.le_refl _, fun e => by cases e⟩, .inr ⟨_, _, rfl, fun j hj => ?_⟩⟩
    rcases (show j = 0 ∨ j = 1 by omega) with rfl | rfl <;> simp [go_sem]
  have hb1 := bl1 wx (.cells #[.int .i64 i, .int .i64 l] 2)
  rw [hwx] at hsz hb1 hxs
  rw [hxs] at hsz
  have hb2 := bnext hb0 hb1
  have g1 := hs.below hb2
  have g2 := ht.below hb2
  have Z := hide (l9C_pth p xs ys k i l)
  have e1 : ((w.alloc (.cells #[.int .i64 p, .slice a n c, .slice b m d] 45)).alloc (.cells #[.int .i64 i, .int .i64 l] 2)).cell? ⟨w.heap.size, 0, none⟩ = some (.int .i64 p) := by simp [go_sem]
  have e2 : ((w.alloc (.cells #[.int .i64 p, .slice a n c, .slice b m d] 45)).alloc (.cells #[.int .i64 i, .int .i64 l] 2)).cell? ⟨w.heap.size, 1, none⟩ = some (.slice a n c) := by simp [go_sem]
  have e3 : ((w.alloc (.cells #[.int .i64 p, .slice a n c, .slice b m d] 45)).alloc (.cells #[.int .i64 i, .int .i64 l] 2)).cell? ⟨w.heap.size, 2, none⟩ = some (.slice b m d) := by simp [go_sem]
  clear hwx hxs hb0 hb1
  by_cases hC : pthC p xs ys k i l = 0
  rotate_left
  · have HV := hide (show pthV p xs ys k i l = 0 by unfold pthV; rw [if_neg hC])
    go_enter Try.func24, Try.ntmps24
    go_wp2_with fail
    refine (l09Code_any p a n c xs b m d ys k _ 2 2 [i, l] _ g1 g2 hsz hn hm (by omega)).mono ?_
    rintro e w1 ⟨rfl, t1⟩
    rw [Z.out]
    obtain ⟨C, hCC⟩ : ∃ C, pthC p xs ys k i l = C := ⟨_, rfl⟩
    rw [hCC] at hC ⊢
    have B1 := bnext hb2 t1
    have HCC := hide hCC
    clear hCC
    go_wp2
    refine bodyPost_ret (v := .tuple #[.int .i64 0, .int .i64 C]) (by simp [results, Try.results24, go_sem]) rfl ?_
    exact ⟨by rw [HV.out, HCC.out], B1⟩
  have hj : jcd p xs ys k 0 24 = 0 := by
    unfold pthC at hC
    split at hC
    · assumption
    · exact hC
  have hR : (0 ≤ i ∧ i < (n : Int)) ∧ 0 ≤ l ∧ l < (n : Int) := by
    unfold pthC at hC
    rw [if_pos hj, hl.out] at hC
    split at hC
    · assumption
    · cases hC
  rcases jcd_cases p xs ys k 0 24 with h | h | ⟨_, hJ, k0, k1⟩
  · rw [h] at hj; cases hj
  · rw [h] at hj; cases hj
  obtain ⟨hpr, l1, l12, l2, hax, hay⟩ := jacB_rng hJ
  obtain ⟨hp, hp2⟩ := primeB_lo hpr
  obtain rfl : m = n := by rw [← hl2.out, ← hl.out]; omega
  rw [hl.out] at l1 l12
  have HE := hide hC
  have HA := hide hax
  have HB := hide (posB_are hay)
  have HV := hide (show pthV p xs ys k i l = sumP p xs ys m i.toNat k.toNat l.toNat by unfold pthV; rw [if_pos hC, hl.out])
  obtain ⟨N, rfl⟩ : ∃ N : Nat, k = N := ⟨k.toNat, by omega⟩
  obtain ⟨I, rfl⟩ : ∃ I : Nat, i = I := ⟨i.toNat, by omega⟩
  obtain ⟨K, rfl⟩ : ∃ K : Nat, l = K := ⟨l.toNat, by omega⟩
  simp only [Int.toNat_natCast] at HV
  rw [hC] at Z
  have hK : (K : Int) < (m : Int) := by omega
  have hI : (I : Int) < (m : Int) := by omega
  clear hC hj hJ hpr hax hay l2 hR
  go_enter Try.func24, Try.ntmps24
  go_wp2_with fail
  refine (l09Code_any p a m c xs b m d ys N _ 2 2 [(I : Int), (K : Int)] _ g1 g2 hsz hm hm (by omega)).mono ?_
  rintro e w1 ⟨rfl, t1⟩
  rw [Z.out]
  have B1 := bnext hb2 t1
  replace e1 := cell_be t1 e1
  replace e2 := cell_be t1 e2
  replace e3 := cell_be t1 e3
  have S1 := hide (hs.below B1)
  have S2 := hide (ht.below B1)
  clear g1 g2 hsz hb2 t1
  go_wp2_with fail
  refine (l09Sums_any p a m c xs b d ys N I m _ S1.out S2.out (by omega) (Nat.le_refl _) (by omega) (by omega) hp hp2 HA.out HB.out).mono ?_
  rintro e w2 ⟨a', rfl, o2, t2⟩
  have B2 := bnext B1 t2
  have q := o2.sl
  rw [rowP_len] at q
  obtain ⟨g, o, rfl, hg, hc⟩ := q.at (by omega)
  have ec := hc K (by omega)
  rw [show (rowP p xs ys m I N).getD K 0 = pthV p xs ys N I K from HV.out.symm] at ec
  obtain ⟨V, hV⟩ : ∃ V, pthV p xs ys N I K = V := ⟨_, rfl⟩
  rw [hV] at ec
  have HVV := hide hV
  clear q hc o2 t2 hV
  go_wp2
  refine bodyPost_ret (v := .tuple #[.int .i64 V, .int .i64 0]) (by simp [results, Try.results24, go_sem]) rfl ?_
  exact ⟨by rw [HE.out, HVV.out], B2⟩
end Go.Proofs.Ytcadiepghhnbeaa
