/- Merged texts. -/
import Derived.Test.YthahcnmfaghohaaYTC26
import Derived.Test.YthahcnmfaghohaaYTC25
import Derived.Deep.QuietTactic
/- Contracts: l09Code, PathSum (model). -/
namespace Go.Proofs.Ythahcnmfaghohaa
open Go.RowKit
set_option linter.unusedVariables false
set_option linter.unusedSimpArgs false

def hgtB (N : Int) (zs : List Int) : Bool := zs.all (fun z => decide (0 ≤ z ∧ z ≤ N))
theorem hgtB_snoc (N : Int) (zs : List Int) (k : Nat) (h : k < zs.length) : hgtB N (zs.take (k + 1)) = (hgtB N (zs.take k) && decide (0 ≤ zs.getD k 0 ∧ zs.getD k 0 ≤ N)) := by
  unfold hgtB
  rw [take_snocI zs k h, List.all_append]
  simp
theorem hgtB_false (N : Int) (zs : List Int) (k : Nat) (h : k < zs.length) (hx : ¬ (0 ≤ zs.getD k 0 ∧ zs.getD k 0 ≤ N)) : hgtB N zs = false := by
  rw [Bool.eq_false_iff]
  intro hh
  unfold hgtB at hh
  rw [List.all_eq_true] at hh
  have hm : zs.getD k 0 ∈ zs := by
    rw [List.getD_eq_getElem?_getD, List.getElem?_eq_getElem h]
    exact List.getElem_mem h
  have := hh _ hm
  exact hx (by simpa using this)
def l9C (p : Int) (xs ys : List Int) (n : Int) (zs : List Int) : Int := if jcd p xs ys n 0 24 = 0 then (if hgtB ((xs.length : Int) - 1) zs then 0 else 2) else jcd p xs ys n 0 24
set_option maxRecDepth 100000 in
set_option maxHeartbeats 1600000 in
theorem l09Code_any (p : Int) (a : Option Addr) (n c : Nat) (xs : List Int) (b : Option Addr) (m d : Nat) (ys : List Int) (k : Int) (s : Option Addr) (ks cs : Nat) (zs : List Int) (w : World) (hs : SL w a n c xs) (ht : SL w b m d ys) (hz : SL w s ks cs zs) (hn : n ≤ 4000000) (hm : m ≤ 4000000) (hk : ks ≤ 1000) :
    Calls Try.prog 25 #[jac p a n c b m d, .int .i64 k, .slice s ks cs] w fun e w' => e = .returned (.int .i64 (l9C p xs ys k zs)) ∧ Below w.heap.size w w' := by
  have hl := hide hs.len
  have hlz := hide hz.len
  have hb0 := bl1 w (.cells #[.int .i64 p, .slice a n c, .slice b m d] 28)
  have g1 := hs.below hb0
  have g2 := ht.below hb0
  cases hj : jacB p xs ys
  · have H := hide (show l9C p xs ys k zs = 1 by simp [l9C, jcd, hj])
    have Hj := hide hj
    clear hj
    go_enter Try.func25, Try.ntmps25
    go_wp2_with fail
    refine (l03Is_any _ _ _ _ _ _ _ _ _ _ g1 g2 hn hm).mono ?_
    rintro e w1 ⟨rfl, hb1⟩
    rw [Hj.out]
    go_wp2
    go_ret
    exact ⟨ret_int H.out.symm, bnext hb0 hb1⟩
  have Hj := hide hj
  by_cases h : 0 ≤ k ∧ k ≤ 24
  rotate_left
  · have H := hide (show l9C p xs ys k zs = 2 by unfold l9C; rw [show jcd p xs ys k 0 24 = 2 by simp only [jcd, hj, if_true]; rw [if_neg h]]; rfl)
    have Hh := hide h
    clear hj h
    go_enter Try.func25, Try.ntmps25
    go_wp2_with fail
    refine (l03Is_any _ _ _ _ _ _ _ _ _ _ g1 g2 hn hm).mono ?_
    rintro e w1 ⟨rfl, hb1⟩
    rw [Hj.out]
    go_wp2_with fail
    refine (l01In_no _ _ _ _ Hh.out).mono ?_
    rintro e w2 ⟨rfl, rfl⟩
    go_wp2
    go_ret
    exact ⟨ret_int H.out.symm, bnext hb0 hb1⟩
  have H := hide (show l9C p xs ys k zs = if hgtB ((n : Int) - 1) zs then 0 else 2 by unfold l9C; rw [if_pos (by simp only [jcd, hj, if_true]; rw [if_pos h]), hl.out])
  have vn : IntKind.i64.wrap ((n : Int) - 1) = (n : Int) - 1 := IntWalk.i64_in _ (by omega)
  clear hj
  go_enter Try.func25, Try.ntmps25
  go_wp2_with fail
  refine (l03Is_any _ _ _ _ _ _ _ _ _ _ g1 g2 hn hm).mono ?_
  rintro e w1 ⟨rfl, hb1⟩
  rw [Hj.out]
  have e1 : w1.cell? ⟨w.heap.size, 1, none⟩ = some (.slice a n c) := cell_be hb1 (by simp [go_sem])
  have B1 := bnext hb0 hb1
  clear hb0 hb1 g1 g2
  go_wp2_with fail
  refine (l01In_yes _ _ _ _ h.1 h.2).mono ?_
  rintro e w2 ⟨rfl, rfl⟩
  clear h
  go_wp2
  have Z0 := hide (show hgtB ((n : Int) - 1) (zs.take 0) = true by simp [hgtB])
  go_loopw [7] (fun iv wr => ∃ i : Nat, i ≤ ks ∧ iv = .int .i64 i ∧ Hid (hgtB ((n : Int) - 1) (zs.take i) = true) ∧ Below w.heap.size w wr ∧ wr.cell? ⟨w.heap.size, 1, none⟩ = some (.slice a n c)) (fun iv _ => ks - (intOf iv).toNat)
  case atStart => exact ⟨0, by omega, rfl, Z0, B1, e1⟩
  case round =>
    obtain ⟨i, hi, rfl, hI, hBr, e1r⟩ := hrel
    clear Z0 B1 e1
    by_cases hlt : i < ks
    · have hlt' : (i : Int) < (ks : Int) := by omega
      have q0 : (0 : Int) ≤ (i : Int) := by omega
      obtain ⟨g, o, rfl, hg, hc⟩ := hz.at (by omega)
      have ec := cell_be hBr (hc i hlt)
      have Hn := hide (hgtB_snoc ((n : Int) - 1) zs i (by rw [hlz.out]; exact hlt))
      have Hf := hide (hgtB_false ((n : Int) - 1) zs i (by rw [hlz.out]; exact hlt))
      obtain ⟨x, hx⟩ : ∃ x, zs.getD i 0 = x := ⟨_, rfl⟩
      rw [hx] at ec Hn Hf
      clear hc hx
      by_cases hin : 0 ≤ x ∧ x ≤ (n : Int) - 1
      · have HN := hide (show hgtB ((n : Int) - 1) (zs.take (i + 1)) = true by rw [Hn.out, hI.out]; simp [hin])
        have Hin := hide hin
        clear hin
        go_wp2
        go_quiet (first | (go_at_call 31; refine Calls.quiet_of_same (still_of (l01In_yes _ _ _ _ Hin.out.1 Hin.out.2))))
        go_wp2
        go_roundw
        case rel => exact ⟨i + 1, by omega, by go_num, HN, below_drewN hBr _, by simpa using e1r⟩
        case measure => simp [intOf]; omega
      · have HN := hide (show l9C p xs ys k zs = 2 by rw [H.out, Hf.out hin]; rfl)
        have Hin := hide hin
        clear hin
        go_wp2
        go_quiet (first | (go_at_call 31; refine Calls.quiet_of_same (still_of (l01In_no _ _ _ _ Hin.out))))
        go_wp2
        go_ret
        exact ⟨ret_int HN.out.symm, below_drewN hBr _⟩
    · have hik : i = ks := by omega
      have HN := hide (show l9C p xs ys k zs = 0 by
        have t := hI.out
        rw [hik, List.take_of_length_le (by rw [hlz.out]; exact Nat.le_refl _)] at t
        rw [H.out, t]; rfl)
      have hge : ¬ (i : Int) < (ks : Int) := by omega
      clear hik
      go_wp2
      go_ret
      exact ⟨ret_int HN.out.symm, hBr⟩
end Go.Proofs.Ythahcnmfaghohaa
/- Contracts: WeightOfPath (model). -/
namespace Go.Proofs.Ythahcnmfaghohaa
open Go.RowKit
set_option linter.unusedVariables false
set_option linter.unusedSimpArgs false

theorem okS_pre {s : ByteArray} {i : Int} {k : Nat} : ∀ n, okS s i n = true → k ≤ n → okS s i k = true
  | 0, h, hk => by
    obtain rfl : k = 0 := by omega
    exact h
  | n + 1, h, hk => by
    by_cases e : k = n + 1
    · rw [e]; exact h
    · rw [okS, Bool.and_eq_true, Bool.and_eq_true] at h
      exact okS_pre n h.1.1 (by omega)
theorem okS_let {s : ByteArray} {i : Int} {k n : Nat} (h : okS s i n = true) (hk : k < n) : bt s k = 85 ∨ bt s k = 68 ∨ bt s k = 76 := by
  have := okS_pre (k := k + 1) n h (by omega)
  rw [okS, Bool.and_eq_true, Bool.and_eq_true] at this
  simpa [lvB, or_assoc] using this.1.2
theorem okS_pos {s : ByteArray} {i : Int} {k n : Nat} (hi : 0 ≤ i) (h : okS s i n = true) (hk : k ≤ n) : 0 ≤ hg s i k := okS_lo hi k (okS_pre n h hk)
theorem loS_at {s : ByteArray} {i m : Int} {k : Nat} : ∀ n, loS s i m n = true → k < n → hg s i k < m
  | 0, _, hk => by omega
  | n + 1, h, hk => by
    rw [loS, Bool.and_eq_true] at h
    by_cases e : k = n
    · rw [e]; exact of_decide_eq_true h.2
    · exact loS_at n h.1 (by omega)
theorem wg_rng {p : Int} (hp : 2 ≤ p) (A B : List Int) (s : ByteArray) (i : Int) : ∀ k, 0 ≤ wg p A B s i k ∧ wg p A B s i k < p
  | 0 => by simp [wg]; omega
  | k + 1 => ⟨Int.emod_nonneg _ (by omega), Int.emod_lt_of_pos _ (by omega)⟩
/-- a path of at most 24 steps that stays on the ground of m heights -/
def pthB (s : ByteArray) (i m : Int) : Bool := okS s i s.size && decide (s.size ≤ 24) && loS s i m (s.size + 1)
def wptC (p : Int) (xs ys : List Int) (s : ByteArray) (i : Int) : Int := if l9C p xs ys 0 [i] = 0 then (if pthB s i xs.length then 0 else 2) else l9C p xs ys 0 [i]
def wptV (p : Int) (xs ys : List Int) (s : ByteArray) (i : Int) : Int := if wptC p xs ys s i = 0 then wg p xs ys s i s.size else 0
theorem l9C_one {p : Int} {xs ys : List Int} {i : Int} (h : l9C p xs ys 0 [i] = 0) : jacB p xs ys = true ∧ 0 ≤ i ∧ i < (xs.length : Int) := by
  unfold l9C at h
  split at h
  · rename_i hj
    rcases jcd_cases p xs ys 0 0 24 with h1 | h1 | ⟨_, hJ, _⟩
    · rw [h1] at hj; cases hj
    · rw [h1] at hj; cases hj
    refine ⟨hJ, ?_⟩
    split at h
    · rename_i hh
      simp [hgtB] at hh
      omega
    · cases h
  · rename_i hj; exact absurd h hj
set_option maxRecDepth 100000 in
set_option maxHeartbeats 6400000 in
theorem specWeightOfPath (p : Int) (a : Option Addr) (n c : Nat) (xs : List Int) (b : Option Addr) (m d : Nat) (ys : List Int) (s : ByteArray) (i : Int) (w : World) (hs : SL w a n c xs) (ht : SL w b m d ys) (hn : n ≤ 4000000) (hm : m ≤ 4000000) (hz : s.size ≤ 1048576) :
    Calls Try.prog 8 #[jac p a n c b m d, .string s, .int .i64 i] w fun e w' => e = .returned (.tuple #[.int .i64 (wptV p xs ys s i), .int .i64 (wptC p xs ys s i)]) ∧ Below w.heap.size w w' := by
  have hl := hide hs.len
  have hl2 := hide ht.len
  have hb0 := bl1 w (.cells #[.int .i64 p, .slice a n c, .slice b m d] 28)
  have hsz : SL ((w.alloc (.cells #[.int .i64 p, .slice a n c, .slice b m d] 28)).alloc (.cells #[.int .i64 i] 2)) (some ⟨w.heap.size + 1, 0, none⟩) 1 1 [i] := by simpa using litSL (w.alloc (.cells #[.int .i64 p, .slice a n c, .slice b m d] 28)) i
  have hb1 := bl1 (w.alloc (.cells #[.int .i64 p, .slice a n c, .slice b m d] 28)) (.cells #[.int .i64 i] 2)
  have hb2 := bnext hb0 hb1
  have g1 := hs.below hb2
  have g2 := ht.below hb2
  have e0 : ((w.alloc (.cells #[.int .i64 p, .slice a n c, .slice b m d] 28)).alloc (.cells #[.int .i64 i] 2)).cell? ⟨w.heap.size, 0, none⟩ = some (.int .i64 p) := by simp [go_sem]
  have e1 : ((w.alloc (.cells #[.int .i64 p, .slice a n c, .slice b m d] 28)).alloc (.cells #[.int .i64 i] 2)).cell? ⟨w.heap.size, 1, none⟩ = some (.slice a n c) := by simp [go_sem]
  have e2 : ((w.alloc (.cells #[.int .i64 p, .slice a n c, .slice b m d] 28)).alloc (.cells #[.int .i64 i] 2)).cell? ⟨w.heap.size, 2, none⟩ = some (.slice b m d) := by simp [go_sem]
  clear hb0 hb1
  by_cases hC : l9C p xs ys 0 [i] = 0
  rotate_left
  · have HC := hide (show wptC p xs ys s i = l9C p xs ys 0 [i] by unfold wptC; rw [if_neg hC])
    have HV := hide (show wptV p xs ys s i = 0 by unfold wptV; rw [if_neg (by rw [HC.out]; exact hC)])
    go_enter Try.func8, Try.ntmps8
    go_wp2_with fail
    refine (l09Code_any p a n c xs b m d ys 0 _ 1 1 [i] _ g1 g2 hsz hn hm (by omega)).mono ?_
    rintro e w1 ⟨rfl, t1⟩
    obtain ⟨C, hCC⟩ : ∃ C, l9C p xs ys 0 [i] = C := ⟨_, rfl⟩
    rw [hCC] at hC HC ⊢
    have B1 := bnext hb2 t1
    clear hCC
    go_wp2
    refine bodyPost_ret (v := .tuple #[.int .i64 0, .int .i64 C]) (by simp [results, Try.results8, go_sem]) rfl ?_
    exact ⟨by rw [HV.out, HC.out], B1⟩
  obtain ⟨hJ, i0, i1⟩ := l9C_one hC
  obtain ⟨hpr, l1, l12, l2, hax, hay⟩ := jacB_rng hJ
  obtain ⟨hp, hp2⟩ := primeB_lo hpr
  obtain rfl : m = n := by rw [← hl2.out, ← hl.out]; omega
  rw [hl.out] at l1 l12 i1
  have HCC := hide (show wptC p xs ys s i = if pthB s i m then 0 else 2 by unfold wptC; rw [if_pos hC, hl.out])
  have H0 := hide hC
  have HA := hide hax
  have HB := hide (posB_are hay)
  clear hC hJ hpr hax hay l2
  go_enter Try.func8, Try.ntmps8
  go_wp2_with fail
  refine (l09Code_any p a m c xs b m d ys 0 _ 1 1 [i] _ g1 g2 hsz hm hm (by omega)).mono ?_
  rintro e w1 ⟨rfl, t1⟩
  rw [H0.out]
  have B1 := bnext hb2 t1
  replace e0 := cell_be t1 e0
  replace e1 := cell_be t1 e1
  replace e2 := cell_be t1 e2
  clear g1 g2 hsz hb2 t1
  go_wp2_with fail
  refine (l09Heights_any s i _ hz i0 (by omega)).mono ?_
  rintro e w2 h2
  rcases h2 with ⟨hok, rfl, t2⟩ | ⟨hok, ah, ch, rfl, oh, t2⟩
  · have HC := hide (show wptC p xs ys s i = 2 by rw [HCC.out]; simp [pthB, hok])
    have HV := hide (show wptV p xs ys s i = 0 by unfold wptV; rw [if_neg (by rw [HC.out]; decide)])
    have B2 := bnext B1 t2
    clear hok
    go_wp2
    refine wp_loop_rounds 1 ?_
    rw [rounds_succ]
    go_wp2
    refine bodyPost_ret (v := .tuple #[.int .i64 0, .int .i64 2]) (by simp [results, Try.results8, go_sem]) rfl ?_
    exact ⟨by rw [HV.out, HC.out], B2⟩
  · have Hok := hide hok
    have B2 := bnext B1 t2
    have sh := hide (show SL w2 ah (s.size + 1) ch (hgL s i (s.size + 1)) by have q := oh.sl; unfold hgL at q ⊢; rwa [tab_len] at q)
    replace e0 := cell_be t2 e0
    replace e1 := cell_be t2 e1
    replace e2 := cell_be t2 e2
    have HB2 := hide B2
    have E2 := hide (And.intro e0 (And.intro e1 e2))
    obtain ⟨w3, hw3⟩ : ∃ w3, w3 = w2 := ⟨_, rfl⟩
    obtain ⟨b24, hb24⟩ : ∃ b24, decide (s.size ≤ 24) = b24 := ⟨_, rfl⟩
    have H24 := hide hb24
    have hr : Below w2.heap.size w2 w2 := Below.refl _ _
    clear hok oh t2 B1 B2 e0 e1 e2 hw3
    rw [hb24]
    clear hb24
    go_wp2
    go_loopw [10, 11] (fun ov kv wr => ∃ (k : Nat) (ob : Bool), k ≤ s.size + 1 ∧ kv = .int .i64 k ∧ ov = .bool ob ∧ Hid (ob = (b24 && loS s i m k)) ∧ Below w2.heap.size w2 wr) (fun _ kv _ => s.size + 1 - (intOf kv).toNat)
    case atStart => exact ⟨0, b24, by omega, rfl, rfl, hide (by simp [loS]), hr⟩
    case round =>
      obtain ⟨k, ob, hk, rfl, rfl, hob, hbr⟩ := hrel
      clear hr
      by_cases hlt : k < s.size + 1
      · have hlt' : (k : Int) < (s.size : Int) + 1 := by omega
        have q0 : (0 : Int) ≤ (k : Int) := by omega
        obtain ⟨g, o, hah, hgh, hch⟩ := sh.out.at (by omega)
        subst hah
        have ec := cell_be hbr (hch k hlt)
        rw [show (hgL s i (s.size + 1)).getD k 0 = hg s i k from tab_at _ _ _ hlt] at ec
        have f1 := cell_be hbr E2.out.2.1
        have hn1 := hide (show (b24 && loS s i m (k + 1)) = (ob && decide (hg s i k < m)) by rw [loS, hob.out, Bool.and_assoc])
        obtain ⟨H, hH⟩ : ∃ H, hg s i k = H := ⟨_, rfl⟩
        rw [hH] at ec hn1
        clear hch hH
        have hn2 := hide (show Below w2.heap.size w2 wr from hbr)
        cases ob
        · have hn3 := hide (show false = (b24 && loS s i m (k + 1)) by rw [hn1.out]; rfl)
          go_wp2
          go_quiet (fail)
          go_wp2
          go_roundw
          case rel => exact ⟨k + 1, false, by omega, by go_num, rfl, hn3, below_drewN hbr _⟩
          case measure => simp [intOf]; omega
        · have hn3 := hide (show decide (H < (m : Int)) = (b24 && loS s i m (k + 1)) by rw [hn1.out]; rfl)
          go_wp2
          go_quiet (fail)
          go_wp2
          go_roundw
          case rel => exact ⟨k + 1, _, by omega, by go_num, rfl, hn3, below_drewN hbr _⟩
          case measure => simp [intOf]; omega
      · have hk2 : k = s.size + 1 := by omega
        subst hk2
        have hge : ¬ ((s.size + 1 : Nat) : Int) < (s.size : Int) + 1 := by omega
        have hP := hide (show pthB s i m = ob by rw [hob.out, ← H24.out]; simp [pthB, Hok.out])
        cases ob
        · have HC := hide (show wptC p xs ys s i = 2 by rw [HCC.out, hP.out]; rfl)
          have HV := hide (show wptV p xs ys s i = 0 by unfold wptV; rw [if_neg (by rw [HC.out]; decide)])
          have B3 := bnext HB2.out hbr
          go_wp2
          refine bodyPost_ret (v := .tuple #[.int .i64 0, .int .i64 2]) (by simp [results, Try.results8, go_sem]) rfl ?_
          exact ⟨by rw [HV.out, HC.out], B3⟩
        · have HC := hide (show wptC p xs ys s i = 0 by rw [HCC.out, hP.out]; rfl)
          have HV := hide (show wptV p xs ys s i = wg p xs ys s i s.size by unfold wptV; rw [if_pos HC.out])
          have hlo := hide (show loS s i m (s.size + 1) = true by have := hob.out; simp at this; exact this.2)
          have B3 := hide (bnext HB2.out hbr)
          have f0 := cell_be hbr E2.out.1
          have v1 : (1 : Int).tmod p = 1 := by rw [Int.tmod_eq_emod_of_nonneg (by omega)]; exact Int.emod_eq_of_lt (by omega) (by omega)
          have hp0 : ¬ p = 0 := by omega
          have F3 := hide (And.intro (cell_be hbr E2.out.1) (And.intro (cell_be hbr E2.out.2.1) (cell_be hbr E2.out.2.2)))
          have S3 := hide (sh.out.below hbr)
          have W0 := hide (show wg p xs ys s i 0 = 1 from rfl)
          have hrf : Below wr.heap.size wr wr := Below.refl _ _
          go_wp2
          obtain ⟨wo, hwo⟩ : ∃ wo : World, wo = wr := ⟨_, rfl⟩
          subst hwo
          clear v1 hge f0
          go_loopw [12, 13] (fun ov kv wr => ∃ (k : Nat) (W : Int), k ≤ s.size ∧ kv = .int .i64 k ∧ ov = .int .i64 W ∧ Hid (wg p xs ys s i k = W) ∧ Below wo.heap.size wo wr) (fun _ kv _ => s.size - (intOf kv).toNat)
          case atStart => exact ⟨0, 1, by omega, rfl, rfl, W0, hrf⟩
          case round =>
            obtain ⟨k, W, hk, rfl, rfl, hW, hbx⟩ := hrel
            clear hrf W0
            by_cases hlt : k < s.size
            · have hlt' : (k : Int) < (s.size : Int) := by omega
              have q0 : (0 : Int) ≤ (k : Int) := by omega
              have hbt := bt_at hlt
              have q1 : (k : Int) < (s.size : Int) + 1 := by omega
              obtain ⟨g, o, hah, hgh, hch⟩ := S3.out.at (by omega)
              subst hah
              have ec := cell_be hbx (hch k (by omega))
              rw [show (hgL s i (s.size + 1)).getD k 0 = hg s i k from tab_at _ _ _ (by omega)] at ec
              have h0 := okS_pos i0 Hok.out (show k ≤ s.size by omega)
              have h1 := loS_at _ hlo.out (show k < s.size + 1 by omega)
              have rW := wg_rng hp xs ys s i k
              rw [hW.out] at rW
              have hst := hide (show wg p xs ys s i (k + 1) = W * fcW xs ys (bt s k) (hg s i k) % p by rw [wg, hW.out])
              obtain ⟨h, hh⟩ : ∃ h : Nat, hg s i k = h := ⟨(hg s i k).toNat, by omega⟩
              rw [hh] at ec h0 h1 hst
              have h2 : (h : Int) < (m : Int) := h1
              have h2' : h < m := by omega
              obtain ⟨gA, oA, rfl, hgA, hcA⟩ := hs.at (by omega)
              obtain ⟨gB, oB, rfl, hgB, hcB⟩ := ht.at (by omega)
              have eA := cell_be hbx (cell_be B3.out (hcA h h2'))
              have eB := cell_be hbx (cell_be B3.out (hcB h h2'))
              have f0 := cell_be hbx F3.out.1
              have f1 := cell_be hbx F3.out.2.1
              have f2 := cell_be hbx F3.out.2.2
              have rA := getD_rng HA.out hp h
              have rB := getD_rng HB.out hp h
              have Hlet := hide (okS_let Hok.out hlt)
              clear hch hcA hcB hh
              rcases Hlet.out with hc | hc | hc
              · rw [hc] at hbt hst
                have hs2 := hide (show wg p xs ys s i (k + 1) = W by rw [hst.out]; simp only [fcW, if_true, Int.mul_one]; exact Int.emod_eq_of_lt rW.1 rW.2)
                clear hc hst
                go_wp2
                go_roundw
                case rel => exact ⟨k + 1, W, by omega, by go_num, rfl, hs2, hbx⟩
                case measure => simp [intOf]; omega
              · rw [hc] at hbt hst
                have hs2 := hide (show wg p xs ys s i (k + 1) = W * ys.getD h 0 % p by rw [hst.out]; rfl)
                obtain ⟨Y, hY⟩ : ∃ Y, ys.getD h 0 = Y := ⟨_, rfl⟩
                rw [hY] at hs2 eB rB
                obtain ⟨m1, m2⟩ := mulb rW.1 rW.2 rB.1 rB.2 hp2
                have w1 : IntKind.i64.wrap (W * Y) = W * Y := IntWalk.i64_in _ (by omega)
                have w2 : (W * Y).tmod p = W * Y % p := Int.tmod_eq_emod_of_nonneg m1
                clear hc hst hY eA f1
                go_wp2
                go_quiet (fail)
                go_wp2
                go_roundw
                case rel => exact ⟨k + 1, _, by omega, by go_num, rfl, hs2, below_drewN hbx _⟩
                case measure => simp [intOf]; omega
              · rw [hc] at hbt hst
                have hs2 := hide (show wg p xs ys s i (k + 1) = W * xs.getD h 0 % p by rw [hst.out]; rfl)
                obtain ⟨Y, hY⟩ : ∃ Y, xs.getD h 0 = Y := ⟨_, rfl⟩
                rw [hY] at hs2 eA rA
                obtain ⟨m1, m2⟩ := mulb rW.1 rW.2 rA.1 rA.2 hp2
                have w1 : IntKind.i64.wrap (W * Y) = W * Y := IntWalk.i64_in _ (by omega)
                have w2 : (W * Y).tmod p = W * Y % p := Int.tmod_eq_emod_of_nonneg m1
                clear hc hst hY eB f2
                go_wp2
                go_quiet (fail)
                go_wp2
                go_roundw
                case rel => exact ⟨k + 1, _, by omega, by go_num, rfl, hs2, below_drewN hbx _⟩
                case measure => simp [intOf]; omega
            · have hk2 : Hid (k = s.size) := hide (by omega)
              have hge : ¬ (k : Int) < (s.size : Int) := by omega
              have B4 := bnext B3.out hbx
              go_wp2
              refine bodyPost_ret (v := .tuple #[.int .i64 W, .int .i64 0]) (by simp [results, Try.results8, go_sem]) rfl ?_
              exact ⟨by rw [HV.out, HC.out, ← hW.out, hk2.out], B4⟩
end Go.Proofs.Ythahcnmfaghohaa
