/- Merged texts. -/
import Derived.Test.YtllcgoachgfpjaaYD324
import Derived.Test.YtllcgoachgfpjaaYD326
import Derived.Test.YtllcgoachgfpjaaYD320
import Derived.Test.YtllcgoachgfpjaaYD313
/- Mathematics of steps of data. -/
namespace Go.Proofs.Ytllcgoachgfpjaa
open Go.RowKit
set_option linter.unusedVariables false
set_option linter.unusedSimpArgs false

def stA (p : Int) (xs ys : List Int) (c : Int) (k : Nat) : Int := (dfD p xs ys c 0 k + dfL p xs ys c 0 (k + 1) + c) % p
def stB (p : Int) (xs ys : List Int) (c : Int) (k : Nat) : Int := if k = 0 then ys.getD 0 0 * dfD p xs ys c 0 0 % p else dfD p xs ys c 0 k * dfL p xs ys c 0 k % p
def stOk (p : Int) (xs ys : List Int) (c : Int) (n : Nat) : Bool := decide (2 ≤ n) && dqB p xs ys c 0 (n - 1)
def sojC (p : Int) (xs ys : List Int) (c : Int) : Int := if jacB p xs ys then (if 0 ≤ c ∧ c ≤ p - 1 then (if stOk p xs ys c xs.length then 0 else 5) else 2) else 1
def sojP (p : Int) (xs ys : List Int) (c : Int) : Int := if sojC p xs ys c = 0 then p else 0
def sojV (p : Int) (xs ys : List Int) (c : Int) : List Int := if sojC p xs ys c = 0 then tab (xs.length - 1) (stA p xs ys c) else []
def sojU (p : Int) (xs ys : List Int) (c : Int) : List Int := if sojC p xs ys c = 0 then tab (xs.length - 1) (stB p xs ys c) else []
theorem soj_err {p : Int} {xs ys : List Int} {c e : Int} (h : sojC p xs ys c = e) (he : e ≠ 0) : sojP p xs ys c = 0 ∧ sojV p xs ys c = [] ∧ sojU p xs ys c = [] := by
  have : sojC p xs ys c ≠ 0 := by rw [h]; exact he
  exact ⟨if_neg this, if_neg this, if_neg this⟩
/-- The list of pairs of a step. -/
def stT (p : Int) (xs ys : List Int) (c : Int) (n : Nat) : List Int := [ys.getD 0 0] ++ dqV p xs ys c 0 (n - 1)
theorem stT_len (p : Int) (xs ys : List Int) (c : Int) (n : Nat) (hn : 1 ≤ n) : (stT p xs ys c n).length = 2 * (n - 1) + 1 := by
  simp only [stT, List.length_append, dqV_len, List.length_cons, List.length_nil]
  omega
theorem stT_tail (p : Int) (xs ys : List Int) (c : Int) (n j : Nat) : (stT p xs ys c n).getD (j + 1) 0 = (dqV p xs ys c 0 (n - 1)).getD j 0 := by
  simp [stT, List.getD_eq_getElem?_getD, List.getElem?_append]
theorem stT_D (p : Int) (xs ys : List Int) (c : Int) (n k : Nat) (hk : k + 1 < n) : (stT p xs ys c n).getD (2 * k + 1) 0 = dfD p xs ys c 0 k := by
  rw [stT_tail, (dqV_at p xs ys c 0 (n - 1) k (by omega)).1]
theorem stT_L (p : Int) (xs ys : List Int) (c : Int) (n k : Nat) (hk : k + 1 < n) : (stT p xs ys c n).getD (2 * k + 2) 0 = dfL p xs ys c 0 (k + 1) := by
  rw [show 2 * k + 2 = (2 * k + 1) + 1 by omega, stT_tail, (dqV_at p xs ys c 0 (n - 1) k (by omega)).2]
/-- Data of pairs. -/
def dpA (p : Int) (T : List Int) (k : Nat) : Int := (T.getD (2 * k + 1) 0 + T.getD (2 * k + 2) 0) % p
def dpB (p : Int) (T : List Int) (k : Nat) : Int := T.getD (2 * k) 0 * T.getD (2 * k + 1) 0 % p
theorem soj_dp {p : Int} (hP : primeB p = true) {xs ys : List Int} {c : Int} {n : Nat} (hl : xs.length = n) (hl2 : ys.length = n) (n1 : 2 ≤ n) (n2 : n ≤ 12) (hy : posB p ys = true) (hd : dqB p xs ys c 0 (n - 1) = true) :
    areB p (stT p xs ys c n) = true ∧ jacB p (tab (n - 1) (dpA p (stT p xs ys c n))) (tab (n - 1) (dpB p (stT p xs ys c n))) = true ∧
      tab (n - 1) (afA p 1 c (tab (n - 1) (dpA p (stT p xs ys c n))) (n - 1)) = tab (n - 1) (stA p xs ys c) ∧ tab (n - 1) (afB p 1 (tab (n - 1) (dpB p (stT p xs ys c n))) (n - 1)) = tab (n - 1) (stB p xs ys c) := by
  have hp := (primeB_lo hP).1
  have hT := stT_len p xs ys c n (by omega)
  have hA : areB p (stT p xs ys c n) = true := areB_mk fun j hj => by
    rw [hT] at hj
    by_cases e0 : j = 0
    · subst e0
      have := posB_at hy 0 (by omega)
      show 0 ≤ ys.getD 0 0 ∧ ys.getD 0 0 < p
      omega
    · by_cases e : j % 2 = 1
      · rw [show j = 2 * (j / 2) + 1 by omega, stT_D _ _ _ _ _ _ (by omega)]
        exact dfD_rng hp xs ys c 0 _
      · rw [show j = 2 * (j / 2 - 1) + 2 by omega, stT_L _ _ _ _ _ _ (by omega)]
        exact dfL_rng hp xs ys c (by omega) (by omega) _
  have hB : ∀ k, k < n - 1 → dpB p (stT p xs ys c n) k = stB p xs ys c k := fun k hk => by
    unfold dpB stB
    rw [stT_D _ _ _ _ _ _ (by omega)]
    by_cases e : k = 0
    · subst e; rfl
    · rw [if_neg e]
      obtain ⟨j, rfl⟩ : ∃ j, k = j + 1 := ⟨k - 1, by omega⟩
      rw [show 2 * (j + 1) = 2 * j + 2 by omega, stT_L _ _ _ _ _ _ (by omega), Int.mul_comm]
  have hne : ∀ k, k < n - 1 → 0 < dpB p (stT p xs ys c n) k ∧ dpB p (stT p xs ys c n) k < p := fun k hk => by
    have hm := modb (x := (stT p xs ys c n).getD (2 * k) 0 * (stT p xs ys c n).getD (2 * k + 1) 0) hp
    have h0 : dpB p (stT p xs ys c n) k ≠ 0 := by
      rw [hB k hk]
      unfold stB
      have a3 := dqB_at hd k hk
      have a4 := dfD_rng hp xs ys c 0 k
      by_cases e : k = 0
      · rw [if_pos e]
        subst e
        have a1 := posB_at hy 0 (by omega)
        exact prime_mul hP (by omega) a1.2 (by omega) a4.2
      · rw [if_neg e]
        obtain ⟨j, rfl⟩ : ∃ j, k = j + 1 := ⟨k - 1, by omega⟩
        have a1 := dfL_pos hP hy hd j (by omega) (by omega)
        have a2 := dfL_rng hp xs ys c (l0 := 0) (by omega) (by omega) (j + 1)
        exact prime_mul hP (by omega) a4.2 a1 a2.2
    unfold dpB at h0 ⊢
    omega
  have hAA : areB p (tab (n - 1) (dpA p (stT p xs ys c n))) = true := areB_mk fun j hj => by
    rw [tab_len] at hj
    rw [tab_at _ _ _ hj]
    exact modb hp
  have hBB : areB p (tab (n - 1) (dpB p (stT p xs ys c n))) = true := areB_mk fun j hj => by
    rw [tab_len] at hj
    rw [tab_at _ _ _ hj]
    exact modb hp
  have hz : hasB 0 (tab (n - 1) (dpB p (stT p xs ys c n))) = false := by
    unfold hasB tab
    rw [List.any_eq_false]
    intro x hx
    rw [List.mem_map] at hx
    obtain ⟨k, hk, rfl⟩ := hx
    have := hne k (by simpa using hk)
    simp
    omega
  refine ⟨hA, ?_, ?_, ?_⟩
  · unfold jacB
    rw [posB_eq, hP, hAA, hBB, hz, tab_len, tab_len]
    simp
    omega
  · apply tab_congr
    intro k hk
    unfold afA stA
    rw [if_pos hk, tab_at _ _ _ hk, Int.one_mul]
    unfold dpA
    rw [stT_D _ _ _ _ _ _ (by omega), stT_L _ _ _ _ _ _ (by omega), Int.emod_add_emod]
  · rw [afB_id hp hBB (n - 1) (tab_len _ _)]
    exact tab_congr hB
end Go.Proofs.Ytllcgoachgfpjaa
/- Contracts: l08Code at one number, l08Copy (model), ScaleJacobi (program and model). -/
namespace Go.Proofs.Ytllcgoachgfpjaa
open Go.RowKit
set_option linter.unusedVariables false
set_option linter.unusedSimpArgs false

def scjC (p : Int) (xs ys : List Int) (x : Int) : Int := jcd p xs ys x 1 (p - 1)
def scjP (p : Int) (xs ys : List Int) (x : Int) : Int := if scjC p xs ys x = 0 then p else 0
def scjV (p : Int) (xs ys : List Int) (x : Int) : List Int := if scjC p xs ys x = 0 then xs else []
def scjU (p : Int) (xs ys : List Int) (x : Int) : List Int := if scjC p xs ys x = 0 then ys.set 0 (x * ys.getD 0 0 % p) else []
theorem scj_err {p : Int} {xs ys : List Int} {c e : Int} (h : scjC p xs ys c = e) (he : e ≠ 0) : scjP p xs ys c = 0 ∧ scjV p xs ys c = [] ∧ scjU p xs ys c = [] := by
  have : scjC p xs ys c ≠ 0 := by rw [h]; exact he
  exact ⟨if_neg this, if_neg this, if_neg this⟩
set_option maxRecDepth 100000 in
set_option maxHeartbeats 1600000 in
theorem l08Code_one (p : Int) (a : Option Addr) (n c : Nat) (xs : List Int) (b : Option Addr) (m d : Nat) (ys : List Int) (lo x C : Int) (g : Nat) (w : World) (hs : SL w a n c xs) (ht : SL w b m d ys) (hx : SL w (some ⟨g, 0, none⟩) 1 1 [x]) (hn : n ≤ 4000000) (hm : m ≤ 4000000) (hC : jcd p xs ys x lo (p - 1) = C) :
    Calls Try.prog 69 #[jac p a n c b m d, .int .i64 lo, .slice (some ⟨g, 0, none⟩) 1 1] w fun e w' => e = .returned (.int .i64 C) ∧ Below w.heap.size w w' := by
  subst hC
  have hb0 := bl1 w (.cells #[.int .i64 p, .slice a n c, .slice b m d] 38)
  have g1 := hs.below hb0
  have g2 := ht.below hb0
  have g3 := hx.below hb0
  cases hj : jacB p xs ys
  · have H : Hid (jcd p xs ys x lo (p - 1) = 1) := hide (by simp [jcd, hj])
    have Hj := hide hj
    clear hj
    go_enter Try.func69, Try.ntmps69
    go_wp2_with fail
    refine (l03Is_any _ _ _ _ _ _ _ _ _ _ g1 g2 hn hm).mono ?_
    rintro e w1 ⟨rfl, hb1⟩
    rw [Hj.out]
    go_wp2
    go_ret
    exact ⟨ret_int H.out.symm, bnext hb0 hb1⟩
  have Hj := hide hj
  obtain ⟨hp, hp2⟩ := primeB_lo (jacB_rng hj).1
  have vp : IntKind.i64.wrap (p - 1) = p - 1 := IntWalk.i64_in _ (by omega)
  go_enter Try.func69, Try.ntmps69
  go_wp2_with fail
  refine (l03Is_any _ _ _ _ _ _ _ _ _ _ g1 g2 hn hm).mono ?_
  rintro e w1 ⟨rfl, hb1⟩
  rw [Hj.out]
  have hB1 := bnext hb0 hb1
  have f0 : w1.cell? ⟨w.heap.size, 0, none⟩ = some (.int .i64 p) := cell_be hb1 (by simp [go_sem])
  have e1 : w1.cell? ⟨g, 0, none⟩ = some (.int .i64 x) := by
    obtain ⟨b', off', he, _, hc⟩ := (g3.below hb1).at (by omega)
    cases he
    simpa using hc 0 (by omega)
  by_cases h : lo ≤ x ∧ x ≤ p - 1
  · have H : Hid (jcd p xs ys x lo (p - 1) = 0) := hide (by simp only [jcd, hj, if_true]; rw [if_pos h])
    have Hh := hide h
    clear hj h
    go_wp2
    have hbb := Below.refl w1.heap.size w1
    go_loopw [7] (fun iv wr => ∃ k : Nat, k ≤ 1 ∧ iv = .int .i64 k ∧ Below w1.heap.size w1 wr) (fun iv _ => 1 - (intOf iv).toNat)
    case atStart => exact ⟨0, by omega, rfl, hbb⟩
    case round =>
      obtain ⟨k, hk, rfl, hbr⟩ := hrel
      clear hbb
      replace f0 := cell_be hbr f0
      replace e1 := cell_be hbr e1
      by_cases h0 : k = 0
      · subst h0
        go_upto_region 6 with fail
        go_region_held3 (fun w' => w'.cell? ⟨w.heap.size, 0, none⟩ = some (.int .i64 p) ∧ w'.cell? ⟨g, 0, none⟩ = some (.int .i64 x)) (exact ⟨by simpa using f0, by simpa using e1⟩) (first | (go_at_call 103; refine (l01In_yes _ _ _ _ Hh.out.1 Hh.out.2).mono ?_; rintro e w' ⟨rfl, rfl⟩))
        go_wp2
        go_roundw
        case rel => exact ⟨1, by omega, by go_num, hbr.drew⟩
        case measure => simp [intOf]
      · obtain rfl : k = 1 := by omega
        go_wp2
        go_ret
        exact ⟨ret_int H.out.symm, hB1.trans (hbr.mono hB1.size)⟩
  · have H : Hid (jcd p xs ys x lo (p - 1) = 2) := hide (by simp only [jcd, hj, if_true]; rw [if_neg h])
    have Hh := hide h
    clear hj h
    go_wp2
    refine wp_loop_rounds 1 ?_
    rw [rounds_succ]
    go_upto_region 6 with fail
    go_region_held3 (fun w' => w'.cell? ⟨w.heap.size, 0, none⟩ = some (.int .i64 p) ∧ w'.cell? ⟨g, 0, none⟩ = some (.int .i64 x)) (exact ⟨by simpa using f0, by simpa using e1⟩) (first | (go_at_call 103; refine (l01In_no _ _ _ _ Hh.out).mono ?_; rintro e w' ⟨rfl, rfl⟩))
    go_wp2
    go_ret
    exact ⟨ret_int H.out.symm, hB1.drew⟩
set_option maxRecDepth 100000 in
set_option maxHeartbeats 1600000 in
theorem l08Copy_any (p : Int) (a : Option Addr) (n c : Nat) (xs : List Int) (b : Option Addr) (m d : Nat) (ys : List Int) (w : World) (hs : SL w a n c xs) (ht : SL w b m d ys) (hn : n ≤ 4000000) (hm : m ≤ 4000000) :
    Calls Try.prog 85 #[jac p a n c b m d] w fun e w' => ∃ a' c' b' d', e = .returned (jac p a' n c' b' m d') ∧ JZ w.heap.size w'.heap.size w' a' n c' xs b' m d' ys ∧ Below w.heap.size w w' := by
  have hb0 := bl2 w (.cells #[.int .i64 p, .slice a n c, .slice b m d] 38) (.cells #[.int .i64 0, .slice none 0 0, .slice none 0 0] 38)
  have k1 := hs.below hb0
  have k2 := ht.below hb0
  clear hs ht
  have hbd := (Below.refl ((w.alloc (.cells #[.int .i64 p, .slice a n c, .slice b m d] 38)).alloc (.cells #[.int .i64 0, .slice none 0 0, .slice none 0 0] 38)).heap.size ((w.alloc (.cells #[.int .i64 p, .slice a n c, .slice b m d] 38)).alloc (.cells #[.int .i64 0, .slice none 0 0, .slice none 0 0] 38))).drew
  have F : ∀ w', Below ((w.alloc (.cells #[.int .i64 p, .slice a n c, .slice b m d] 38)).alloc (.cells #[.int .i64 0, .slice none 0 0, .slice none 0 0] 38)).heap.size ((w.alloc (.cells #[.int .i64 p, .slice a n c, .slice b m d] 38)).alloc (.cells #[.int .i64 0, .slice none 0 0, .slice none 0 0] 38)) w' →
      w'.cell? ⟨w.heap.size, 0, none⟩ = some (.int .i64 p) ∧ w'.cell? ⟨w.heap.size, 1, none⟩ = some (.slice a n c) ∧ w'.cell? ⟨w.heap.size, 2, none⟩ = some (.slice b m d) :=
    fun w' h => ⟨cell_be h (by simp [go_sem]), cell_be h (by simp [go_sem]), cell_be h (by simp [go_sem])⟩
  go_enter Try.func85, Try.ntmps85
  go_upto_region 1 with fail
  go_region_held3 (fun w' => w'.cell? ⟨w.heap.size, 0, none⟩ = some (.int .i64 p) ∧ w'.cell? ⟨w.heap.size, 1, none⟩ = some (.slice a n c) ∧ w'.cell? ⟨w.heap.size, 2, none⟩ = some (.slice b m d))
    (first | exact F _ (by assumption) | exact ⟨cell_set2 (cell_set2 (cell_set2 x0 (by simp) _) (by simp) _) (by simp) _, cell_set2 (cell_set2 (cell_set2 x1 (by simp) _) (by simp) _) (by simp) _, cell_set2 (cell_set2 (cell_set2 x2 (by simp) _) (by simp) _) (by simp) _⟩)
    (first
    | (go_at_call 91; refine (l01Own_any _ _ _ xs _ (k1.below hbd) (by omega)).mono ?_; rintro e w2 ⟨a', c', rfl, ho1, hb2⟩; have hm2 := bnext hbd hb2)
    | (go_at_call 91; refine (l01Own_any _ _ _ ys _ (k2.below hm2) (by omega)).mono ?_; rintro e w3 ⟨b', d', rfl, ho2, hb3⟩; have hm3 := bnext hm2 hb3; obtain ⟨x0, x1, x2⟩ := F _ hm3
       have r0 : w3.cell? ⟨w.heap.size + 1, 0, none⟩ = some (.int .i64 0) := cell_be hm3 (by simp [go_sem])
       have r1 : w3.cell? ⟨w.heap.size + 1, 1, none⟩ = some (.slice none 0 0) := cell_be hm3 (by simp [go_sem])
       have r2 : w3.cell? ⟨w.heap.size + 1, 2, none⟩ = some (.slice none 0 0) := cell_be hm3 (by simp [go_sem])
       have y0 : w3.frozen? ⟨w.heap.size + 1, 0, none⟩ = false := (hm3.frozen (by simp)).trans (by simp [go_sem])
       have y1 : w3.frozen? ⟨w.heap.size + 1, 1, none⟩ = false := (hm3.frozen (by simp)).trans (by simp [go_sem])
       have y2 : w3.frozen? ⟨w.heap.size + 1, 2, none⟩ = false := (hm3.frozen (by simp)).trans (by simp [go_sem])))
  all_goals go_wp2
  refine bodyPost_ret (v := jac p a' n c' b' m d') (by simp [results, Try.results85, go_sem, r0, r1, r2]) rfl ⟨a', c', b', d', rfl, ?_, ?_⟩
  · have o1 := (OZ.of ho1 k1.len.symm).below hb3
    have o2 := OZ.of ho2 k2.len.symm
    have z2 := hb2.size
    have z3 := hb3.size
    simp at z2
    have := (((JZ.two o1 o2 (by simp; omega) z3).setLow (x := ⟨w.heap.size + 1, 0, none⟩) (by simp) (.int .i64 p)).setLow (x := ⟨w.heap.size + 1, 1, none⟩) (by simp) (.slice a' n c')).setLow (x := ⟨w.heap.size + 1, 2, none⟩) (by simp) (.slice b' m d')
    simpa using this.mono (lo' := w.heap.size) (by simp; omega) (Nat.le_refl _)
  · exact (((hb0.trans (hm3.mono (by simp; omega))).setCell (by simp) _).setCell (by simp) _).setCell (by simp) _
set_option maxRecDepth 100000 in
set_option maxHeartbeats 3200000 in
theorem implScaleJacobi (p : Int) (a : Option Addr) (n c : Nat) (xs : List Int) (b : Option Addr) (m d : Nat) (ys : List Int) (x : Int) (w : World) (hs : SL w a n c xs) (ht : SL w b m d ys) (hn : n ≤ 4000000) (hm : m ≤ 4000000) :
    Calls Try.prog 44 #[jac p a n c b m d, .int .i64 x] w (ResJ w (scjP p xs ys x) (scjV p xs ys x) (scjU p xs ys x) (scjC p xs ys x)) := by
  have hl := hide hs.len
  have hl2 := hide ht.len
  have hb0 := bl2 w (.cells #[.int .i64 p, .slice a n c, .slice b m d] 38) (.cells #[.int .i64 0, .slice none 0 0, .slice none 0 0] 38)
  have g1 := hs.below hb0
  have g2 := ht.below hb0
  cases hj : jacB p xs ys
  · have HC := hide (show scjC p xs ys x = 1 by simp [scjC, jcd, hj])
    have HE := hide (scj_err HC.out (by decide))
    have Hj := hide hj
    clear hj
    go_enter Try.func44, Try.ntmps44
    go_wp2_with fail
    refine (checkJacobi_any _ _ _ _ _ _ _ _ _ _ _ _ 1 _ g1 g2 hn hm (by simp [jcd, Hj.out])).mono ?_
    rintro e w2 ⟨rfl, hb1⟩
    have f0 : w2.cell? ⟨w.heap.size, 0, none⟩ = some (.int .i64 p) := cell_be hb1 (by simp [go_sem])
    have f1 : w2.cell? ⟨w.heap.size, 1, none⟩ = some (.slice a n c) := cell_be hb1 (by simp [go_sem])
    have f2 : w2.cell? ⟨w.heap.size, 2, none⟩ = some (.slice b m d) := cell_be hb1 (by simp [go_sem])
    have r0 : w2.cell? ⟨w.heap.size + 1, 0, none⟩ = some (.int .i64 0) := cell_be hb1 (by simp [go_sem])
    have r1 : w2.cell? ⟨w.heap.size + 1, 1, none⟩ = some (.slice none 0 0) := cell_be hb1 (by simp [go_sem])
    have r2 : w2.cell? ⟨w.heap.size + 1, 2, none⟩ = some (.slice none 0 0) := cell_be hb1 (by simp [go_sem])
    have y0 : w2.frozen? ⟨w.heap.size + 1, 0, none⟩ = false := (hb1.frozen (by simp)).trans (by simp [go_sem])
    have y1 : w2.frozen? ⟨w.heap.size + 1, 1, none⟩ = false := (hb1.frozen (by simp)).trans (by simp [go_sem])
    have y2 : w2.frozen? ⟨w.heap.size + 1, 2, none⟩ = false := (hb1.frozen (by simp)).trans (by simp [go_sem])
    have hB2 := bnext hb0 hb1
    go_wp2
    refine bodyPost_ret (v := .tuple #[jac 0 none 0 0 none 0 0, .int .i64 1]) (by simp [results, Try.results44, go_sem, r0, r1, r2]) rfl ?_
    exact ResJ.nil HE.out.1 HE.out.2.1 HE.out.2.2 HC.out (((hB2.setCell (by simp) _).setCell (by simp) _).setCell (by simp) _)
  obtain ⟨hpr, n1, n2, n3, hx, hy⟩ := jacB_rng hj
  obtain ⟨hp, hp2⟩ := primeB_lo hpr
  rw [hl.out] at n1 n2 n3
  rw [hl2.out] at n3
  subst n3
  have vp : IntKind.i64.wrap (p - 1) = p - 1 := IntWalk.i64_in _ (by omega)
  by_cases hr : 1 ≤ x ∧ x ≤ p - 1
  rotate_left
  · have HC := hide (show scjC p xs ys x = 2 by simp only [scjC, jcd, hj, if_true]; rw [if_neg hr])
    have HE := hide (scj_err HC.out (by decide))
    have HR := hide (show jcd p xs ys x 1 (p - 1) = 2 from HC.out)
    clear hj hr hx hy
    go_enter Try.func44, Try.ntmps44
    go_wp2_with fail
    refine (checkJacobi_any _ _ _ _ _ _ _ _ _ _ _ _ 2 _ g1 g2 hn hm HR.out).mono ?_
    rintro e w2 ⟨rfl, hb1⟩
    have f0 : w2.cell? ⟨w.heap.size, 0, none⟩ = some (.int .i64 p) := cell_be hb1 (by simp [go_sem])
    have f1 : w2.cell? ⟨w.heap.size, 1, none⟩ = some (.slice a m c) := cell_be hb1 (by simp [go_sem])
    have f2 : w2.cell? ⟨w.heap.size, 2, none⟩ = some (.slice b m d) := cell_be hb1 (by simp [go_sem])
    have r0 : w2.cell? ⟨w.heap.size + 1, 0, none⟩ = some (.int .i64 0) := cell_be hb1 (by simp [go_sem])
    have r1 : w2.cell? ⟨w.heap.size + 1, 1, none⟩ = some (.slice none 0 0) := cell_be hb1 (by simp [go_sem])
    have r2 : w2.cell? ⟨w.heap.size + 1, 2, none⟩ = some (.slice none 0 0) := cell_be hb1 (by simp [go_sem])
    have y0 : w2.frozen? ⟨w.heap.size + 1, 0, none⟩ = false := (hb1.frozen (by simp)).trans (by simp [go_sem])
    have y1 : w2.frozen? ⟨w.heap.size + 1, 1, none⟩ = false := (hb1.frozen (by simp)).trans (by simp [go_sem])
    have y2 : w2.frozen? ⟨w.heap.size + 1, 2, none⟩ = false := (hb1.frozen (by simp)).trans (by simp [go_sem])
    have hB2 := bnext hb0 hb1
    go_wp2
    refine bodyPost_ret (v := .tuple #[jac 0 none 0 0 none 0 0, .int .i64 2]) (by simp [results, Try.results44, go_sem, r0, r1, r2]) rfl ?_
    exact ResJ.nil HE.out.1 HE.out.2.1 HE.out.2.2 HC.out (((hB2.setCell (by simp) _).setCell (by simp) _).setCell (by simp) _)
  have HC := hide (show scjC p xs ys x = 0 by simp only [scjC, jcd, hj, if_true]; rw [if_pos hr])
  have HR := hide (show jcd p xs ys x 1 (p - 1) = 0 from HC.out)
  have HV := hide (show scjV p xs ys x = xs by unfold scjV; rw [if_pos HC.out])
  have HU := hide (show scjU p xs ys x = ys.set 0 (x * ys.getD 0 0 % p) by unfold scjU; rw [if_pos HC.out])
  have HQ := hide (show scjP p xs ys x = p by unfold scjP; rw [if_pos HC.out])
  have Hy := hide (posB_are hy)
  obtain ⟨x0, x1⟩ := hr
  clear hj hx hy hpr
  go_enter Try.func44, Try.ntmps44
  go_wp2_with fail
  refine (checkJacobi_any _ _ _ _ _ _ _ _ _ _ _ _ 0 _ g1 g2 hn hm HR.out).mono ?_
  rintro e w2 ⟨rfl, hm2⟩
  have hB2 := bnext hb0 hm2
  have z2 := hm2.size
  simp at z2
  have f0 : w2.cell? ⟨w.heap.size, 0, none⟩ = some (.int .i64 p) := cell_be hm2 (by simp [go_sem])
  have f1 : w2.cell? ⟨w.heap.size, 1, none⟩ = some (.slice a m c) := cell_be hm2 (by simp [go_sem])
  have f2 : w2.cell? ⟨w.heap.size, 2, none⟩ = some (.slice b m d) := cell_be hm2 (by simp [go_sem])
  have r0 : w2.cell? ⟨w.heap.size + 1, 0, none⟩ = some (.int .i64 0) := cell_be hm2 (by simp [go_sem])
  have r1 : w2.cell? ⟨w.heap.size + 1, 1, none⟩ = some (.slice none 0 0) := cell_be hm2 (by simp [go_sem])
  have r2 : w2.cell? ⟨w.heap.size + 1, 2, none⟩ = some (.slice none 0 0) := cell_be hm2 (by simp [go_sem])
  have y0 : w2.frozen? ⟨w.heap.size + 1, 0, none⟩ = false := (hm2.frozen (by simp)).trans (by simp [go_sem])
  have y1 : w2.frozen? ⟨w.heap.size + 1, 1, none⟩ = false := (hm2.frozen (by simp)).trans (by simp [go_sem])
  have y2 : w2.frozen? ⟨w.heap.size + 1, 2, none⟩ = false := (hm2.frozen (by simp)).trans (by simp [go_sem])
  have F2 : ∀ w', Below w2.heap.size w2 w' → Below w2.heap.size w2 w' ∧ w'.cell? ⟨w.heap.size, 0, none⟩ = some (.int .i64 p) ∧ w'.cell? ⟨w.heap.size, 1, none⟩ = some (.slice a m c) ∧ w'.cell? ⟨w.heap.size, 2, none⟩ = some (.slice b m d) := fun w' h => ⟨h, cell_be h f0, cell_be h f1, cell_be h f2⟩
  have GK : ∀ w', (Below w2.heap.size w2 w' ∧ w'.cell? ⟨w.heap.size, 0, none⟩ = some (.int .i64 p) ∧ w'.cell? ⟨w.heap.size, 1, none⟩ = some (.slice a m c) ∧ w'.cell? ⟨w.heap.size, 2, none⟩ = some (.slice b m d)) → Below w2.heap.size w2 w' := fun w' h => h.1
  go_upto_region 4 with fail
  go_cut [7] (fun sq wx => ∃ (q ga gb c' d' : Nat), sq = .pointer (some ⟨q, 0, none⟩) ∧ Hid (wx.cell? ⟨q, 0, none⟩ = some (.int .i64 p) ∧ wx.cell? ⟨q, 1, none⟩ = some (.slice (some ⟨ga, 0, none⟩) m c') ∧ wx.cell? ⟨q, 2, none⟩ = some (.slice (some ⟨gb, 0, none⟩) m d')) ∧
      Hid (ga ≠ gb ∧ ga ≠ q ∧ gb ≠ q) ∧ Hid (w2.heap.size ≤ ga ∧ w2.heap.size ≤ gb ∧ w2.heap.size ≤ q) ∧ Hid (Own w2.heap.size wx (some ⟨ga, 0, none⟩) c' xs) ∧ Hid (Own w2.heap.size wx (some ⟨gb, 0, none⟩) d' ys) ∧ Hid (Below w2.heap.size w2 wx))
  case first =>
    go_region_held3 (fun w' => Below w2.heap.size w2 w' ∧ w'.cell? ⟨w.heap.size, 0, none⟩ = some (.int .i64 p) ∧ w'.cell? ⟨w.heap.size, 1, none⟩ = some (.slice a m c) ∧ w'.cell? ⟨w.heap.size, 2, none⟩ = some (.slice b m d))
      (first | exact F2 _ (by assumption) | exact F2 _ (((Below.refl _ _).alloc (Nat.le_refl _) _).drew) | exact F2 _ ((Below.refl _ _).drew) | exact F2 _ (Below.alloc (by assumption) (Below.size (by assumption)) _) | exact F2 _ (Below.setCell (Below.setCell (Below.setCell (by assumption) (by first | omega | (simp; done) | (simp; omega)) _) (by first | omega | (simp; done) | (simp; omega)) _) (by first | omega | (simp; done) | (simp; omega)) _))
      (first
      | (go_at_call 87; go_fit (sizeOf_any _ _ _ _ _ _ _ _ hn); rintro e w3 ⟨rfl, hb3⟩; have hm3 := bnext (GK _ (by assumption)) hb3; have zz3 := Below.size hm3; have ts3 := Below.size hb3; (try simp at ts3); first | (with_reducible have alx := alc3 hb3; have al0 := alx.1.1; have al1 := alx.1.2.1; have al2 := alx.1.2.2; have af0 := alx.2.1; have af1 := alx.2.2.1; have af2 := alx.2.2.2; clear alx) | (with_reducible have alx := alcD3 hb3; have al0 := alx.1.1; have al1 := alx.1.2.1; have al2 := alx.1.2.2; have af0 := alx.2.1; have af1 := alx.2.2.1; have af2 := alx.2.2.2; clear alx) | (have af0 := (Below.frozen hb3 (World.block_lt_of_cell? _ _ al0)).trans af0; have af1 := (Below.frozen hb3 (World.block_lt_of_cell? _ _ al1)).trans af1; have af2 := (Below.frozen hb3 (World.block_lt_of_cell? _ _ al2)).trans af2; have al0 := cell_be hb3 al0; have al1 := cell_be hb3 al1; have al2 := cell_be hb3 al2) | skip)
      | (go_at_call 86; go_fit (partOf_any _ _ _ _ _ _ _ _ 0 m _ (g1.below (bnext hm2 (GK _ (by assumption)))) (g2.below (bnext hm2 (GK _ (by assumption)))) (by omega) (by omega) hn); rintro e w4 ⟨a', c', b', d', rfl, ho, hb4⟩; have hm4 := bnext (GK _ (by assumption)) hb4; have zz4 := Below.size hm4; have ts4 := Below.size hb4; (try simp at ts4); first | (with_reducible have alx := alc3 hb4; have al0 := alx.1.1; have al1 := alx.1.2.1; have al2 := alx.1.2.2; have af0 := alx.2.1; have af1 := alx.2.2.1; have af2 := alx.2.2.2; clear alx) | (with_reducible have alx := alcD3 hb4; have al0 := alx.1.1; have al1 := alx.1.2.1; have al2 := alx.1.2.2; have af0 := alx.2.1; have af1 := alx.2.2.1; have af2 := alx.2.2.2; clear alx) | (have af0 := (Below.frozen hb4 (World.block_lt_of_cell? _ _ al0)).trans af0; have af1 := (Below.frozen hb4 (World.block_lt_of_cell? _ _ al1)).trans af1; have af2 := (Below.frozen hb4 (World.block_lt_of_cell? _ _ al2)).trans af2; have al0 := cell_be hb4 al0; have al1 := cell_be hb4 al1; have al2 := cell_be hb4 al2) | skip; simp only [Nat.sub_zero, List.drop_zero] at ho))
    all_goals go_wp2_with fail
    all_goals go_meet
    all_goals
      rw [List.take_of_length_le (by rw [hl.out]; exact Nat.le_refl _), List.take_of_length_le (by rw [hl2.out]; exact Nat.le_refl _)] at ho
      obtain ⟨ga, gb, rfl, rfl, d1, d2, d3, d4, d5, oA, oB⟩ := ho.rows (by omega) (by omega)
      (try simp at d2)
      (try simp at d4)
      first
      | exact ⟨_, ga, gb, c', d', rfl, hide ⟨cell_set2' (cell_set2' (World.cell?_setCell_same _ _ _ al0) (by simp) _) (by simp) _, cell_set2' (World.cell?_setCell_same _ _ _ (cell_set2' al1 (by simp) _)) (by simp) _, World.cell?_setCell_same _ _ _ (cell_set2' (cell_set2' al2 (by simp) _) (by simp) _)⟩, hide ⟨d1, (by first | omega | (simp; done) | (simp; omega)), (by first | omega | (simp; done) | (simp; omega))⟩, hide ⟨(by first | omega | (simp; done) | (simp; omega)), (by first | omega | (simp; done) | (simp; omega)), (by first | omega | (simp; done) | (simp; omega))⟩, hide ((((oA.setLow (by first | omega | (simp; done) | (simp; omega)) _).setLow (by first | omega | (simp; done) | (simp; omega)) _).setLow (by first | omega | (simp; done) | (simp; omega)) _).mono (by first | omega | (simp; done) | (simp; omega))), hide ((((oB.setLow (by first | omega | (simp; done) | (simp; omega)) _).setLow (by first | omega | (simp; done) | (simp; omega)) _).setLow (by first | omega | (simp; done) | (simp; omega)) _).mono (by first | omega | (simp; done) | (simp; omega))), hide (((hm4.setCell (by first | omega | (simp; done) | (simp; omega)) _).setCell (by first | omega | (simp; done) | (simp; omega)) _).setCell (by first | omega | (simp; done) | (simp; omega)) _)⟩
      | exact ⟨_, ga, gb, c', d', rfl, hide ⟨by simp [go_sem], by simp [go_sem], by simp [go_sem]⟩, hide ⟨d1, (by first | omega | (simp; done) | (simp; omega)), (by first | omega | (simp; done) | (simp; omega))⟩, hide ⟨(by first | omega | (simp; done) | (simp; omega)), (by first | omega | (simp; done) | (simp; omega)), (by first | omega | (simp; done) | (simp; omega))⟩, hide ((oA.below (bl1 _ _)).mono (by first | omega | (simp; done) | (simp; omega))), hide ((oB.below (bl1 _ _)).mono (by first | omega | (simp; done) | (simp; omega))), hide (hm4.alloc (Below.size hm4) _)⟩
  case rest =>
    obtain ⟨q, ga, gb, c', d', rfl, hq, hd, hge, oA, oB, hW⟩ := hcut
    obtain ⟨w5, hu⟩ : ∃ u, u = wc := ⟨wc, rfl⟩
    subst hu
    clear F2 GK
    obtain ⟨d1, d2, d3⟩ := hd.out
    obtain ⟨e1, e2, e3⟩ := hge.out
    obtain ⟨q0, q1, q2⟩ := hq.out
    replace f0 := cell_be hW.out f0
    have hB := hB2.trans (hW.out.mono (by omega))
    have cB := Own.cellG oB.out 0 (by rw [hl2.out]; omega)
    have fB := Own.freeG oB.out 0
    have rY := getD_rng Hy.out hp 0
    have sB := hide (Own.setG oB.out 0 (x * ys.getD 0 0 % p))
    obtain ⟨y, hyy⟩ : ∃ y, ys.getD 0 0 = y := ⟨_, rfl⟩
    rw [hyy] at cB rY sB HU
    obtain ⟨m1, m2⟩ := mulb (show 0 ≤ x by omega) (show x < p by omega) rY.1 rY.2 hp2
    have v1 : IntKind.i64.wrap (x * y) = x * y := IntWalk.i64_in _ (by omega)
    have v2 : (x * y).tmod p = x * y % p := Int.tmod_eq_emod_of_nonneg m1
    have rV := modb (x := x * y) hp
    obtain ⟨v, hv⟩ : ∃ v, x * y % p = v := ⟨_, rfl⟩
    rw [hv] at v2 rV sB HU
    have v3 : IntKind.i64.wrap v = v := IntWalk.i64_in _ (by omega)
    have hp0 : ¬ p = 0 := by omega
    have i0 : (0 : Int) < (m : Int) := by omega
    have i1 : 0 < m := by omega
    clear hyy hv
    have hbd := (Below.refl w5.heap.size w5).drew
    go_upto_region 5 with fail
    refine region_E (fun w' => w'.cell? ⟨w.heap.size, 0, none⟩ = some (.int .i64 p) ∧ w'.cell? ⟨q, 2, none⟩ = some (.slice (some ⟨gb, 0, none⟩) m d') ∧ w'.cell? ⟨gb, 0, none⟩ = some (.int .i64 y)) 12 (by kernel_rfl) ⟨cell_be hbd f0, cell_be hbd q2, cell_be hbd cB⟩ ?_
    intro hS
    refine anyE_takeL 0 rfl (by kernel_rfl) (fun _ _ _ h => h) hS (by rfl) (v := ?_) ?_ ?_
    rotate_left
    · intro w' hSw; (try dsimp only at hSw); go_simp; (try with_reducible rfl)
    try simp only [Act.put, List.setIfInBounds_toArray, List.set_cons_zero, List.set_cons_succ]
    refine anyE_takeL 1 rfl (by kernel_rfl) (fun _ _ _ h => h) hS (by rfl) (v := ?_) ?_ ?_
    rotate_left
    · intro w' hSw; (try dsimp only at hSw); go_simp; (try with_reducible rfl)
    try simp only [Act.put, List.setIfInBounds_toArray, List.set_cons_zero, List.set_cons_succ]
    refine anyE_takeL 2 rfl (by kernel_rfl) (fun _ _ _ h => h) hS (by rfl) (v := ?_) ?_ ?_
    rotate_left
    · intro w' hSw; (try dsimp only at hSw); go_simp; (try with_reducible rfl)
    try simp only [Act.put, List.setIfInBounds_toArray, List.set_cons_zero, List.set_cons_succ]
    refine anyE_takeL 3 rfl (by kernel_rfl) (fun _ _ _ h => h) hS (by rfl) (v := ?_) ?_ ?_
    rotate_left
    · intro w' hSw; (try dsimp only at hSw); go_simp; (try with_reducible rfl)
    try simp only [Act.put, List.setIfInBounds_toArray, List.set_cons_zero, List.set_cons_succ]
    refine anyE_takeL 4 rfl (by kernel_rfl) (fun _ _ _ h => h) hS (by rfl) (v := ?_) ?_ ?_
    rotate_left
    · intro w' hSw; (try dsimp only at hSw); go_simp; (try with_reducible rfl)
    try simp only [Act.put, List.setIfInBounds_toArray, List.set_cons_zero, List.set_cons_succ]
    refine anyE_takeL 5 rfl (by kernel_rfl) (fun _ _ _ h => h) hS (by rfl) (v := ?_) ?_ ?_
    rotate_left
    · intro w' hSw; (try dsimp only at hSw); go_simp; (try with_reducible rfl)
    try simp only [Act.put, List.setIfInBounds_toArray, List.set_cons_zero, List.set_cons_succ]
    refine anyE_takeL 6 rfl (by kernel_rfl) (fun _ _ _ h => h) hS (by rfl) (v := ?_) ?_ ?_
    rotate_left
    · intro w' hSw; (try dsimp only at hSw); go_simp; (try with_reducible rfl)
    try simp only [Act.put, List.setIfInBounds_toArray, List.set_cons_zero, List.set_cons_succ]
    refine anyE_takeL 7 rfl (by kernel_rfl) (fun _ _ _ h => h) hS (by rfl) (v := ?_) ?_ ?_
    rotate_left
    · intro w' hSw; (try dsimp only at hSw); go_simp; (try with_reducible rfl)
    try simp only [Act.put, List.setIfInBounds_toArray, List.set_cons_zero, List.set_cons_succ]
    refine anyE_takeL 8 rfl (by kernel_rfl) (fun _ _ _ h => h) hS (by rfl) (v := ?_) ?_ ?_
    rotate_left
    · intro w' hSw; (try dsimp only at hSw); go_simp; (try with_reducible rfl)
    try simp only [Act.put, List.setIfInBounds_toArray, List.set_cons_zero, List.set_cons_succ]
    refine anyE_takeL 9 rfl (by kernel_rfl) (fun _ _ _ h => h) hS (by rfl) (v := ?_) ?_ ?_
    rotate_left
    · intro w' hSw; (try dsimp only at hSw); go_simp; (try with_reducible rfl)
    try simp only [Act.put, List.setIfInBounds_toArray, List.set_cons_zero, List.set_cons_succ]
    refine anyE_takeL 10 rfl (by kernel_rfl) (fun _ _ _ h => h) hS (by rfl) (v := ?_) ?_ ?_
    rotate_left
    · intro w' hSw; (try dsimp only at hSw); go_simp; (try with_reducible rfl)
    try simp only [Act.put, List.setIfInBounds_toArray, List.set_cons_zero, List.set_cons_succ]
    refine anyE_takeL 11 rfl (by kernel_rfl) (fun _ _ _ h => h) hS (by rfl) (v := ?_) ?_ ?_
    rotate_left
    · intro w' hSw; (try dsimp only at hSw); go_simp; (try with_reducible rfl)
    try simp only [Act.put, List.setIfInBounds_toArray, List.set_cons_zero, List.set_cons_succ]
    clear hS
    refine anyE_lastL (by kernel_rfl) rfl (by kernel_rfl) (fun K hK => ?_)
    go_simp
    refine hK.out _ _ ?_
    clear hK K
    try simp only [Act.put, List.setIfInBounds_toArray, List.set_cons_zero, List.set_cons_succ]
    have hbA := (Below.refl (w5.setCell ⟨gb, 0, none⟩ (.int .i64 v)).heap.size (w5.setCell ⟨gb, 0, none⟩ (.int .i64 v))).drew
    obtain ⟨w6, hw6⟩ : ∃ w6, w6 = (w5.setCell ⟨gb, 0, none⟩ (.int .i64 v)).drew := ⟨_, rfl⟩
    rw [← hw6] at hbA ⊢
    have hBz : Below w2.heap.size w2 w6 := by rw [hw6]; exact (hW.out.setCell (by simp; omega) _).drew
    have oA6 := hide ((Own.otherG oA.out (show blk (some ⟨ga, 0, none⟩) ≠ some gb by simp [blk]; omega) (j := 0) (.int .i64 v)).below hbA)
    have oB6 := hide (sB.out.below hbA)
    have p0 := cell_be hbA (cell_set2 q0 (show gb ≠ q by omega) (.int .i64 v))
    have p1 := cell_be hbA (cell_set2 q1 (show gb ≠ q by omega) (.int .i64 v))
    have p2 := cell_be hbA (cell_set2 q2 (show gb ≠ q by omega) (.int .i64 v))
    have r0' := cell_be hBz r0
    have r1' := cell_be hBz r1
    have r2' := cell_be hBz r2
    have y0' := (hBz.frozen (World.block_lt_of_cell? _ _ r0)).trans y0
    have y1' := (hBz.frozen (World.block_lt_of_cell? _ _ r1)).trans y1
    have y2' := (hBz.frozen (World.block_lt_of_cell? _ _ r2)).trans y2
    have hB6 := hB2.trans (hBz.mono (by omega))
    clear hw6 hbA sB oA oB cB fB q0 q1 q2 r0 r1 r2 y0 y1 y2 hq hW hB hbd f0
    go_wp2
    refine bodyPost_ret (v := .tuple #[jac p (some ⟨ga, 0, none⟩) m c' (some ⟨gb, 0, none⟩) m d', .int .i64 0]) (by simp [results, Try.results44, go_sem, r0', r1', r2']) rfl ?_
    have jz : JZ w2.heap.size w6.heap.size w6 (some ⟨ga, 0, none⟩) m c' xs (some ⟨gb, 0, none⟩) m d' (ys.set 0 v) := ⟨OZ.of oA6.out hl.out.symm, OZ.of oB6.out (by rw [List.length_set]; exact hl2.out.symm), .inr (.inr (by simp [blk]; omega))⟩
    have jz2 := ((jz.setLow (x := ⟨w.heap.size + 1, 0, none⟩) (by simp; omega) (.int .i64 p)).setLow (x := ⟨w.heap.size + 1, 1, none⟩) (by simp; omega) (.slice (some ⟨ga, 0, none⟩) m c')).setLow (x := ⟨w.heap.size + 1, 2, none⟩) (by simp; omega) (.slice (some ⟨gb, 0, none⟩) m d')
    exact ResJ.mk HQ.out HC.out (by rw [HV.out]; exact hl.out.symm) (by rw [HU.out, List.length_set]; exact hl2.out.symm) (by rw [HV.out, HU.out]; simpa using jz2.mono (lo' := w.heap.size) (by omega) (Nat.le_refl _)) (by rw [HV.out, hl.out]; omega) (by rw [HU.out, List.length_set, hl2.out]; omega) (((hB6.setCell (by simp) _).setCell (by simp) _).setCell (by simp) _)
set_option maxRecDepth 100000 in
set_option maxHeartbeats 3200000 in
theorem specScaleJacobi (p : Int) (a : Option Addr) (n c : Nat) (xs : List Int) (b : Option Addr) (m d : Nat) (ys : List Int) (x : Int) (w : World) (hs : SL w a n c xs) (ht : SL w b m d ys) (hn : n ≤ 4000000) (hm : m ≤ 4000000) :
    Calls Try.prog 43 #[jac p a n c b m d, .int .i64 x] w (ResJ w (scjP p xs ys x) (scjV p xs ys x) (scjU p xs ys x) (scjC p xs ys x)) := by
  have hl := hide hs.len
  have hl2 := hide ht.len
  have hb0 := bl2 w (.cells #[.int .i64 p, .slice a n c, .slice b m d] 38) (.cells #[.int .i64 0, .slice none 0 0, .slice none 0 0] 38)
  have g1 := hs.below hb0
  have g2 := ht.below hb0
  have hbL := bl1 ((w.alloc (.cells #[.int .i64 p, .slice a n c, .slice b m d] 38)).alloc (.cells #[.int .i64 0, .slice none 0 0, .slice none 0 0] 38)) (.cells #[.int .i64 x] 2)
  have k1 := g1.below hbL
  have k2 := g2.below hbL
  have hb02 := bnext hb0 hbL
  have gx : SL (((w.alloc (.cells #[.int .i64 p, .slice a n c, .slice b m d] 38)).alloc (.cells #[.int .i64 0, .slice none 0 0, .slice none 0 0] 38)).alloc (.cells #[.int .i64 x] 2)) (some ⟨w.heap.size + 1 + 1, 0, none⟩) 1 1 [x] := by simpa using litSL ((w.alloc (.cells #[.int .i64 p, .slice a n c, .slice b m d] 38)).alloc (.cells #[.int .i64 0, .slice none 0 0, .slice none 0 0] 38)) x
  cases hj : jacB p xs ys
  · have HC := hide (show scjC p xs ys x = 1 by simp [scjC, jcd, hj])
    have HE := hide (scj_err HC.out (by decide))
    have HR := hide (show jcd p xs ys x 1 (p - 1) = 1 from HC.out)
    clear hj
    go_enter Try.func43, Try.ntmps43
    go_wp2_with fail
    refine (l08Code_one _ _ _ _ _ _ _ _ _ _ _ 1 _ _ k1 k2 gx hn hm HR.out).mono ?_
    rintro e w2 ⟨rfl, hb1⟩
    have f0 : w2.cell? ⟨w.heap.size, 0, none⟩ = some (.int .i64 p) := cell_be hb1 (by simp [go_sem])
    have f1 : w2.cell? ⟨w.heap.size, 1, none⟩ = some (.slice a n c) := cell_be hb1 (by simp [go_sem])
    have f2 : w2.cell? ⟨w.heap.size, 2, none⟩ = some (.slice b m d) := cell_be hb1 (by simp [go_sem])
    have r0 : w2.cell? ⟨w.heap.size + 1, 0, none⟩ = some (.int .i64 0) := cell_be hb1 (by simp [go_sem])
    have r1 : w2.cell? ⟨w.heap.size + 1, 1, none⟩ = some (.slice none 0 0) := cell_be hb1 (by simp [go_sem])
    have r2 : w2.cell? ⟨w.heap.size + 1, 2, none⟩ = some (.slice none 0 0) := cell_be hb1 (by simp [go_sem])
    have y0 : w2.frozen? ⟨w.heap.size + 1, 0, none⟩ = false := (hb1.frozen (by simp)).trans (by simp [go_sem])
    have y1 : w2.frozen? ⟨w.heap.size + 1, 1, none⟩ = false := (hb1.frozen (by simp)).trans (by simp [go_sem])
    have y2 : w2.frozen? ⟨w.heap.size + 1, 2, none⟩ = false := (hb1.frozen (by simp)).trans (by simp [go_sem])
    have hB2 := bnext hb02 hb1
    go_wp2
    refine bodyPost_ret (v := .tuple #[jac 0 none 0 0 none 0 0, .int .i64 1]) (by simp [results, Try.results43, go_sem, r0, r1, r2]) rfl ?_
    exact ResJ.nil HE.out.1 HE.out.2.1 HE.out.2.2 HC.out (((hB2.setCell (by simp) _).setCell (by simp) _).setCell (by simp) _)
  obtain ⟨hpr, n1, n2, n3, hx, hy⟩ := jacB_rng hj
  obtain ⟨hp, hp2⟩ := primeB_lo hpr
  rw [hl.out] at n1 n2 n3
  rw [hl2.out] at n3
  subst n3
  by_cases hr : 1 ≤ x ∧ x ≤ p - 1
  rotate_left
  · have HC := hide (show scjC p xs ys x = 2 by simp only [scjC, jcd, hj, if_true]; rw [if_neg hr])
    have HE := hide (scj_err HC.out (by decide))
    have HR := hide (show jcd p xs ys x 1 (p - 1) = 2 from HC.out)
    clear hj hr hx hy
    go_enter Try.func43, Try.ntmps43
    go_wp2_with fail
    refine (l08Code_one _ _ _ _ _ _ _ _ _ _ _ 2 _ _ k1 k2 gx hn hm HR.out).mono ?_
    rintro e w2 ⟨rfl, hb1⟩
    have f0 : w2.cell? ⟨w.heap.size, 0, none⟩ = some (.int .i64 p) := cell_be hb1 (by simp [go_sem])
    have f1 : w2.cell? ⟨w.heap.size, 1, none⟩ = some (.slice a m c) := cell_be hb1 (by simp [go_sem])
    have f2 : w2.cell? ⟨w.heap.size, 2, none⟩ = some (.slice b m d) := cell_be hb1 (by simp [go_sem])
    have r0 : w2.cell? ⟨w.heap.size + 1, 0, none⟩ = some (.int .i64 0) := cell_be hb1 (by simp [go_sem])
    have r1 : w2.cell? ⟨w.heap.size + 1, 1, none⟩ = some (.slice none 0 0) := cell_be hb1 (by simp [go_sem])
    have r2 : w2.cell? ⟨w.heap.size + 1, 2, none⟩ = some (.slice none 0 0) := cell_be hb1 (by simp [go_sem])
    have y0 : w2.frozen? ⟨w.heap.size + 1, 0, none⟩ = false := (hb1.frozen (by simp)).trans (by simp [go_sem])
    have y1 : w2.frozen? ⟨w.heap.size + 1, 1, none⟩ = false := (hb1.frozen (by simp)).trans (by simp [go_sem])
    have y2 : w2.frozen? ⟨w.heap.size + 1, 2, none⟩ = false := (hb1.frozen (by simp)).trans (by simp [go_sem])
    have hB2 := bnext hb02 hb1
    go_wp2
    refine bodyPost_ret (v := .tuple #[jac 0 none 0 0 none 0 0, .int .i64 2]) (by simp [results, Try.results43, go_sem, r0, r1, r2]) rfl ?_
    exact ResJ.nil HE.out.1 HE.out.2.1 HE.out.2.2 HC.out (((hB2.setCell (by simp) _).setCell (by simp) _).setCell (by simp) _)
  have HC := hide (show scjC p xs ys x = 0 by simp only [scjC, jcd, hj, if_true]; rw [if_pos hr])
  have HR := hide (show jcd p xs ys x 1 (p - 1) = 0 from HC.out)
  have HV := hide (show scjV p xs ys x = xs by unfold scjV; rw [if_pos HC.out])
  have HU := hide (show scjU p xs ys x = ys.set 0 (x * ys.getD 0 0 % p) by unfold scjU; rw [if_pos HC.out])
  have HQ := hide (show scjP p xs ys x = p by unfold scjP; rw [if_pos HC.out])
  have Hy := hide (posB_are hy)
  obtain ⟨x0, x1⟩ := hr
  clear hj hx hy hpr
  obtain ⟨bb, oo, rfl, hbw, hcc⟩ := ht.at (show 0 < m by omega)
  have hY0 : w.cell? ⟨bb, oo, none⟩ = some (.int .i64 (ys.getD 0 0)) := hcc 0 (by omega)
  clear hcc
  go_enter Try.func43, Try.ntmps43
  go_wp2_with fail
  refine (l08Code_one _ _ _ _ _ _ _ _ _ _ _ 0 _ _ k1 k2 gx hn hm HR.out).mono ?_
  rintro e w1 ⟨rfl, hb1⟩
  have hB1 := bnext hb02 hb1
  have z1 := hb1.size
  simp at z1
  have f0 : w1.cell? ⟨w.heap.size, 0, none⟩ = some (.int .i64 p) := cell_be hb1 (by simp [go_sem])
  have f1 : w1.cell? ⟨w.heap.size, 1, none⟩ = some (.slice a m c) := cell_be hb1 (by simp [go_sem])
  have f2 : w1.cell? ⟨w.heap.size, 2, none⟩ = some (.slice (some ⟨bb, oo, none⟩) m d) := cell_be hb1 (by simp [go_sem])
  have r0 : w1.cell? ⟨w.heap.size + 1, 0, none⟩ = some (.int .i64 0) := cell_be hb1 (by simp [go_sem])
  have r1 : w1.cell? ⟨w.heap.size + 1, 1, none⟩ = some (.slice none 0 0) := cell_be hb1 (by simp [go_sem])
  have r2 : w1.cell? ⟨w.heap.size + 1, 2, none⟩ = some (.slice none 0 0) := cell_be hb1 (by simp [go_sem])
  have y0 : w1.frozen? ⟨w.heap.size + 1, 0, none⟩ = false := (hb1.frozen (by simp)).trans (by simp [go_sem])
  have y1 : w1.frozen? ⟨w.heap.size + 1, 1, none⟩ = false := (hb1.frozen (by simp)).trans (by simp [go_sem])
  have y2 : w1.frozen? ⟨w.heap.size + 1, 2, none⟩ = false := (hb1.frozen (by simp)).trans (by simp [go_sem])
  go_wp2_with fail
  refine (l08Copy_any _ _ _ _ _ _ _ _ _ _ (k1.below hb1) (k2.below hb1) hn hm).mono ?_
  rintro e w2 ⟨a', c', b', d', rfl, ho, hb2⟩
  have hB2 := bnext hB1 hb2
  have zz2 := hb2.size
  have z2 : w.heap.size + 1 + 1 ≤ w2.heap.size := by omega
  replace f0 := cell_be hb2 f0
  replace f1 := cell_be hb2 f1
  replace f2 := cell_be hb2 f2
  obtain ⟨ga, gb, rfl, rfl, d1, d2, d3, d4, d5, oA0, oB0⟩ := ho.rows (by omega) (by omega)
  have hW := bl1 w2 (.cells #[.int .i64 p, .slice (some ⟨ga, 0, none⟩) m c', .slice (some ⟨gb, 0, none⟩) m d'] 38)
  have q0 : (w2.alloc (.cells #[.int .i64 p, .slice (some ⟨ga, 0, none⟩) m c', .slice (some ⟨gb, 0, none⟩) m d'] 38)).cell? ⟨w2.heap.size, 0, none⟩ = some (.int .i64 p) := by simp [go_sem]
  have q1 : (w2.alloc (.cells #[.int .i64 p, .slice (some ⟨ga, 0, none⟩) m c', .slice (some ⟨gb, 0, none⟩) m d'] 38)).cell? ⟨w2.heap.size, 1, none⟩ = some (.slice (some ⟨ga, 0, none⟩) m c') := by simp [go_sem]
  have q2 : (w2.alloc (.cells #[.int .i64 p, .slice (some ⟨ga, 0, none⟩) m c', .slice (some ⟨gb, 0, none⟩) m d'] 38)).cell? ⟨w2.heap.size, 2, none⟩ = some (.slice (some ⟨gb, 0, none⟩) m d') := by simp [go_sem]
  go_upto_region 5 with fail
  obtain ⟨w5, hw5⟩ : ∃ w5, w5 = (w2.alloc (.cells #[.int .i64 p, .slice (some ⟨ga, 0, none⟩) m c', .slice (some ⟨gb, 0, none⟩) m d'] 38)) := ⟨_, rfl⟩
  have hWs : w2.heap.size < w5.heap.size := by rw [hw5]; simp
  rw [← hw5] at q0 q1 q2 hW ⊢
  obtain ⟨q, hqq⟩ : ∃ q, q = w2.heap.size := ⟨_, rfl⟩
  have hqa : ga ≠ q := by omega
  have hqb : gb ≠ q := by omega
  rw [← hqq] at q0 q1 q2 ⊢
  clear hqq
  have oA := hide (oA0.below hW)
  have oB := hide (oB0.below hW)
  replace f0 := cell_be hW f0
  replace f2 := cell_be hW f2
  have cY := cell_be (hB2.trans (hW.mono (by omega))) hY0
  have hB := hB2.trans (hW.mono (by omega))
  have cB := Own.cellG oB.out 0 (by rw [hl2.out]; omega)
  have fB := Own.freeG oB.out 0
  have rY := getD_rng Hy.out hp 0
  have sB := hide (Own.setG oB.out 0 (x * ys.getD 0 0 % p))
  obtain ⟨y, hyy⟩ : ∃ y, ys.getD 0 0 = y := ⟨_, rfl⟩
  rw [hyy] at cB rY sB HU cY
  obtain ⟨m1, m2⟩ := mulb (show 0 ≤ x by omega) (show x < p by omega) rY.1 rY.2 hp2
  have v1 : IntKind.i64.wrap (x * y) = x * y := IntWalk.i64_in _ (by omega)
  have v2 : (x * y).tmod p = x * y % p := Int.tmod_eq_emod_of_nonneg m1
  have rV := modb (x := x * y) hp
  obtain ⟨v, hv⟩ : ∃ v, x * y % p = v := ⟨_, rfl⟩
  rw [hv] at v2 rV sB HU
  have v3 : IntKind.i64.wrap v = v := IntWalk.i64_in _ (by omega)
  have hp0 : ¬ p = 0 := by omega
  have i0 : (0 : Int) < (m : Int) := by omega
  have i1 : 0 < m := by omega
  clear hyy hv hw5 hY0
  have hbd := (Below.refl w5.heap.size w5).drew
  refine region_E (fun w' => w'.cell? ⟨w.heap.size, 0, none⟩ = some (.int .i64 p) ∧ w'.cell? ⟨w.heap.size, 2, none⟩ = some (.slice (some ⟨bb, oo, none⟩) m d) ∧ w'.cell? ⟨bb, oo, none⟩ = some (.int .i64 y) ∧ w'.cell? ⟨q, 2, none⟩ = some (.slice (some ⟨gb, 0, none⟩) m d') ∧ w'.cell? ⟨gb, 0, none⟩ = some (.int .i64 y)) 12 (by kernel_rfl) ⟨cell_be hbd f0, cell_be hbd f2, cell_be hbd cY, cell_be hbd q2, cell_be hbd cB⟩ ?_
  intro hS
  refine anyE_takeL 0 rfl (by kernel_rfl) (fun _ _ _ h => h) hS (by rfl) (v := ?_) ?_ ?_
  rotate_left
  · intro w' hSw; (try dsimp only at hSw); go_simp; (try with_reducible rfl)
  try simp only [Act.put, List.setIfInBounds_toArray, List.set_cons_zero, List.set_cons_succ]
  refine anyE_takeL 1 rfl (by kernel_rfl) (fun _ _ _ h => h) hS (by rfl) (v := ?_) ?_ ?_
  rotate_left
  · intro w' hSw; (try dsimp only at hSw); go_simp; (try with_reducible rfl)
  try simp only [Act.put, List.setIfInBounds_toArray, List.set_cons_zero, List.set_cons_succ]
  refine anyE_takeL 2 rfl (by kernel_rfl) (fun _ _ _ h => h) hS (by rfl) (v := ?_) ?_ ?_
  rotate_left
  · intro w' hSw; (try dsimp only at hSw); go_simp; (try with_reducible rfl)
  try simp only [Act.put, List.setIfInBounds_toArray, List.set_cons_zero, List.set_cons_succ]
  refine anyE_takeL 3 rfl (by kernel_rfl) (fun _ _ _ h => h) hS (by rfl) (v := ?_) ?_ ?_
  rotate_left
  · intro w' hSw; (try dsimp only at hSw); go_simp; (try with_reducible rfl)
  try simp only [Act.put, List.setIfInBounds_toArray, List.set_cons_zero, List.set_cons_succ]
  refine anyE_takeL 4 rfl (by kernel_rfl) (fun _ _ _ h => h) hS (by rfl) (v := ?_) ?_ ?_
  rotate_left
  · intro w' hSw; (try dsimp only at hSw); go_simp; (try with_reducible rfl)
  try simp only [Act.put, List.setIfInBounds_toArray, List.set_cons_zero, List.set_cons_succ]
  refine anyE_takeL 5 rfl (by kernel_rfl) (fun _ _ _ h => h) hS (by rfl) (v := ?_) ?_ ?_
  rotate_left
  · intro w' hSw; (try dsimp only at hSw); go_simp; (try with_reducible rfl)
  try simp only [Act.put, List.setIfInBounds_toArray, List.set_cons_zero, List.set_cons_succ]
  refine anyE_takeL 6 rfl (by kernel_rfl) (fun _ _ _ h => h) hS (by rfl) (v := ?_) ?_ ?_
  rotate_left
  · intro w' hSw; (try dsimp only at hSw); go_simp; (try with_reducible rfl)
  try simp only [Act.put, List.setIfInBounds_toArray, List.set_cons_zero, List.set_cons_succ]
  refine anyE_takeL 7 rfl (by kernel_rfl) (fun _ _ _ h => h) hS (by rfl) (v := ?_) ?_ ?_
  rotate_left
  · intro w' hSw; (try dsimp only at hSw); go_simp; (try with_reducible rfl)
  try simp only [Act.put, List.setIfInBounds_toArray, List.set_cons_zero, List.set_cons_succ]
  refine anyE_takeL 8 rfl (by kernel_rfl) (fun _ _ _ h => h) hS (by rfl) (v := ?_) ?_ ?_
  rotate_left
  · intro w' hSw; (try dsimp only at hSw); go_simp; (try with_reducible rfl)
  try simp only [Act.put, List.setIfInBounds_toArray, List.set_cons_zero, List.set_cons_succ]
  refine anyE_takeL 9 rfl (by kernel_rfl) (fun _ _ _ h => h) hS (by rfl) (v := ?_) ?_ ?_
  rotate_left
  · intro w' hSw; (try dsimp only at hSw); go_simp; (try with_reducible rfl)
  try simp only [Act.put, List.setIfInBounds_toArray, List.set_cons_zero, List.set_cons_succ]
  refine anyE_takeL 10 rfl (by kernel_rfl) (fun _ _ _ h => h) hS (by rfl) (v := ?_) ?_ ?_
  rotate_left
  · intro w' hSw; (try dsimp only at hSw); go_simp; (try with_reducible rfl)
  try simp only [Act.put, List.setIfInBounds_toArray, List.set_cons_zero, List.set_cons_succ]
  refine anyE_takeL 11 rfl (by kernel_rfl) (fun _ _ _ h => h) hS (by rfl) (v := ?_) ?_ ?_
  rotate_left
  · intro w' hSw; (try dsimp only at hSw); go_simp; (try with_reducible rfl)
  try simp only [Act.put, List.setIfInBounds_toArray, List.set_cons_zero, List.set_cons_succ]
  clear hS
  refine anyE_lastL (by kernel_rfl) rfl (by kernel_rfl) (fun K hK => ?_)
  go_simp
  refine hK.out _ _ ?_
  clear hK K
  try simp only [Act.put, List.setIfInBounds_toArray, List.set_cons_zero, List.set_cons_succ]
  have hbA := (Below.refl (w5.setCell ⟨gb, 0, none⟩ (.int .i64 v)).heap.size (w5.setCell ⟨gb, 0, none⟩ (.int .i64 v))).drew
  obtain ⟨w6, hw6⟩ : ∃ w6, w6 = (w5.setCell ⟨gb, 0, none⟩ (.int .i64 v)).drew := ⟨_, rfl⟩
  rw [← hw6] at hbA ⊢
  have hBz : Below w1.heap.size w1 w6 := by rw [hw6]; exact ((hb2.trans (hW.mono zz2)).setCell (by simp; omega) _).drew
  have oA6 := hide ((Own.otherG oA.out (show blk (some ⟨ga, 0, none⟩) ≠ some gb by simp [blk]; omega) (j := 0) (.int .i64 v)).below hbA)
  have oB6 := hide (sB.out.below hbA)
  have p0 := cell_be hbA (cell_set2 q0 hqb (.int .i64 v))
  have p1 := cell_be hbA (cell_set2 q1 hqb (.int .i64 v))
  have p2 := cell_be hbA (cell_set2 q2 hqb (.int .i64 v))
  have r0' := cell_be hBz r0
  have r1' := cell_be hBz r1
  have r2' := cell_be hBz r2
  have y0' := (hBz.frozen (World.block_lt_of_cell? _ _ r0)).trans y0
  have y1' := (hBz.frozen (World.block_lt_of_cell? _ _ r1)).trans y1
  have y2' := (hBz.frozen (World.block_lt_of_cell? _ _ r2)).trans y2
  have hB6 := hB1.trans (hBz.mono (by omega))
  clear hw6 hbA sB oA oB cB fB q0 q1 q2 r0 r1 r2 y0 y1 y2 hW hB hbd f0 f2 cY
  go_wp2
  refine bodyPost_ret (v := .tuple #[jac p (some ⟨ga, 0, none⟩) m c' (some ⟨gb, 0, none⟩) m d', .int .i64 0]) (by simp [results, Try.results43, go_sem, r0', r1', r2']) rfl ?_
  have jz : JZ w1.heap.size w6.heap.size w6 (some ⟨ga, 0, none⟩) m c' xs (some ⟨gb, 0, none⟩) m d' (ys.set 0 v) := ⟨OZ.of oA6.out hl.out.symm, OZ.of oB6.out (by rw [List.length_set]; exact hl2.out.symm), .inr (.inr (by simp [blk]; omega))⟩
  have jz2 := ((jz.setLow (x := ⟨w.heap.size + 1, 0, none⟩) (by simp; omega) (.int .i64 p)).setLow (x := ⟨w.heap.size + 1, 1, none⟩) (by simp; omega) (.slice (some ⟨ga, 0, none⟩) m c')).setLow (x := ⟨w.heap.size + 1, 2, none⟩) (by simp; omega) (.slice (some ⟨gb, 0, none⟩) m d')
  exact ResJ.mk HQ.out HC.out (by rw [HV.out]; exact hl.out.symm) (by rw [HU.out, List.length_set]; exact hl2.out.symm) (by rw [HV.out, HU.out]; simpa using jz2.mono (lo' := w.heap.size) (by omega) (Nat.le_refl _)) (by rw [HV.out, hl.out]; omega) (by rw [HU.out, List.length_set, hl2.out]; omega) (((hB6.setCell (by simp) _).setCell (by simp) _).setCell (by simp) _)
end Go.Proofs.Ytllcgoachgfpjaa
