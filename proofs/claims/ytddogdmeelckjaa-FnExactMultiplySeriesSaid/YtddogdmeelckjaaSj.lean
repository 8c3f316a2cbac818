/- Contracts: MultiplySeries (program and model). -/
import Derived.Test.YtddogdmeelckjaaSg
namespace Go.Proofs.Ytddogdmeelckjaa
open Go.RowKit
set_option linter.unusedVariables false
set_option linter.unusedSimpArgs false

def mseC (p : Int) (xs ys : List Int) : Int := if lisB p xs 0 24 = true then (if lisB p ys xs.length xs.length = true then 0 else 2) else 2
def mseV (p : Int) (xs ys : List Int) : List Int := if mseC p xs ys = 0 then tab xs.length (mulH p xs ys xs.length) else []
theorem lisB_same (p : Int) (xs ys : List Int) (h : lisB p xs 0 24 = true) : lisB p ys xs.length xs.length = (lisB p ys 0 24 && decide (xs.length = ys.length)) := by
  obtain ⟨h1, h2, h3, h4⟩ := lisB_rng h
  unfold lisB
  by_cases e : xs.length = ys.length
  · have e1 : (decide ((xs.length : Int) ≤ (ys.length : Int)) && decide ((ys.length : Int) ≤ (xs.length : Int))) = true := by simp; omega
    have e2 : (decide ((0 : Int) ≤ (ys.length : Int)) && decide ((ys.length : Int) ≤ 24)) = true := by simp; omega
    rw [e1, e2, decide_eq_true e]
    simp
  · have e1 : (decide ((xs.length : Int) ≤ (ys.length : Int)) && decide ((ys.length : Int) ≤ (xs.length : Int))) = false := by
      simp
      omega
    rw [e1, decide_eq_false e]
    simp
theorem tab_takeN (n m : Nat) (h : Nat → Int) (hm : m ≤ n) : (tab n h).take m = tab m h := by
  apply ext_tab
  · simp [tab]; omega
  · intro j hj
    have hj' : j < m := by simp at hj; omega
    rw [tab_at _ _ _ hj']
    simp [tab, hj', show j < n by omega]
theorem mulIn_cut (p a : Int) (g : List Int) (H : Nat → Int) (n i k : Nat) (hk : n ≤ i + k) (hg : g.length = n) : tab n (mulIn p a g H i k) = tab n (mulIn p a g H i g.length) := by
  apply tab_congr
  intro j hj
  unfold mulIn
  by_cases h : i ≤ j
  · rw [if_pos ⟨h, by omega⟩, if_pos ⟨h, by omega⟩]
  · rw [if_neg (fun x => h x.1), if_neg (fun x => h x.1)]
theorem mse_take {p : Int} {xs ys : List Int} (h : xs.length = ys.length) : (mulM p xs ys).take xs.length = tab xs.length (mulH p xs ys xs.length) := by
  by_cases h0 : xs.length = 0
  · rw [h0]; simp [tab]
  · rw [mulM_tab h0 (by omega), tab_takeN _ _ _ (by omega)]
set_option maxRecDepth 100000 in
set_option maxHeartbeats 1600000 in
theorem implMultiplySeries (p : Int) (a1 : Option Addr) (n1 c1 : Nat) (xs : List Int) (a2 : Option Addr) (n2 c2 : Nat) (ys : List Int) (w : World) (h1 : SL w a1 n1 c1 xs) (h2 : SL w a2 n2 c2 ys) (b1 : n1 ≤ 4000000) (b2 : n2 ≤ 4000000) :
    Calls Try.prog 22 #[.int .i64 p, .slice a1 n1 c1, .slice a2 n2 c2] w (Res1 w (mseV p xs ys) (mseC p xs ys)) := by
  have hl1 := hide h1.len
  have hl2 := hide h2.len
  have hbr := Below.refl w.heap.size w
  cases hL : lisB p xs 0 24
  · have HL := hide hL
    have HC := hide (show mseC p xs ys = 2 by simp [mseC, hL])
    have HV := hide (show mseV p xs ys = [] by simp [mseV, HC.out])
    clear hL
    go_enter Try.func22, Try.ntmps22
    go_wp2_with fail
    refine (isListFor_any p _ _ _ xs 0 24 _ h1 b1).mono ?_
    rintro e v1 ⟨rfl, rfl⟩
    rw [HL.out]
    go_wp2
    go_ret2
    exact Res1.nil HV.out HC.out hbr
  have HL := hide hL
  cases hM : lisB p ys n1 n1
  · have HM := hide hM
    have HC := hide (show mseC p xs ys = 2 by simp [mseC, hl1.out, hM])
    have HV := hide (show mseV p xs ys = [] by simp [mseV, HC.out])
    clear hL hM
    go_enter Try.func22, Try.ntmps22
    go_wp2_with fail
    refine (isListFor_any p _ _ _ xs 0 24 _ h1 b1).mono ?_
    rintro e v1 ⟨rfl, rfl⟩
    rw [HL.out]
    go_wp2_with fail
    refine (isListFor_any p _ _ _ ys n1 n1 _ h2 b2).mono ?_
    rintro e v1 ⟨rfl, rfl⟩
    rw [HM.out]
    go_wp2
    go_ret2
    exact Res1.nil HV.out HC.out hbr
  have HM := hide hM
  obtain ⟨hP, _, hx2, hX⟩ := lisB_rng hL
  obtain ⟨_, hy1, hy2, hY⟩ := lisB_rng hM
  rw [hl1.out] at hx2
  rw [hl2.out] at hy1 hy2
  obtain ⟨hp, hp2⟩ := primeB_lo hP
  have he : n1 = n2 := by omega
  subst he
  have HC := hide (show mseC p xs ys = 0 by simp [mseC, hL, hl1.out, hM])
  have HV := hide (show mseV p xs ys = (mulM p xs ys).take n1 by rw [← hl1.out, mse_take (by rw [hl1.out, hl2.out])]; simp [mseV, HC.out])
  have HX := hide hX
  have HY := hide hY
  have hle : n1 ≤ (mulM p xs ys).length := by rw [mulM_mlen, hl1.out, hl2.out]; unfold mlen; split <;> omega
  have hvl := hide (show ((mulM p xs ys).take n1).length = n1 by simp; omega)
  obtain ⟨zs, hzs⟩ : ∃ zs, mulM p xs ys = zs := ⟨_, rfl⟩
  have Hzs := hide hzs
  rw [hzs] at hle HV hvl
  clear hL hM hP hX hY hzs
  go_enter Try.func22, Try.ntmps22
  go_wp2_with fail
  refine (isListFor_any p _ _ _ xs 0 24 _ h1 b1).mono ?_
  rintro e v1 ⟨rfl, rfl⟩
  rw [HL.out]
  go_wp2_with fail
  refine (isListFor_any p _ _ _ ys n1 n1 _ h2 b2).mono ?_
  rintro e v1 ⟨rfl, rfl⟩
  rw [HM.out]
  go_wp2_with fail
  refine (multiply_any p _ _ _ xs _ _ _ ys _ h1 h2 (by omega) (by omega) hp hp2 HX.out HY.out).mono ?_
  rintro e w2 ⟨a', c', rfl, ho, t2⟩
  rw [Hzs.out] at ho ⊢
  have hcap := ho.sl.le
  have hO := hide (ho.takeG hle)
  have q1 : (n1 : Int) ≤ (c' : Int) := by omega
  by_cases h0 : n1 = 0
  · subst h0
    rcases ho.shape with ⟨rfl, rfl, he⟩ | ⟨g, cur, rfl, _⟩
    · clear ho
      go_wp2
      go_ret2
      exact Res1.own HC.out (by rw [HV.out, hvl.out]) (by rw [HV.out]; exact hO.out) (by rw [HV.out, hvl.out]; omega) t2
    · clear ho
      go_wp2
      go_ret2
      exact Res1.own HC.out (by rw [HV.out, hvl.out]) (by rw [HV.out]; exact hO.out) (by rw [HV.out, hvl.out]; omega) t2
  · obtain ⟨g, rfl, _, _, _⟩ := ho.blkG (by omega)
    clear ho
    go_wp2
    go_ret2
    exact Res1.own HC.out (by rw [HV.out, hvl.out]) (by rw [HV.out]; exact hO.out) (by rw [HV.out, hvl.out]; omega) t2
set_option maxRecDepth 100000 in
set_option maxHeartbeats 1600000 in
theorem specMultiplySeries (p : Int) (a1 : Option Addr) (n1 c1 : Nat) (xs : List Int) (a2 : Option Addr) (n2 c2 : Nat) (ys : List Int) (w : World) (h1 : SL w a1 n1 c1 xs) (h2 : SL w a2 n2 c2 ys) (b1 : n1 ≤ 4000000) (b2 : n2 ≤ 4000000) :
    Calls Try.prog 21 #[.int .i64 p, .slice a1 n1 c1, .slice a2 n2 c2] w (Res1 w (mseV p xs ys) (mseC p xs ys)) := by
  have hl1 := hide h1.len
  have hl2 := hide h2.len
  cases hL : lisB p xs 0 24
  · have HL := hide hL
    have HC := hide (show mseC p xs ys = 2 by simp [mseC, hL])
    have HV := hide (show mseV p xs ys = [] by simp [mseV, HC.out])
    clear hL
    go_enter Try.func21, Try.ntmps21
    go_wp2_with fail
    refine (l05Given_any p _ _ _ xs 0 _ h1 b1).mono ?_
    rintro e v1 ⟨rfl, t1⟩
    rw [HL.out]
    go_wp2
    go_ret2
    exact Res1.nil HV.out HC.out t1
  have HL := hide hL
  have hsame := lisB_same p xs ys hL
  cases hM : lisB p ys 0 24
  · have HM := hide hM
    have HC := hide (show mseC p xs ys = 2 by simp [mseC, hsame, hM])
    have HV := hide (show mseV p xs ys = [] by simp [mseV, HC.out])
    clear hL hM hsame
    go_enter Try.func21, Try.ntmps21
    go_wp2_with fail
    refine (l05Given_any p _ _ _ xs 0 _ h1 b1).mono ?_
    rintro e v1 ⟨rfl, t1⟩
    rw [HL.out]
    go_wp2_with fail
    refine (l05Given_any p _ _ _ ys 0 _ (h2.below t1) b2).mono ?_
    rintro e v2 ⟨rfl, t2⟩
    have B2 := bnext t1 t2
    rw [HM.out]
    go_wp2
    go_ret2
    exact Res1.nil HV.out HC.out B2
  have HM := hide hM
  by_cases he : n1 = n2
  rotate_left
  · have ob : ((n1 : Int) != (n2 : Int)) = true := by simp; omega
    have hd : ¬ xs.length = ys.length := by rw [hl1.out, hl2.out]; exact he
    have HC := hide (show mseC p xs ys = 2 by simp [mseC, hsame, hd])
    have HV := hide (show mseV p xs ys = [] by simp [mseV, HC.out])
    clear hL hM hsame hd he
    go_enter Try.func21, Try.ntmps21
    go_wp2_with fail
    refine (l05Given_any p _ _ _ xs 0 _ h1 b1).mono ?_
    rintro e v1 ⟨rfl, t1⟩
    rw [HL.out]
    go_wp2_with fail
    refine (l05Given_any p _ _ _ ys 0 _ (h2.below t1) b2).mono ?_
    rintro e v2 ⟨rfl, t2⟩
    have B2 := bnext t1 t2
    rw [HM.out]
    go_wp2
    go_ret2
    exact Res1.nil HV.out HC.out B2
  subst he
  obtain ⟨hP, _, hx2, hX⟩ := lisB_rng hL
  obtain ⟨_, _, _, hY⟩ := lisB_rng hM
  rw [hl1.out] at hx2
  obtain ⟨hp, hp2⟩ := primeB_lo hP
  have hd : xs.length = ys.length := by rw [hl1.out, hl2.out]
  have hss : lisB p ys xs.length xs.length = true := by rw [hsame, hM, decide_eq_true hd]; rfl
  have HC := hide (show mseC p xs ys = 0 by simp only [mseC, hL, hss, if_true])
  have HV := hide (show mseV p xs ys = tab n1 (mulH p xs ys n1) by simp only [mseV, HC.out, if_true]; rw [hl1.out])
  have Hf := hide hX
  have Hg := hide hY
  clear hL hM hP hX hY hsame hd hss
  go_enter Try.func21, Try.ntmps21
  go_wp2_with fail
  refine (l05Given_any p _ _ _ xs 0 _ h1 b1).mono ?_
  rintro e v1 ⟨rfl, t1⟩
  rw [HL.out]
  replace h1 := h1.below t1
  replace h2 := h2.below t1
  go_wp2_with fail
  refine (l05Given_any p _ _ _ ys 0 _ h2 b2).mono ?_
  rintro e v2 ⟨rfl, t2⟩
  have B2 := bnext t1 t2
  replace h1 := h1.below t2
  replace h2 := h2.below t2
  rw [HM.out]
  have z2 := B2.size
  clear t1 t2
  go_wp2_with (at_make; refine wp_make rfl _ _ rfl _ _ n1 rfl rfl rfl rfl (by omega) ?_; intro w3 hrow hb hsz)
  have hrow2 : Hid (RowI w3 v2.heap.size (tab n1 (mulH p xs ys 0))) := hide (by have := hrow.out; rwa [tab_zero] at this)
  clear hrow
  go_loopw [9] (fun v wr => ∃ i : Nat, i ≤ n1 ∧ v = .int .i64 i ∧ Hid (RowI wr v2.heap.size (tab n1 (mulH p xs ys i))) ∧ Below v2.heap.size v2 wr ∧ v2.heap.size < wr.heap.size) (fun v _ => n1 - (intOf v).toNat)
  case atStart => exact ⟨0, by omega, rfl, hrow2, hb, hsz⟩
  case round =>
    obtain ⟨i, hi, rfl, hR, hbr, hsr⟩ := hrel
    clear hrow2 hb hsz
    by_cases hlt : i < n1
    · have hr1 := getD_rng Hf.out hp i
      have hstep : Hid (mulH p xs ys (i + 1) = mulIn p (xs.getD i 0) ys (mulH p xs ys i) i n1) := hide (by rw [mulH, hl2.out])
      obtain ⟨x, hx⟩ : ∃ x, xs.getD i 0 = x := ⟨_, rfl⟩
      rw [hx] at hr1 hstep
      have Hx := hide hx
      obtain ⟨r1, r2⟩ := hr1
      clear hx
      have hlt' : (i : Int) < (n1 : Int) := by omega
      go_wp2
      obtain ⟨wo, hwo⟩ : ∃ wo : World, wo = wr := ⟨_, rfl⟩
      subst hwo
      have hR0 : Hid (RowI wo v2.heap.size (tab n1 (mulIn p x ys (mulH p xs ys i) i 0))) := hide (by rw [mulIn_zero]; exact hR.out)
      go_loopw [10] (fun v wr => ∃ k : Nat, i + k ≤ n1 ∧ v = .int .i64 k ∧ Hid (RowI wr v2.heap.size (tab n1 (mulIn p x ys (mulH p xs ys i) i k))) ∧ Below v2.heap.size v2 wr ∧ v2.heap.size < wr.heap.size) (fun v _ => n1 - (intOf v).toNat)
      case atStart => exact ⟨0, by omega, rfl, hR0, hbr, hsr⟩
      case round =>
        obtain ⟨k, hk, rfl, hRk, hbk, hsk⟩ := hrel
        clear hR0 hR
        have w3 : IntKind.i64.wrap ((i : Int) + (k : Int)) = (i : Int) + (k : Int) := IntWalk.i64_in _ (by omega)
        by_cases hkt : i + k < n1
        · obtain ⟨bf, off, ha, hbw, hcell⟩ := (h1.below hbk).at (by omega)
          obtain ⟨bg, offg, hag, hbwg, hcellg⟩ := (h2.below hbk).at (by omega)
          subst ha
          subst hag
          have e1 := hcell i hlt
          rw [Hx.out] at e1
          have e2 := hcellg k (by omega)
          have hr2 := getD_rng Hg.out hp k
          have e3 := hRk.out.cell (i + k) (by rw [tab_len]; omega)
          rw [tab_at _ _ _ (by omega)] at e3
          have hz := mulIn_rng hp (a := x) (g := ys) (i := i) (k := k) (mulH_rng hp xs ys i) (i + k)
          have hzz : mulIn p x ys (mulH p xs ys i) i k (i + k) = mulH p xs ys i (i + k) := by unfold mulIn; rw [if_neg (by omega)]
          rw [hzz] at e3 hz
          have hfr := hRk.out.free (i + k)
          have hset := hRk.out.set (i + k) ((mulH p xs ys i (i + k) + x * ys.getD k 0) % p)
          rw [mulIn_step] at hset
          obtain ⟨y, hy⟩ : ∃ y, ys.getD k 0 = y := ⟨_, rfl⟩
          obtain ⟨z, hzd⟩ : ∃ z, mulH p xs ys i (i + k) = z := ⟨_, rfl⟩
          rw [hy] at e2 hr2 hset
          rw [hzd] at e3 hz hset
          have Hset := hide hset
          obtain ⟨r3, r4⟩ := hr2
          obtain ⟨r5, r6⟩ := hz
          obtain ⟨q1, q2⟩ := mulb r1 r2 r3 r4 hp2
          clear hset hcellg hcell hy hzd hzz
          have hiN : (i : Int) + (k : Int) < (n1 : Int) := by omega
          have hkN : (k : Int) < (n1 : Int) := by omega
          have hi0 : (0 : Int) ≤ (i : Int) + (k : Int) := by omega
          have v1 : IntKind.i64.wrap (x * y) = x * y := IntWalk.i64_in _ (by omega)
          have v2' : IntKind.i64.wrap (z + x * y) = z + x * y := IntWalk.i64_in _ (by omega)
          have v4 : (z + x * y).tmod p = (z + x * y) % p := Int.tmod_eq_emod_of_nonneg (by omega)
          have v6 := modb (x := z + x * y) hp
          have v5 : IntKind.i64.wrap ((z + x * y) % p) = (z + x * y) % p := IntWalk.i64_in _ (by omega)
          have hik : ((i : Int) + (k : Int)).toNat = i + k := by omega
          have hp0 : ¬ p = 0 := by omega
          go_wp2
          refine wp_region_still_tail 23 (by kernel_rfl) (by kernel_rfl) ?_
          simp only [List.take_succ_cons, List.take_zero, List.drop_succ_cons, List.drop_zero]
          repeat still_step
          refine wpStill_nil ?_
          clear v1 v2' v4 v5 hik w3
          go_wp2
          go_roundw
          case rel => exact ⟨k + 1, by omega, by go_num, Hset, (hbk.setCell (by simp) _).drew, by simpa using hsk⟩
          case measure => simp [intOf]; omega
        · have hnext : Hid (RowI wr v2.heap.size (tab n1 (mulH p xs ys (i + 1)))) := hide (by
            have := hRk.out
            rwa [mulIn_cut p x ys _ n1 i k (by omega) hl2.out, hl2.out, ← hstep.out] at this)
          have hiN : ¬ (i : Int) + (k : Int) < (n1 : Int) := by omega
          clear hRk
          go_wp2
          go_roundw
          case rel => exact ⟨i + 1, by omega, by go_num, hnext, hbk, hsk⟩
          case measure => simp [intOf]; omega
    · obtain rfl : i = n1 := by omega
      have hfin : Own v2.heap.size wr (some ⟨v2.heap.size, 0, none⟩) i (mseV p xs ys) := by
        have h3 := hR.out.own' (Nat.le_refl _) (by rw [tab_len]; unfold maxLen; omega)
        rw [tab_len, ← HV.out] at h3
        exact h3
      have hvl : (mseV p xs ys).length = i := by rw [HV.out, tab_len]
      have Hvl := hide hvl
      have B4 := B2.trans (hbr.mono z2)
      clear hvl
      go_wp2
      go_ret2
      exact Res1.own HC.out (by rw [Hvl.out]) (hfin.mono z2) (by rw [Hvl.out]; omega) B4
end Go.Proofs.Ytddogdmeelckjaa
