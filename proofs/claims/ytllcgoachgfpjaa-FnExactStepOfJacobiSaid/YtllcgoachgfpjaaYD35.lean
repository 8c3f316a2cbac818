/- Merged texts. -/
import Derived.Test.YtllcgoachgfpjaaYD34
import Derived.KernelRfl
import Derived.Test.YtllcgoachgfpjaaYD32
import Derived.StillTailTactics
import Derived.IntWalk
/- Contracts: inverse, InverseOf, PowerOf (program and model). -/
namespace Go.Proofs.Ytllcgoachgfpjaa
open Go.RowKit
set_option linter.unusedVariables false
set_option linter.unusedSimpArgs false

theorem num_index (v : Int) (w : World) : (Instr.index 114 (.agg #[.int .i64 v]) (.int .i64 0)).run Try.prog w = .ok (.int .i64 v) w := by kernel_rfl
set_option maxRecDepth 100000 in
set_option maxHeartbeats 400000 in
theorem inverse_any (p x : Int) (w : World) (hp : 2 ≤ p) (hp2 : p ≤ 10007) (hx : 0 ≤ x) (hx2 : x < p) :
    Calls Try.prog 77 #[.int .i64 p, .int .i64 x] w fun e w' => e = .returned (.int .i64 (invM p x)) ∧ Below w.heap.size w w' := by
  go_enter Try.func77, Try.ntmps77
  go_wp2_with fail
  refine (numbersModulo_any p _).mono ?_
  rintro e w1 ⟨rfl, hc1, hb1, hs1⟩
  go_wp2_with fail
  refine (power_num p x (p - 2) _ _ hc1 hp hp2 hx hx2 (by omega) (by omega)).mono ?_
  rintro e w2 ⟨rfl, hb2⟩
  have i0 := num_index (powM p x (p - 2))
  go_wp2
  go_ret
  exact ⟨rfl, hb1.trans (hb2.mono (by omega))⟩
set_option maxHeartbeats 400000 in
theorem l01Mod_any (p x : Int) (w : World) (hp : 2 ≤ p) (hp2 : p ≤ 10007) (_h1 : -9223372036854775808 ≤ x) (_h2 : x ≤ 9223372036854775807) :
    Calls Try.prog 60 #[.int .i64 p, .int .i64 x] w fun e w' => e = .returned (.int .i64 (x % p)) ∧ w = w' := by
  have h1 : -p < x.tmod p := by have := Int.lt_tmod_of_pos x (show 0 < p by omega); omega
  have h2 : x.tmod p < p := Int.tmod_lt_of_pos x (by omega)
  by_cases hx : 0 ≤ x
  · have h3 : x % p < p := (modb hp).2
    have h4 : 0 ≤ x % p := (modb hp).1
    have H : Hid ((x % p + p) % p = x % p) := Lib.hid (by rw [Int.add_emod_right]; exact Int.emod_eq_of_lt h4 h3)
    go_enter Try.func60, Try.ntmps60
    go_wp2
    go_ret
    exact ⟨ret_int H.out, rfl⟩
  · have H : Hid (x.tmod p % p = x % p) := Lib.hid (tmod_emod x hp)
    go_enter Try.func60, Try.ntmps60
    go_wp2
    go_ret
    exact ⟨ret_int H.out, rfl⟩
set_option maxHeartbeats 800000 in
theorem l01Power_any (p x k : Int) (w : World) (hp : 2 ≤ p) (hp2 : p ≤ 10007) (hx : 0 ≤ x) (hx2 : x < p) (hk : 0 ≤ k) (hk2 : k ≤ 1000000000) :
    Calls Try.prog 105 #[.int .i64 p, .int .i64 x, .int .i64 k] w fun e w' => e = .returned (.int .i64 (powM p x k)) ∧ w = w' := by
  have hmod := Lib.hid (Int.emod_eq_of_lt hx hx2)
  go_enter Try.func105, Try.ntmps105
  go_wp2_with fail
  refine (l01Mod_any p x _ hp hp2 (by omega) (by omega)).mono ?_
  rintro e w1 ⟨rfl, rfl⟩
  rw [hmod.out]
  go_wp2
  go_loop [2, 7, 8] (fun kv rv bv => ∃ (f : Nat) (kk bb r : Int), kv = .int .i64 kk ∧ rv = .int .i64 r ∧ bv = .int .i64 bb ∧ 0 ≤ kk ∧ kk ≤ 1000000000 ∧ 0 ≤ bb ∧ bb < p ∧ 0 ≤ r ∧ r < p ∧ Few f kk ∧ Hid (powM p x k = powLoop f p r bb kk)) (fun kv _ _ => (intOf kv).toNat)
  case atStart => exact ⟨64, k, x, 1, rfl, rfl, rfl, hk, hk2, hx, hx2, by omega, by omega, few64 hk2, rfl⟩
  case round =>
    obtain ⟨f, kk, bb, r, rfl, rfl, rfl, hk0, hk1, hb0, hbp, hr0, hrp, hf, hval⟩ := hrel
    by_cases hpos : 0 < kk
    · obtain ⟨f, rfl⟩ : ∃ g, f = g + 1 := by
        cases f with
        | zero => exact absurd hpos hf.zero
        | succ g => exact ⟨g, rfl⟩
      have m1 := mulb hr0 hrp hb0 hbp hp2
      have m2 := mulb hb0 hbp hb0 hbp hp2
      obtain ⟨m1a, m1b⟩ := m1
      obtain ⟨m2a, m2b⟩ := m2
      have n1 : 0 ≤ r * bb % p ∧ r * bb % p < p := modb hp
      have n2 : 0 ≤ bb * bb % p ∧ bb * bb % p < p := modb hp
      by_cases hodd : kk % 2 = 1
      · have hv2 : Hid (powM p x k = powLoop f p (r * bb % p) (bb * bb % p) (kk / 2)) := hide (hval.out.trans (by rw [powLoop, if_pos hpos, if_pos hodd]))
        have ob : (kk % 2 == 1) = true := by simpa using hodd
        clear hodd
        go_wp2
        go_round
        case rel => exact ⟨f, kk / 2, _, _, rfl, rfl, rfl, by omega, by omega, n2.1, n2.2, n1.1, n1.2, hf.half, hv2⟩
        case measure => simp [intOf]; omega
      · have hv2 : Hid (powM p x k = powLoop f p r (bb * bb % p) (kk / 2)) := hide (hval.out.trans (by rw [powLoop, if_pos hpos, if_neg hodd]))
        have ob : (kk % 2 == 1) = false := by simpa using hodd
        clear hodd
        go_wp2
        go_round
        case rel => exact ⟨f, kk / 2, _, _, rfl, rfl, rfl, by omega, by omega, n2.1, n2.2, hr0, hrp, hf.half, hv2⟩
        case measure => simp [intOf]; omega
    · have Hv := Lib.hid (hval.out.trans (powLoop_zero _ _ _ _ _ hpos))
      have Hm := Lib.hid (Int.emod_eq_of_lt hr0 hrp)
      go_wp2
      go_ret
      exact ⟨ret_int (by rw [Hv.out, Hm.out]), rfl⟩
set_option maxHeartbeats 400000 in
theorem l01Inverse_any (p x : Int) (w : World) (hp : 2 ≤ p) (hp2 : p ≤ 10007) (hx : 0 ≤ x) (hx2 : x < p) :
    Calls Try.prog 76 #[.int .i64 p, .int .i64 x] w fun e w' => e = .returned (.int .i64 (invM p x)) ∧ w = w' := by
  go_enter Try.func76, Try.ntmps76
  go_wp2_with fail
  refine (l01Power_any p x (p - 2) _ hp hp2 hx hx2 (by omega) (by omega)).mono ?_
  rintro e w1 ⟨rfl, rfl⟩
  go_wp2
  go_ret
  exact ⟨rfl, rfl⟩
/-- What InverseOf and PowerOf answer. -/
def invOk (p x : Int) : Bool := primeB p && decide (1 ≤ x ∧ x < p)
def invOfV (p x : Int) : Int := if invOk p x then invM p x else 0
def invOfC (p x : Int) : Int := if invOk p x then 0 else 2
def powOk (p x k : Int) : Bool := primeB p && decide (0 ≤ x ∧ x < p ∧ 0 ≤ k ∧ k ≤ 1000000000)
def powOfV (p x k : Int) : Int := if powOk p x k then powM p x k else 0
def powOfC (p x k : Int) : Int := if powOk p x k then 0 else 2
theorem ret_int2 {a b c d : Int} (h : a = c) (h' : b = d) : Ending.returned (.tuple #[.int .i64 a, .int .i64 b]) = .returned (.tuple #[.int .i64 c, .int .i64 d]) := by rw [h, h']
end Go.Proofs.Ytllcgoachgfpjaa
/- Contracts: addMultiple (program), l01Add (model): f and k times g together. -/
namespace Go.Proofs.Ytllcgoachgfpjaa
open Go.RowKit
set_option linter.unusedVariables false
set_option linter.unusedSimpArgs false

theorem RowI.slN {w : World} {g n : Nat} {ys : List Int} (h : RowI w g ys) (hn : ys.length = n) : SL w (some ⟨g, 0, none⟩) n n ys := by
  subst hn; exact h.sl'
theorem pad_tab (f : List Int) (m N : Nat) (hm : f.length = m) (hN : m ≤ N) : f ++ (List.replicate N (0 : Int)).drop m = tab N (fun j => f.getD j 0) := by
  apply ext_tab
  · simp [tab]; omega
  · intro j hj
    have hj' : j < N := by simp at hj; omega
    rw [tab_at _ _ _ hj']
    by_cases h : j < m
    · simp [List.getElem?_append_left (show j < f.length by omega)]
    · simp [List.getElem?_append_right (show f.length ≤ j by omega), show ¬ j < f.length by omega]
      have : ∀ (i : Nat), (List.replicate (N - m) (0 : Int))[i]?.getD 0 = 0 := fun i => by
        by_cases hi : i < N - m <;> simp [hi]
      exact this _
/-- The numbers of f and k times g, the first i of g done. -/
def sumH (p k : Int) (f g : List Int) (i : Nat) : Nat → Int := fun j => if j < i then (f.getD j 0 + k * g.getD j 0) % p else f.getD j 0
def addM (p : Int) (f g : List Int) (k : Int) : List Int := trimL (tab (max f.length g.length) (sumH p k f g g.length))
theorem sumH_step (p k : Int) (f g : List Int) (N i : Nat) : (tab N (sumH p k f g i)).set i ((f.getD i 0 + k * g.getD i 0) % p) = tab N (sumH p k f g (i + 1)) := by
  rw [tab_set]
  apply tab_congr
  intro j _
  unfold sumH
  by_cases e : j = i
  · subst e; simp
  · rw [if_neg e]
    by_cases h : j < i
    · rw [if_pos h, if_pos (by omega)]
    · rw [if_neg h, if_neg (by omega)]
theorem getD_rng {p : Int} {f : List Int} (h : areB p f = true) (hp : 2 ≤ p) (j : Nat) : 0 ≤ f.getD j 0 ∧ f.getD j 0 < p := by
  by_cases hj : j < f.length
  · exact areB_at h j hj
  · simp [show f[j]? = none from List.getElem?_eq_none (by omega)]; omega

set_option maxRecDepth 100000 in
set_option maxHeartbeats 1600000 in
theorem addMultiple_any (p k : Int) (a1 : Option Addr) (n1 c1 : Nat) (f : List Int) (a2 : Option Addr) (n2 c2 : Nat) (g : List Int) (w : World) (h1 : SL w a1 n1 c1 f) (h2 : SL w a2 n2 c2 g)
    (b1 : n1 ≤ 1000) (b2 : n2 ≤ 1000) (hp : 2 ≤ p) (hp2 : p ≤ 10007) (hk0 : 0 ≤ k) (hk1 : k < p) (hf : areB p f = true) (hg : areB p g = true) :
    Calls Try.prog 171 #[.int .i64 p, .slice a1 n1 c1, .slice a2 n2 c2, .int .i64 k] w fun e w' => ∃ a' c', e = .returned (.slice a' (addM p f g k).length c') ∧ Own w.heap.size w' a' c' (addM p f g k) ∧ Below w.heap.size w w' := by
  have hl1 := hide h1.len
  have hl2 := hide h2.len
  obtain ⟨N, hN⟩ : ∃ N, max f.length g.length = N := ⟨_, rfl⟩
  have hN1 : n1 ≤ N := by have := hl1.out; omega
  have hN2 : n2 ≤ N := by have := hl2.out; omega
  have hN3 : N ≤ 1000 := by have := hl1.out; have := hl2.out; omega
  have hmax : Hid ((if (n1 : Int) < (n2 : Int) then (n2 : Int) else (n1 : Int)) = (N : Int)) := hide (by have := hl1.out; have := hl2.out; split <;> omega)
  have Hf := hide hf
  have Hg := hide hg
  have HN := hide hN
  have hadd : Hid (addM p f g k = trimL (tab N (sumH p k f g n2))) := hide (by unfold addM; rw [hN, hl2.out])
  clear hf hg hN
  have hc : ∀ x : Int, Hid (x = (N : Int)) → True := fun _ _ => trivial
  by_cases hcmp : (n1 : Int) < (n2 : Int)
  all_goals
    have HN' := Lib.hid (show (if (n1 : Int) < (n2 : Int) then (n2 : Int) else (n1 : Int)) = (N : Int) from hmax.out)
    first
      | rw [if_pos hcmp] at HN'
      | rw [if_neg hcmp] at HN'
    go_enter Try.func171, Try.ntmps171
    go_wp2_with (first | (at_make; refine wp_make rfl _ _ rfl _ _ N rfl rfl HN'.out HN'.out (by omega) ?_; intro w1 hrow hb hsz) | (with_reducible refine wp_copy rfl _ _ rfl w.heap.size _ _ (List.replicate N 0) rfl hrow.out (by simp) _ _ _ f rfl (h1.below hb) (by simp; omega) w.heap.size (Nat.le_refl _) ?_; intro w2 hrow2 hb2))
    have hB2 := hb.trans hb2
    have hs2 : w.heap.size < w2.heap.size := Nat.lt_of_lt_of_le hsz hb2.size
    have hrow3 : RowI w2 w.heap.size (tab N (sumH p k f g 0)) := by
      have := hrow2.out
      rw [pad_tab f n1 N hl1.out hN1] at this
      have e : tab N (sumH p k f g 0) = tab N (fun j => f.getD j 0) := tab_congr (fun j _ => by simp [sumH])
      rwa [e]
    have Hrow3 := hide hrow3
    clear hrow3 hrow2 hrow hb hb2 hsz
    go_loopw [23] (fun i wr => ∃ m : Nat, m ≤ n2 ∧ i = .int .i64 m ∧ Hid (RowI wr w.heap.size (tab N (sumH p k f g m))) ∧ Below w.heap.size w wr ∧ w.heap.size < wr.heap.size) (fun i _ => n2 - (intOf i).toNat)
    case atStart => exact ⟨0, by omega, rfl, Hrow3, hB2, hs2⟩
    case round =>
      obtain ⟨m, hm, rfl, hR, hbr, hsr⟩ := hrel
      clear Hrow3 hB2 hs2
      by_cases hlt : m < n2
      · obtain ⟨b, off, ha, hbw, hcell⟩ := (h2.below hbr).at (by omega)
        subst ha
        have e1 := hcell m hlt
        have e2 := hR.out.cell m (by rw [tab_len]; omega)
        rw [tab_at _ _ _ (by omega), show sumH p k f g m m = f.getD m 0 by simp [sumH]] at e2
        have hfr := hR.out.free m
        have hset := hR.out.set m ((f.getD m 0 + k * g.getD m 0) % p)
        rw [sumH_step] at hset
        have hr1 := getD_rng Hf.out hp m
        have hr2 := getD_rng Hg.out hp m
        obtain ⟨x, hx⟩ : ∃ x, f.getD m 0 = x := ⟨_, rfl⟩
        obtain ⟨y, hy⟩ : ∃ y, g.getD m 0 = y := ⟨_, rfl⟩
        rw [hx] at e2 hset hr1
        rw [hy] at e1 hset hr2
        have Hset := hide hset
        obtain ⟨q1, q2⟩ := mulb hk0 hk1 hr2.1 hr2.2 hp2
        clear hset hcell hx hy
        have hlt' : (m : Int) < (n2 : Int) := by omega
        have hmN : (m : Int) < (N : Int) := by omega
        go_wp2
        go_roundw
        case rel => exact ⟨m + 1, by omega, by go_num, Hset, hbr.setCell (by simp) _, by simpa using hsr⟩
        case measure => simp [intOf]; omega
      · obtain rfl : m = n2 := by omega
        have hsl := hR.out.slN (tab_len _ _)
        have hres : ∀ w', Below wr.heap.size wr w' → Own w.heap.size w' (some ⟨w.heap.size, 0, none⟩) N (addM p f g k) ∧ (addM p f g k).length = trimN (tab N (sumH p k f g m)) N := fun w' hb' => by
          have hr' := hR.out.next hb'
          have hle := trimN_le (tab N (sumH p k f g m)) N
          have e : (addM p f g k).length = trimN (tab N (sumH p k f g m)) N := by rw [hadd.out, trimL_len, tab_len]
          refine ⟨?_, e⟩
          have h3 := hr'.ownT (zs := addM p f g k) (Nat.le_refl _) (by rw [tab_len]; unfold maxLen; omega) (m := trimN (tab N (sumH p k f g m)) N) (by rw [tab_len]; exact hle) (by rw [hadd.out]; unfold trimL; rw [tab_len]) e
          rw [tab_len] at h3
          exact h3
        go_wp2_with (go_at_call 81; refine (trim_any _ _ _ _ _ hsl (by omega)).mono ?_; rintro e w3 ⟨rfl, hb3⟩)
        go_ret
        obtain ⟨ho, hlen⟩ := hres _ hb3
        exact ⟨_, N, by rw [hlen]; rfl, ho, hbr.trans (hb3.mono hbr.size)⟩
theorem still_of {P : Program} {f : FuncId} {args : Array Value} {w : World} {v : Value} (h : Calls P f args w fun e w' => e = .returned v ∧ w = w') : Calls P f args w fun e w' => e = .returned v ∧ w' = w :=
  h.mono fun _ _ hh => ⟨hh.1, hh.2.symm⟩
/-- The first i numbers of f, then zeros. -/
def cpH (f : List Int) (i : Nat) : Nat → Int := fun j => if j < i then f.getD j 0 else 0
theorem cpH_step (f : List Int) (N i : Nat) : (tab N (cpH f i)).set i (f.getD i 0) = tab N (cpH f (i + 1)) := by
  rw [tab_set]
  apply tab_congr
  intro j _
  unfold cpH
  by_cases e : j = i
  · subst e; simp
  · rw [if_neg e]
    by_cases h : j < i
    · rw [if_pos h, if_pos (by omega)]
    · rw [if_neg h, if_neg (by omega)]
end Go.Proofs.Ytllcgoachgfpjaa
