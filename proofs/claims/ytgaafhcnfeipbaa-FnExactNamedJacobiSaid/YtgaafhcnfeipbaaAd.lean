/- Contracts: addMultiple (program), l01Add (model): f and k times g together. -/
import Derived.Test.YtgaafhcnfeipbaaPc
import Derived.Test.YtgaafhcnfeipbaaPi
import Derived.StillTailTactics
import Derived.IntWalk
namespace Go.Proofs.Ytgaafhcnfeipbaa
open Go.RowKit
set_option linter.unusedVariables false
set_option linter.unusedSimpArgs false

theorem RowI.slN {w : World} {g n : Nat} {ys : List Int} (h : RowI w g ys) (hn : ys.length = n) : SL w (some ⟨g, 0, none⟩) n n ys := by
  subst hn; exact h.sl'
theorem pad_tab (f : List Int) (m N : Nat) (hm : f.length = m) (hN : m ≤ N) : f ++ (List.replicate N (0 : Int)).drop m = tab N (fun j => f.getD j 0) := by
  apply ext_tab
  · simp [tab]; omega
  · intro j hj
    have hj' : j < N := by simp at hj; omega
    rw [tab_at _ _ _ hj']
    by_cases h : j < m
    · simp [List.getElem?_append_left (show j < f.length by omega)]
    · simp [List.getElem?_append_right (show f.length ≤ j by omega), show ¬ j < f.length by omega]
      have : ∀ (i : Nat), (List.replicate (N - m) (0 : Int))[i]?.getD 0 = 0 := fun i => by
        by_cases hi : i < N - m <;> simp [hi]
      exact this _
/-- The numbers of f and k times g, the first i of g done. -/
def sumH (p k : Int) (f g : List Int) (i : Nat) : Nat → Int := fun j => if j < i then (f.getD j 0 + k * g.getD j 0) % p else f.getD j 0
def addM (p : Int) (f g : List Int) (k : Int) : List Int := trimL (tab (max f.length g.length) (sumH p k f g g.length))
theorem sumH_step (p k : Int) (f g : List Int) (N i : Nat) : (tab N (sumH p k f g i)).set i ((f.getD i 0 + k * g.getD i 0) % p) = tab N (sumH p k f g (i + 1)) := by
  rw [tab_set]
  apply tab_congr
  intro j _
  unfold sumH
  by_cases e : j = i
  · subst e; simp
  · rw [if_neg e]
    by_cases h : j < i
    · rw [if_pos h, if_pos (by omega)]
    · rw [if_neg h, if_neg (by omega)]
theorem getD_rng {p : Int} {f : List Int} (h : areB p f = true) (hp : 2 ≤ p) (j : Nat) : 0 ≤ f.getD j 0 ∧ f.getD j 0 < p := by
  by_cases hj : j < f.length
  · exact areB_at h j hj
  · simp [show f[j]? = none from List.getElem?_eq_none (by omega)]; omega

set_option maxRecDepth 100000 in
set_option maxHeartbeats 1600000 in
theorem addMultiple_any (p k : Int) (a1 : Option Addr) (n1 c1 : Nat) (f : List Int) (a2 : Option Addr) (n2 c2 : Nat) (g : List Int) (w : World) (h1 : SL w a1 n1 c1 f) (h2 : SL w a2 n2 c2 g)
    (b1 : n1 ≤ 1000) (b2 : n2 ≤ 1000) (hp : 2 ≤ p) (hp2 : p ≤ 10007) (hk0 : 0 ≤ k) (hk1 : k < p) (hf : areB p f = true) (hg : areB p g = true) :
    Calls Try.prog 98 #[.int .i64 p, .slice a1 n1 c1, .slice a2 n2 c2, .int .i64 k] w fun e w' => ∃ a' c', e = .returned (.slice a' (addM p f g k).length c') ∧ Own w.heap.size w' a' c' (addM p f g k) ∧ Below w.heap.size w w' := by
  have hl1 := hide h1.len
  have hl2 := hide h2.len
  obtain ⟨N, hN⟩ : ∃ N, max f.length g.length = N := ⟨_, rfl⟩
  have hN1 : n1 ≤ N := by have := hl1.out; omega
  have hN2 : n2 ≤ N := by have := hl2.out; omega
  have hN3 : N ≤ 1000 := by have := hl1.out; have := hl2.out; omega
  have hmax : Hid ((if (n1 : Int) < (n2 : Int) then (n2 : Int) else (n1 : Int)) = (N : Int)) := hide (by have := hl1.out; have := hl2.out; split <;> omega)
  have Hf := hide hf
  have Hg := hide hg
  have HN := hide hN
  have hadd : Hid (addM p f g k = trimL (tab N (sumH p k f g n2))) := hide (by unfold addM; rw [hN, hl2.out])
  clear hf hg hN
  have hc : ∀ x : Int, Hid (x = (N : Int)) → True := fun _ _ => trivial
  by_cases hcmp : (n1 : Int) < (n2 : Int)
  all_goals
    have HN' := Lib.hid (show (if (n1 : Int) < (n2 : Int) then (n2 : Int) else (n1 : Int)) = (N : Int) from hmax.out)
    first
      | rw [if_pos hcmp] at HN'
      | rw [if_neg hcmp] at HN'
    go_enter Try.func98, Try.ntmps98
    go_wp2_with (first | (at_make; refine wp_make rfl _ _ rfl _ _ N rfl rfl HN'.out HN'.out (by omega) ?_; intro w1 hrow hb hsz) | (with_reducible refine wp_copy rfl _ _ rfl w.heap.size _ _ (List.replicate N 0) rfl hrow.out (by simp) _ _ _ f rfl (h1.below hb) (by simp; omega) w.heap.size (Nat.le_refl _) ?_; intro w2 hrow2 hb2))
    have hB2 := hb.trans hb2
    have hs2 : w.heap.size < w2.heap.size := Nat.lt_of_lt_of_le hsz hb2.size
    have hrow3 : RowI w2 w.heap.size (tab N (sumH p k f g 0)) := by
      have := hrow2.out
      rw [pad_tab f n1 N hl1.out hN1] at this
      have e : tab N (sumH p k f g 0) = tab N (fun j => f.getD j 0) := tab_congr (fun j _ => by simp [sumH])
      rwa [e]
    have Hrow3 := hide hrow3
    clear hrow3 hrow2 hrow hb hb2 hsz
    go_loopw [23] (fun i wr => ∃ m : Nat, m ≤ n2 ∧ i = .int .i64 m ∧ Hid (RowI wr w.heap.size (tab N (sumH p k f g m))) ∧ Below w.heap.size w wr ∧ w.heap.size < wr.heap.size) (fun i _ => n2 - (intOf i).toNat)
    case atStart => exact ⟨0, by omega, rfl, Hrow3, hB2, hs2⟩
    case round =>
      obtain ⟨m, hm, rfl, hR, hbr, hsr⟩ := hrel
      clear Hrow3 hB2 hs2
      by_cases hlt : m < n2
      · obtain ⟨b, off, ha, hbw, hcell⟩ := (h2.below hbr).at (by omega)
        subst ha
        have e1 := hcell m hlt
        have e2 := hR.out.cell m (by rw [tab_len]; omega)
        rw [tab_at _ _ _ (by omega), show sumH p k f g m m = f.getD m 0 by simp [sumH]] at e2
        have hfr := hR.out.free m
        have hset := hR.out.set m ((f.getD m 0 + k * g.getD m 0) % p)
        rw [sumH_step] at hset
        have hr1 := getD_rng Hf.out hp m
        have hr2 := getD_rng Hg.out hp m
        obtain ⟨x, hx⟩ : ∃ x, f.getD m 0 = x := ⟨_, rfl⟩
        obtain ⟨y, hy⟩ : ∃ y, g.getD m 0 = y := ⟨_, rfl⟩
        rw [hx] at e2 hset hr1
        rw [hy] at e1 hset hr2
        have Hset := hide hset
        obtain ⟨q1, q2⟩ := mulb hk0 hk1 hr2.1 hr2.2 hp2
        clear hset hcell hx hy
        have hlt' : (m : Int) < (n2 : Int) := by omega
        have hmN : (m : Int) < (N : Int) := by omega
        go_wp2
        go_roundw
        case rel => exact ⟨m + 1, by omega, by go_num, Hset, hbr.setCell (by simp) _, by simpa using hsr⟩
        case measure => simp [intOf]; omega
      · obtain rfl : m = n2 := by omega
        have hsl := hR.out.slN (tab_len _ _)
        have hres : ∀ w', Below wr.heap.size wr w' → Own w.heap.size w' (some ⟨w.heap.size, 0, none⟩) N (addM p f g k) ∧ (addM p f g k).length = trimN (tab N (sumH p k f g m)) N := fun w' hb' => by
          have hr' := hR.out.next hb'
          have hle := trimN_le (tab N (sumH p k f g m)) N
          have e : (addM p f g k).length = trimN (tab N (sumH p k f g m)) N := by rw [hadd.out, trimL_len, tab_len]
          refine ⟨?_, e⟩
          have h3 := hr'.ownT (zs := addM p f g k) (Nat.le_refl _) (by rw [tab_len]; unfold maxLen; omega) (m := trimN (tab N (sumH p k f g m)) N) (by rw [tab_len]; exact hle) (by rw [hadd.out]; unfold trimL; rw [tab_len]) e
          rw [tab_len] at h3
          exact h3
        go_wp2_with (go_at_call 80; refine (trim_any _ _ _ _ _ hsl (by omega)).mono ?_; rintro e w3 ⟨rfl, hb3⟩)
        go_ret
        obtain ⟨ho, hlen⟩ := hres _ hb3
        exact ⟨_, N, by rw [hlen]; rfl, ho, hbr.trans (hb3.mono hbr.size)⟩
theorem still_of {P : Program} {f : FuncId} {args : Array Value} {w : World} {v : Value} (h : Calls P f args w fun e w' => e = .returned v ∧ w = w') : Calls P f args w fun e w' => e = .returned v ∧ w' = w :=
  h.mono fun _ _ hh => ⟨hh.1, hh.2.symm⟩
/-- The first i numbers of f, then zeros. -/
def cpH (f : List Int) (i : Nat) : Nat → Int := fun j => if j < i then f.getD j 0 else 0
theorem cpH_step (f : List Int) (N i : Nat) : (tab N (cpH f i)).set i (f.getD i 0) = tab N (cpH f (i + 1)) := by
  rw [tab_set]
  apply tab_congr
  intro j _
  unfold cpH
  by_cases e : j = i
  · subst e; simp
  · rw [if_neg e]
    by_cases h : j < i
    · rw [if_pos h, if_pos (by omega)]
    · rw [if_neg h, if_neg (by omega)]
set_option maxRecDepth 100000 in
set_option maxHeartbeats 1600000 in
theorem l01Add_any (p k : Int) (a1 : Option Addr) (n1 c1 : Nat) (f : List Int) (a2 : Option Addr) (n2 c2 : Nat) (g : List Int) (w : World) (h1 : SL w a1 n1 c1 f) (h2 : SL w a2 n2 c2 g)
    (b1 : n1 ≤ 1000) (b2 : n2 ≤ 1000) (hp : 2 ≤ p) (hp2 : p ≤ 10007) (hk0 : 0 ≤ k) (hk1 : k < p) (hf : areB p f = true) (hg : areB p g = true) :
    Calls Try.prog 94 #[.int .i64 p, .slice a1 n1 c1, .slice a2 n2 c2, .int .i64 k] w fun e w' => ∃ a' c', e = .returned (.slice a' (addM p f g k).length c') ∧ Own w.heap.size w' a' c' (addM p f g k) ∧ Below w.heap.size w w' := by
  have hl1 := hide h1.len
  have hl2 := hide h2.len
  obtain ⟨N, hN⟩ : ∃ N, max f.length g.length = N := ⟨_, rfl⟩
  have hN1 : n1 ≤ N := by have := hl1.out; omega
  have hN2 : n2 ≤ N := by have := hl2.out; omega
  have hN3 : N ≤ 1000 := by have := hl1.out; have := hl2.out; omega
  have hmax : Hid ((if (n1 : Int) < (n2 : Int) then (n2 : Int) else (n1 : Int)) = (N : Int)) := hide (by have := hl1.out; have := hl2.out; split <;> omega)
  have Hf := hide hf
  have Hg := hide hg
  have HN := hide hN
  have hadd : Hid (addM p f g k = trimL (tab N (sumH p k f g n2))) := hide (by unfold addM; rw [hN, hl2.out])
  clear hf hg hN
  by_cases hcmp : (n1 : Int) < (n2 : Int)
  all_goals
    have HN' := Lib.hid (show (if (n1 : Int) < (n2 : Int) then (n2 : Int) else (n1 : Int)) = (N : Int) from hmax.out)
    first
      | rw [if_pos hcmp] at HN'
      | rw [if_neg hcmp] at HN'
    go_enter Try.func94, Try.ntmps94
    go_wp2_with (first | (at_make; refine wp_make rfl _ _ rfl _ _ N rfl rfl HN'.out HN'.out (by omega) ?_; intro w1 hrow hb hsz))
    have hrow2 : Hid (RowI w1 w.heap.size (tab N (cpH f 0))) := hide (by
      have := hrow.out
      rw [tab_zero] at this
      have e : tab N (cpH f 0) = tab N (fun _ => 0) := tab_congr (fun j _ => by simp [cpH])
      rwa [e])
    clear hrow
    go_loopw [10] (fun i wr => ∃ m : Nat, m ≤ n1 ∧ i = .int .i64 m ∧ Hid (RowI wr w.heap.size (tab N (cpH f m))) ∧ Below w.heap.size w wr ∧ w.heap.size < wr.heap.size) (fun i _ => n1 - (intOf i).toNat)
    case atStart => exact ⟨0, by omega, rfl, hrow2, hb, hsz⟩
    case round =>
      obtain ⟨m, hm, rfl, hR, hbr, hsr⟩ := hrel
      clear hrow2 hb hsz
      by_cases hlt : m < n1
      · obtain ⟨b, off, ha, hbw, hcell⟩ := (h1.below hbr).at (by omega)
        subst ha
        have e1 := hcell m hlt
        have e2 := hR.out.cell m (by rw [tab_len]; omega)
        have hfr := hR.out.free m
        have hset := hR.out.set m (f.getD m 0)
        rw [cpH_step] at hset
        obtain ⟨x, hx⟩ : ∃ x, f.getD m 0 = x := ⟨_, rfl⟩
        rw [hx] at e1 hset
        have Hset := hide hset
        clear hset hcell hx
        have hlt' : (m : Int) < (n1 : Int) := by omega
        have hmN : (m : Int) < (N : Int) := by omega
        go_wp2
        go_roundw
        case rel => exact ⟨m + 1, by omega, by go_num, Hset, hbr.setCell (by simp) _, by simpa using hsr⟩
        case measure => simp [intOf]; omega
      · obtain rfl : m = n1 := by omega
        have hrow3 : Hid (RowI wr w.heap.size (tab N (sumH p k f g 0))) := hide (by
          have := hR.out
          have e : tab N (sumH p k f g 0) = tab N (cpH f m) := tab_congr (fun j _ => by
            simp only [sumH, cpH, Nat.not_lt_zero, if_false]
            by_cases h : j < m
            · rw [if_pos h]
            · rw [if_neg h]; simp [show f[j]? = none from List.getElem?_eq_none (by have := hl1.out; omega)])
          rwa [e])
        clear hR
        go_wp2
        obtain ⟨wo, hwo⟩ : ∃ wo : World, wo = wr := ⟨_, rfl⟩
        subst hwo
        go_loopw [11] (fun i wr => ∃ m : Nat, m ≤ n2 ∧ i = .int .i64 m ∧ Hid (RowI wr w.heap.size (tab N (sumH p k f g m))) ∧ Below w.heap.size w wr ∧ w.heap.size < wr.heap.size) (fun i _ => n2 - (intOf i).toNat)
        case atStart => exact ⟨0, by omega, rfl, hrow3, hbr, hsr⟩
        case round =>
          obtain ⟨m, hm, rfl, hR, hbr, hsr⟩ := hrel
          clear hrow3
          by_cases hlt : m < n2
          · obtain ⟨b, off, ha, hbw, hcell⟩ := (h2.below hbr).at (by omega)
            subst ha
            have e1 := hcell m hlt
            have e2 := hR.out.cell m (by rw [tab_len]; omega)
            rw [tab_at _ _ _ (by omega), show sumH p k f g m m = f.getD m 0 by simp [sumH]] at e2
            have hfr := hR.out.free m
            have hset := hR.out.set m ((f.getD m 0 + k * g.getD m 0) % p)
            rw [sumH_step] at hset
            have hr1 := getD_rng Hf.out hp m
            have hr2 := getD_rng Hg.out hp m
            obtain ⟨x, hx⟩ : ∃ x, f.getD m 0 = x := ⟨_, rfl⟩
            obtain ⟨y, hy⟩ : ∃ y, g.getD m 0 = y := ⟨_, rfl⟩
            rw [hx] at e2 hset hr1
            rw [hy] at e1 hset hr2
            have Hset := hide hset
            obtain ⟨q1, q2⟩ := mulb hk0 hk1 hr2.1 hr2.2 hp2
            clear hset hcell hx hy
            have hlt' : (m : Int) < (n2 : Int) := by omega
            have hmN : (m : Int) < (N : Int) := by omega
            have bb1 : -9223372036854775808 ≤ x + k * y := by omega
            have bb2 : x + k * y ≤ 9223372036854775807 := by omega
            have w1 : IntKind.i64.wrap (k * y) = k * y := IntWalk.i64_in _ (by omega)
            have w2 : IntKind.i64.wrap (x + k * y) = x + k * y := IntWalk.i64_in _ (by omega)
            go_wp2
            refine wp_region_still_tail 16 (by kernel_rfl) (by kernel_rfl) ?_
            simp only [List.take_succ_cons, List.take_zero, List.drop_succ_cons, List.drop_zero]
            repeat still_step
            still_call (still_of (l01Mod_any p (x + k * y) _ hp hp2 bb1 bb2))
            repeat still_step
            refine wpStill_nil ?_
            clear w1 w2 bb1 bb2
            go_wp2
            go_roundw
            case rel => exact ⟨m + 1, by omega, by go_num, Hset, (hbr.setCell (by simp) _).drew, by simpa using hsr⟩
            case measure => simp [intOf]; omega
          · obtain rfl : m = n2 := by omega
            have hsl := hR.out.slN (tab_len _ _)
            have hlen : (addM p f g k).length = (trimL (tab N (sumH p k f g m))).length := by rw [hadd.out]
            have Hlen := hide hlen
            have Hadd := hadd
            clear hlen
            go_wp2_with (go_at_call 101; refine (l01Trim_any _ _ _ _ _ _ hsl (by omega)).mono ?_; rintro e w3 ⟨a', c', rfl, hown, hb3⟩)
            go_ret
            refine ⟨a', c', by rw [Hlen.out]; rfl, ?_, hbr.trans (hb3.mono hbr.size)⟩
            rw [hadd.out]
            exact hown.mono (by omega)
end Go.Proofs.Ytgaafhcnfeipbaa
