/- Merged texts. -/
import Derived.Test.YtdjifjlgllohmaaDoorYDS2
import Derived.Test.YtdjifjlgllohmaaDoorYDS4
import Derived.StillTailTactics
import Derived.IntWalk
import Derived.Test.YtdjifjlgllohmaaDoorYDS3
/- Contracts: addMultiple (program), l01Add (model): f and k times g together. -/
namespace Go.Proofs.YtdjifjlgllohmaaDoor
open Go.RowKit
set_option linter.unusedVariables false
set_option linter.unusedSimpArgs false

theorem RowI.slN {w : World} {g n : Nat} {ys : List Int} (h : RowI w g ys) (hn : ys.length = n) : SL w (some ⟨g, 0, none⟩) n n ys := by
  subst hn; exact h.sl'
theorem pad_tab (f : List Int) (m N : Nat) (hm : f.length = m) (hN : m ≤ N) : f ++ (List.replicate N (0 : Int)).drop m = tab N (fun j => f.getD j 0) := by
  apply ext_tab
  · simp [tab]; omega
  · intro j hj
    have hj' : j < N := by simp at hj; omega
    rw [tab_at _ _ _ hj']
    by_cases h : j < m
    · simp [List.getElem?_append_left (show j < f.length by omega)]
    · simp [List.getElem?_append_right (show f.length ≤ j by omega), show ¬ j < f.length by omega]
      have : ∀ (i : Nat), (List.replicate (N - m) (0 : Int))[i]?.getD 0 = 0 := fun i => by
        by_cases hi : i < N - m <;> simp [hi]
      exact this _
/-- The numbers of f and k times g, the first i of g done. -/
def sumH (p k : Int) (f g : List Int) (i : Nat) : Nat → Int := fun j => if j < i then (f.getD j 0 + k * g.getD j 0) % p else f.getD j 0
def addM (p : Int) (f g : List Int) (k : Int) : List Int := trimL (tab (max f.length g.length) (sumH p k f g g.length))
theorem sumH_step (p k : Int) (f g : List Int) (N i : Nat) : (tab N (sumH p k f g i)).set i ((f.getD i 0 + k * g.getD i 0) % p) = tab N (sumH p k f g (i + 1)) := by
  rw [tab_set]
  apply tab_congr
  intro j _
  unfold sumH
  by_cases e : j = i
  · subst e; simp
  · rw [if_neg e]
    by_cases h : j < i
    · rw [if_pos h, if_pos (by omega)]
    · rw [if_neg h, if_neg (by omega)]
theorem getD_rng {p : Int} {f : List Int} (h : areB p f = true) (hp : 2 ≤ p) (j : Nat) : 0 ≤ f.getD j 0 ∧ f.getD j 0 < p := by
  by_cases hj : j < f.length
  · exact areB_at h j hj
  · simp [show f[j]? = none from List.getElem?_eq_none (by omega)]; omega

set_option maxRecDepth 100000 in
set_option maxHeartbeats 1600000 in
theorem addMultiple_any (p k : Int) (a1 : Option Addr) (n1 c1 : Nat) (f : List Int) (a2 : Option Addr) (n2 c2 : Nat) (g : List Int) (w : World) (h1 : SL w a1 n1 c1 f) (h2 : SL w a2 n2 c2 g)
    (b1 : n1 ≤ 1000) (b2 : n2 ≤ 1000) (hp : 2 ≤ p) (hp2 : p ≤ 10007) (hk0 : 0 ≤ k) (hk1 : k < p) (hf : areB p f = true) (hg : areB p g = true) :
    Calls Tryd.prog 72 #[.int .i64 p, .slice a1 n1 c1, .slice a2 n2 c2, .int .i64 k] w fun e w' => ∃ a' c', e = .returned (.slice a' (addM p f g k).length c') ∧ Own w.heap.size w' a' c' (addM p f g k) ∧ Below w.heap.size w w' := by
  have hl1 := hide h1.len
  have hl2 := hide h2.len
  obtain ⟨N, hN⟩ : ∃ N, max f.length g.length = N := ⟨_, rfl⟩
  have hN1 : n1 ≤ N := by have := hl1.out; omega
  have hN2 : n2 ≤ N := by have := hl2.out; omega
  have hN3 : N ≤ 1000 := by have := hl1.out; have := hl2.out; omega
  have hmax : Hid ((if (n1 : Int) < (n2 : Int) then (n2 : Int) else (n1 : Int)) = (N : Int)) := hide (by have := hl1.out; have := hl2.out; split <;> omega)
  have Hf := hide hf
  have Hg := hide hg
  have HN := hide hN
  have hadd : Hid (addM p f g k = trimL (tab N (sumH p k f g n2))) := hide (by unfold addM; rw [hN, hl2.out])
  clear hf hg hN
  have hc : ∀ x : Int, Hid (x = (N : Int)) → True := fun _ _ => trivial
  by_cases hcmp : (n1 : Int) < (n2 : Int)
  all_goals
    have HN' := Lib.hid (show (if (n1 : Int) < (n2 : Int) then (n2 : Int) else (n1 : Int)) = (N : Int) from hmax.out)
    first
      | rw [if_pos hcmp] at HN'
      | rw [if_neg hcmp] at HN'
    go_enter Tryd.func72, Tryd.ntmps72
    go_wp2_with (first | (at_make; refine wp_make rfl _ _ rfl _ _ N rfl rfl HN'.out HN'.out (by omega) ?_; intro w1 hrow hb hsz) | (with_reducible refine wp_copy rfl _ _ rfl w.heap.size _ _ (List.replicate N 0) rfl hrow.out (by simp) _ _ _ f rfl (h1.below hb) (by simp; omega) w.heap.size (Nat.le_refl _) ?_; intro w2 hrow2 hb2))
    have hB2 := hb.trans hb2
    have hs2 : w.heap.size < w2.heap.size := Nat.lt_of_lt_of_le hsz hb2.size
    have hrow3 : RowI w2 w.heap.size (tab N (sumH p k f g 0)) := by
      have := hrow2.out
      rw [pad_tab f n1 N hl1.out hN1] at this
      have e : tab N (sumH p k f g 0) = tab N (fun j => f.getD j 0) := tab_congr (fun j _ => by simp [sumH])
      rwa [e]
    have Hrow3 := hide hrow3
    clear hrow3 hrow2 hrow hb hb2 hsz
    go_loopw [23] (fun i wr => ∃ m : Nat, m ≤ n2 ∧ i = .int .i64 m ∧ Hid (RowI wr w.heap.size (tab N (sumH p k f g m))) ∧ Below w.heap.size w wr ∧ w.heap.size < wr.heap.size) (fun i _ => n2 - (intOf i).toNat)
    case atStart => exact ⟨0, by omega, rfl, Hrow3, hB2, hs2⟩
    case round =>
      obtain ⟨m, hm, rfl, hR, hbr, hsr⟩ := hrel
      clear Hrow3 hB2 hs2
      by_cases hlt : m < n2
      · obtain ⟨b, off, ha, hbw, hcell⟩ := (h2.below hbr).at (by omega)
        subst ha
        have e1 := hcell m hlt
        have e2 := hR.out.cell m (by rw [tab_len]; omega)
        rw [tab_at _ _ _ (by omega), show sumH p k f g m m = f.getD m 0 by simp [sumH]] at e2
        have hfr := hR.out.free m
        have hset := hR.out.set m ((f.getD m 0 + k * g.getD m 0) % p)
        rw [sumH_step] at hset
        have hr1 := getD_rng Hf.out hp m
        have hr2 := getD_rng Hg.out hp m
        obtain ⟨x, hx⟩ : ∃ x, f.getD m 0 = x := ⟨_, rfl⟩
        obtain ⟨y, hy⟩ : ∃ y, g.getD m 0 = y := ⟨_, rfl⟩
        rw [hx] at e2 hset hr1
        rw [hy] at e1 hset hr2
        have Hset := hide hset
        obtain ⟨q1, q2⟩ := mulb hk0 hk1 hr2.1 hr2.2 hp2
        clear hset hcell hx hy
        have hlt' : (m : Int) < (n2 : Int) := by omega
        have hmN : (m : Int) < (N : Int) := by omega
        go_wp2
        go_roundw
        case rel => exact ⟨m + 1, by omega, by go_num, Hset, hbr.setCell (by simp) _, by simpa using hsr⟩
        case measure => simp [intOf]; omega
      · obtain rfl : m = n2 := by omega
        have hsl := hR.out.slN (tab_len _ _)
        have hres : ∀ w', Below wr.heap.size wr w' → Own w.heap.size w' (some ⟨w.heap.size, 0, none⟩) N (addM p f g k) ∧ (addM p f g k).length = trimN (tab N (sumH p k f g m)) N := fun w' hb' => by
          have hr' := hR.out.next hb'
          have hle := trimN_le (tab N (sumH p k f g m)) N
          have e : (addM p f g k).length = trimN (tab N (sumH p k f g m)) N := by rw [hadd.out, trimL_len, tab_len]
          refine ⟨?_, e⟩
          have h3 := hr'.ownT (zs := addM p f g k) (Nat.le_refl _) (by rw [tab_len]; unfold maxLen; omega) (m := trimN (tab N (sumH p k f g m)) N) (by rw [tab_len]; exact hle) (by rw [hadd.out]; unfold trimL; rw [tab_len]) e
          rw [tab_len] at h3
          exact h3
        go_wp2_with (go_at_call 102; refine (trim_any _ _ _ _ _ hsl (by omega)).mono ?_; rintro e w3 ⟨rfl, hb3⟩)
        go_ret
        obtain ⟨ho, hlen⟩ := hres _ hb3
        exact ⟨_, N, by rw [hlen]; rfl, ho, hbr.trans (hb3.mono hbr.size)⟩
theorem still_of {P : Program} {f : FuncId} {args : Array Value} {w : World} {v : Value} (h : Calls P f args w fun e w' => e = .returned v ∧ w = w') : Calls P f args w fun e w' => e = .returned v ∧ w' = w :=
  h.mono fun _ _ hh => ⟨hh.1, hh.2.symm⟩
/-- The first i numbers of f, then zeros. -/
def cpH (f : List Int) (i : Nat) : Nat → Int := fun j => if j < i then f.getD j 0 else 0
theorem cpH_step (f : List Int) (N i : Nat) : (tab N (cpH f i)).set i (f.getD i 0) = tab N (cpH f (i + 1)) := by
  rw [tab_set]
  apply tab_congr
  intro j _
  unfold cpH
  by_cases e : j = i
  · subst e; simp
  · rw [if_neg e]
    by_cases h : j < i
    · rw [if_pos h, if_pos (by omega)]
    · rw [if_neg h, if_neg (by omega)]
set_option maxRecDepth 100000 in
set_option maxHeartbeats 1600000 in
theorem l01Add_any (p k : Int) (a1 : Option Addr) (n1 c1 : Nat) (f : List Int) (a2 : Option Addr) (n2 c2 : Nat) (g : List Int) (w : World) (h1 : SL w a1 n1 c1 f) (h2 : SL w a2 n2 c2 g)
    (b1 : n1 ≤ 1000) (b2 : n2 ≤ 1000) (hp : 2 ≤ p) (hp2 : p ≤ 10007) (hk0 : 0 ≤ k) (hk1 : k < p) (hf : areB p f = true) (hg : areB p g = true) :
    Calls Tryd.prog 62 #[.int .i64 p, .slice a1 n1 c1, .slice a2 n2 c2, .int .i64 k] w fun e w' => ∃ a' c', e = .returned (.slice a' (addM p f g k).length c') ∧ Own w.heap.size w' a' c' (addM p f g k) ∧ Below w.heap.size w w' := by
  have hl1 := hide h1.len
  have hl2 := hide h2.len
  obtain ⟨N, hN⟩ : ∃ N, max f.length g.length = N := ⟨_, rfl⟩
  have hN1 : n1 ≤ N := by have := hl1.out; omega
  have hN2 : n2 ≤ N := by have := hl2.out; omega
  have hN3 : N ≤ 1000 := by have := hl1.out; have := hl2.out; omega
  have hmax : Hid ((if (n1 : Int) < (n2 : Int) then (n2 : Int) else (n1 : Int)) = (N : Int)) := hide (by have := hl1.out; have := hl2.out; split <;> omega)
  have Hf := hide hf
  have Hg := hide hg
  have HN := hide hN
  have hadd : Hid (addM p f g k = trimL (tab N (sumH p k f g n2))) := hide (by unfold addM; rw [hN, hl2.out])
  clear hf hg hN
  by_cases hcmp : (n1 : Int) < (n2 : Int)
  all_goals
    have HN' := Lib.hid (show (if (n1 : Int) < (n2 : Int) then (n2 : Int) else (n1 : Int)) = (N : Int) from hmax.out)
    first
      | rw [if_pos hcmp] at HN'
      | rw [if_neg hcmp] at HN'
    go_enter Tryd.func62, Tryd.ntmps62
    go_wp2_with (first | (at_make; refine wp_make rfl _ _ rfl _ _ N rfl rfl HN'.out HN'.out (by omega) ?_; intro w1 hrow hb hsz))
    have hrow2 : Hid (RowI w1 w.heap.size (tab N (cpH f 0))) := hide (by
      have := hrow.out
      rw [tab_zero] at this
      have e : tab N (cpH f 0) = tab N (fun _ => 0) := tab_congr (fun j _ => by simp [cpH])
      rwa [e])
    clear hrow
    go_loopw [10] (fun i wr => ∃ m : Nat, m ≤ n1 ∧ i = .int .i64 m ∧ Hid (RowI wr w.heap.size (tab N (cpH f m))) ∧ Below w.heap.size w wr ∧ w.heap.size < wr.heap.size) (fun i _ => n1 - (intOf i).toNat)
    case atStart => exact ⟨0, by omega, rfl, hrow2, hb, hsz⟩
    case round =>
      obtain ⟨m, hm, rfl, hR, hbr, hsr⟩ := hrel
      clear hrow2 hb hsz
      by_cases hlt : m < n1
      · obtain ⟨b, off, ha, hbw, hcell⟩ := (h1.below hbr).at (by omega)
        subst ha
        have e1 := hcell m hlt
        have e2 := hR.out.cell m (by rw [tab_len]; omega)
        have hfr := hR.out.free m
        have hset := hR.out.set m (f.getD m 0)
        rw [cpH_step] at hset
        obtain ⟨x, hx⟩ : ∃ x, f.getD m 0 = x := ⟨_, rfl⟩
        rw [hx] at e1 hset
        have Hset := hide hset
        clear hset hcell hx
        have hlt' : (m : Int) < (n1 : Int) := by omega
        have hmN : (m : Int) < (N : Int) := by omega
        go_wp2
        go_roundw
        case rel => exact ⟨m + 1, by omega, by go_num, Hset, hbr.setCell (by simp) _, by simpa using hsr⟩
        case measure => simp [intOf]; omega
      · obtain rfl : m = n1 := by omega
        have hrow3 : Hid (RowI wr w.heap.size (tab N (sumH p k f g 0))) := hide (by
          have := hR.out
          have e : tab N (sumH p k f g 0) = tab N (cpH f m) := tab_congr (fun j _ => by
            simp only [sumH, cpH, Nat.not_lt_zero, if_false]
            by_cases h : j < m
            · rw [if_pos h]
            · rw [if_neg h]; simp [show f[j]? = none from List.getElem?_eq_none (by have := hl1.out; omega)])
          rwa [e])
        clear hR
        go_wp2
        obtain ⟨wo, hwo⟩ : ∃ wo : World, wo = wr := ⟨_, rfl⟩
        subst hwo
        go_loopw [11] (fun i wr => ∃ m : Nat, m ≤ n2 ∧ i = .int .i64 m ∧ Hid (RowI wr w.heap.size (tab N (sumH p k f g m))) ∧ Below w.heap.size w wr ∧ w.heap.size < wr.heap.size) (fun i _ => n2 - (intOf i).toNat)
        case atStart => exact ⟨0, by omega, rfl, hrow3, hbr, hsr⟩
        case round =>
          obtain ⟨m, hm, rfl, hR, hbr, hsr⟩ := hrel
          clear hrow3
          by_cases hlt : m < n2
          · obtain ⟨b, off, ha, hbw, hcell⟩ := (h2.below hbr).at (by omega)
            subst ha
            have e1 := hcell m hlt
            have e2 := hR.out.cell m (by rw [tab_len]; omega)
            rw [tab_at _ _ _ (by omega), show sumH p k f g m m = f.getD m 0 by simp [sumH]] at e2
            have hfr := hR.out.free m
            have hset := hR.out.set m ((f.getD m 0 + k * g.getD m 0) % p)
            rw [sumH_step] at hset
            have hr1 := getD_rng Hf.out hp m
            have hr2 := getD_rng Hg.out hp m
            obtain ⟨x, hx⟩ : ∃ x, f.getD m 0 = x := ⟨_, rfl⟩
            obtain ⟨y, hy⟩ : ∃ y, g.getD m 0 = y := ⟨_, rfl⟩
            rw [hx] at e2 hset hr1
            rw [hy] at e1 hset hr2
            have Hset := hide hset
            obtain ⟨q1, q2⟩ := mulb hk0 hk1 hr2.1 hr2.2 hp2
            clear hset hcell hx hy
            have hlt' : (m : Int) < (n2 : Int) := by omega
            have hmN : (m : Int) < (N : Int) := by omega
            have bb1 : -9223372036854775808 ≤ x + k * y := by omega
            have bb2 : x + k * y ≤ 9223372036854775807 := by omega
            have w1 : IntKind.i64.wrap (k * y) = k * y := IntWalk.i64_in _ (by omega)
            have w2 : IntKind.i64.wrap (x + k * y) = x + k * y := IntWalk.i64_in _ (by omega)
            go_wp2
            refine wp_region_still_tail 16 (by kernel_rfl) (by kernel_rfl) ?_
            simp only [List.take_succ_cons, List.take_zero, List.drop_succ_cons, List.drop_zero]
            repeat still_step
            still_call (still_of (l01Mod_any p (x + k * y) _ hp hp2 bb1 bb2))
            repeat still_step
            refine wpStill_nil ?_
            clear w1 w2 bb1 bb2
            go_wp2
            go_roundw
            case rel => exact ⟨m + 1, by omega, by go_num, Hset, (hbr.setCell (by simp) _).drew, by simpa using hsr⟩
            case measure => simp [intOf]; omega
          · obtain rfl : m = n2 := by omega
            have hsl := hR.out.slN (tab_len _ _)
            have hlen : (addM p f g k).length = (trimL (tab N (sumH p k f g m))).length := by rw [hadd.out]
            have Hlen := hide hlen
            have Hadd := hadd
            clear hlen
            go_wp2_with (go_at_call 86; refine (l01Trim_any _ _ _ _ _ _ hsl (by omega)).mono ?_; rintro e w3 ⟨a', c', rfl, hown, hb3⟩)
            go_ret
            refine ⟨a', c', by rw [Hlen.out]; rfl, ?_, hbr.trans (hb3.mono hbr.size)⟩
            rw [hadd.out]
            exact hown.mono (by omega)
end Go.Proofs.YtdjifjlgllohmaaDoor
/- Plain mathematics: division of lists of numbers modulo a prime, as both loops compute it. No program. -/
namespace Go.Proofs.YtdjifjlgllohmaaDoor
open Go.RowKit
set_option linter.unusedVariables false
set_option linter.unusedSimpArgs false

/-- The rest with the first i numbers of q times g taken off from the place 'at' on. -/
def divS (p q : Int) (g : List Int) (R : Nat → Int) (at' i : Nat) : Nat → Int := fun j => if at' ≤ j ∧ j < at' + i then (R j - q * g.getD (j - at') 0) % p else R j
/-- The rest behind i steps; D: how much longer f is. -/
def divR (p inv : Int) (f g : List Int) (D : Nat) : Nat → Nat → Int
  | 0 => fun j => f.getD j 0
  | i + 1 => divS p (divR p inv f g D i (D - i + g.length - 1) * inv % p) g (divR p inv f g D i) (D - i) g.length
def divN (p inv : Int) (f g : List Int) (D i : Nat) : Int := divR p inv f g D i (D - i + g.length - 1) * inv % p
/-- The quotient behind i steps. -/
def divQ (p inv : Int) (f g : List Int) (D i : Nat) : Nat → Int := fun j => if D < j + i then divN p inv f g D (D - j) else 0
def quoM (p : Int) (f g : List Int) : List Int :=
  if f.length < g.length then [] else trimL (tab (f.length - g.length + 1) (divQ p (invM p (g.getD (g.length - 1) 0)) f g (f.length - g.length) (f.length - g.length + 1)))
def remM (p : Int) (f g : List Int) : List Int :=
  if f.length < g.length then f else trimL (tab f.length (divR p (invM p (g.getD (g.length - 1) 0)) f g (f.length - g.length) (f.length - g.length + 1)))
theorem divS_step (p q : Int) (g : List Int) (R : Nat → Int) (N a i : Nat) : (tab N (divS p q g R a i)).set (a + i) ((R (a + i) - q * g.getD i 0) % p) = tab N (divS p q g R a (i + 1)) := by
  rw [tab_set]
  apply tab_congr
  intro j _
  unfold divS
  by_cases e : j = a + i
  · subst e
    rw [if_pos rfl, if_pos (by omega), show a + i - a = i by omega]
  · rw [if_neg e]
    by_cases h : a ≤ j ∧ j < a + i
    · rw [if_pos h, if_pos (by omega)]
    · rw [if_neg h, if_neg (by omega)]
theorem divS_zero (p q : Int) (g : List Int) (R : Nat → Int) (a : Nat) : divS p q g R a 0 = R := by
  funext j
  unfold divS
  rw [if_neg (by omega)]
theorem divS_at (p q : Int) (g : List Int) (R : Nat → Int) (a i : Nat) : divS p q g R a i (a + i) = R (a + i) := by
  unfold divS
  rw [if_neg (by omega)]
theorem divR_rng {p inv : Int} {f g : List Int} {D : Nat} (hp : 2 ≤ p) (hf : areB p f = true) (i : Nat) : ∀ j, 0 ≤ divR p inv f g D i j ∧ divR p inv f g D i j < p := by
  induction i with
  | zero => intro j; exact getD_rng hf hp j
  | succ i ih =>
    intro j
    unfold divR divS
    split
    · exact modb hp
    · exact ih j
theorem divN_rng {p inv : Int} {f g : List Int} {D i : Nat} (hp : 2 ≤ p) : 0 ≤ divN p inv f g D i ∧ divN p inv f g D i < p := modb hp
theorem divQ_step (p inv : Int) (f g : List Int) (D i : Nat) (hi : i ≤ D) : (tab (D + 1) (divQ p inv f g D i)).set (D - i) (divN p inv f g D i) = tab (D + 1) (divQ p inv f g D (i + 1)) := by
  rw [tab_set]
  apply tab_congr
  intro j hj
  unfold divQ
  by_cases e : j = D - i
  · subst e
    rw [if_pos rfl, if_pos (by omega), show D - (D - i) = i by omega]
  · rw [if_neg e]
    by_cases h : D < j + i
    · rw [if_pos h, if_pos (by omega)]
    · rw [if_neg h, if_neg (by omega)]
theorem divQ_zero (p inv : Int) (f g : List Int) (D : Nat) : tab (D + 1) (divQ p inv f g D 0) = tab (D + 1) (fun _ => 0) := by
  apply tab_congr
  intro j hj
  unfold divQ
  rw [if_neg (by omega)]
/-- Where the number at the top is 0 a step changes nothing. -/
theorem divR_same {p inv : Int} {f g : List Int} {D i : Nat} (hp : 2 ≤ p) (hf : areB p f = true) (h : divR p inv f g D i (D - i + g.length - 1) = 0) : divN p inv f g D i = 0 ∧ divR p inv f g D (i + 1) = divR p inv f g D i := by
  have hn : divN p inv f g D i = 0 := by unfold divN; rw [h]; simp
  refine ⟨hn, ?_⟩
  funext j
  rw [divR]
  have e : divR p inv f g D i (D - i + g.length - 1) * inv % p = 0 := hn
  rw [e]
  unfold divS
  split
  · have := divR_rng (inv := inv) (g := g) (D := D) hp hf i j
    rw [Int.zero_mul, Int.sub_zero, Int.emod_eq_of_lt this.1 this.2]
  · rfl
theorem divR_skip {p inv : Int} {f g : List Int} {D i L : Nat} (hp : 2 ≤ p) (hf : areB p f = true) (hg : g.length ≠ 0) (hz : ∀ j, L ≤ j → divR p inv f g D i j = 0) (k : Nat) (hk : i + k ≤ D + 1) (hL : L + i + k ≤ D + g.length) :
    divR p inv f g D (i + k) = divR p inv f g D i ∧ (∀ j, j ≤ D → divQ p inv f g D (i + k) j = divQ p inv f g D i j) := by
  induction k with
  | zero => exact ⟨rfl, fun _ _ => rfl⟩
  | succ k ih =>
    obtain ⟨h1, h2⟩ := ih (by omega) (by omega)
    have h3 := divR_same (inv := inv) (g := g) (D := D) (i := i + k) hp hf (by rw [h1]; exact hz _ (by omega))
    refine ⟨by rw [← Nat.add_assoc, h3.2, h1], fun j hj => ?_⟩
    rw [← h2 j hj]
    unfold divQ
    by_cases e : D < j + (i + k)
    · rw [if_pos e, if_pos (by omega)]
    · rw [if_neg e]
      by_cases e2 : D < j + (i + (k + 1))
      · rw [if_pos e2, show D - j = i + k by omega, h3.1]
      · rw [if_neg e2]
/-- A step makes the number at the top 0. -/
theorem divR_top {p inv : Int} {f g : List Int} {D i : Nat} (hp : primeB p = true) (hf : areB p f = true) (hg : g.length ≠ 0) (hinv : g.getD (g.length - 1) 0 * inv % p = 1) :
    divR p inv f g D (i + 1) (D - i + g.length - 1) = 0 := by
  have hl := primeB_lo hp
  rw [divR]
  unfold divS
  rw [if_pos (by omega), show D - i + g.length - 1 - (D - i) = g.length - 1 by omega]
  generalize divR p inv f g D i (D - i + g.length - 1) = R
  generalize g.getD (g.length - 1) 0 = b at hinv ⊢
  rw [Int.sub_emod, Int.mul_emod, Int.emod_emod, ← Int.mul_emod, ← Int.sub_emod]
  have e : R - R * inv * b = R * (1 - b * inv) := by
    rw [Int.mul_sub, Int.mul_one, Int.mul_assoc, Int.mul_comm inv b]
  rw [e, Int.mul_emod, Int.sub_emod, hinv]
  have h1 : (1 : Int) % p = 1 := Int.emod_eq_of_lt (by omega) (by omega)
  rw [h1]
  simp
theorem divR_far {p inv : Int} {f g : List Int} {D i : Nat} (hD : f.length = D + g.length) : ∀ j, f.length ≤ j → divR p inv f g D i j = 0 := by
  induction i with
  | zero => intro j hj; simp [divR, show f[j]? = none from List.getElem?_eq_none hj]
  | succ i ih =>
    intro j hj
    unfold divR divS
    rw [if_neg (by omega)]
    exact ih j hj
/-- What the program adds in the place of taking off. -/
theorem minus_eq (p R q b : Int) : (R + (p - q) * b) % p = (R - q * b) % p := by
  have : R + (p - q) * b = R - q * b + p * b := by rw [Int.sub_mul]; omega
  rw [this, Int.add_mul_emod_self_left]
theorem trimN_zero_from (xs : List Int) (k : Nat) : ∀ j, trimN xs k ≤ j → j < k → xs.getD j 0 = 0 := by
  induction k with
  | zero => intro j _ h; omega
  | succ k ih =>
    intro j h1 h2
    unfold trimN at h1
    split at h1
    · rename_i hz
      by_cases e : j = k
      · subst e; exact hz
      · exact ih j h1 (by omega)
    · omega
theorem trimN_last (xs : List Int) (k : Nat) (h : trimN xs k ≠ 0) : xs.getD (trimN xs k - 1) 0 ≠ 0 := by
  induction k with
  | zero => exact absurd rfl h
  | succ k ih =>
    unfold trimN at h ⊢
    split
    · rename_i hz
      rw [if_pos hz] at h
      exact ih h
    · rename_i hz
      simpa using hz
/-- From a place on where all is 0 the cut is the same. -/
theorem trimN_mono (xs : List Int) (k m : Nat) (hm : m ≤ k) (hz : ∀ j, m ≤ j → j < k → xs.getD j 0 = 0) : trimN xs k = trimN xs m := by
  induction k with
  | zero => rw [show m = 0 by omega]
  | succ k ih =>
    by_cases e : m = k + 1
    · rw [e]
    · rw [trimN, if_pos (hz k (by omega) (by omega))]
      exact ih (by omega) (fun j h1 h2 => hz j h1 (by omega))
end Go.Proofs.YtdjifjlgllohmaaDoor
