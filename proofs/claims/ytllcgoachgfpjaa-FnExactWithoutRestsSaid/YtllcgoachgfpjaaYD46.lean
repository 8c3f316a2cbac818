/- Merged texts. -/
import Derived.Test.YtllcgoachgfpjaaYD44
import Derived.Test.YtllcgoachgfpjaaYD45
import Derived.StillTailTactics
import Derived.IntWalk
import Derived.Test.YtllcgoachgfpjaaYD42
import Derived.Deep.QuietTactic
import Derived.BigQuiet
/- Contracts: addMultiple (program), l01Add (model): f and k times g together. -/
namespace Go.Proofs.Ytllcgoachgfpjaa
open Go.RowKit
set_option linter.unusedVariables false
set_option linter.unusedSimpArgs false

theorem RowI.slN {w : World} {g n : Nat} {ys : List Int} (h : RowI w g ys) (hn : ys.length = n) : SL w (some ⟨g, 0, none⟩) n n ys := by
  subst hn; exact h.sl'
theorem pad_tab (f : List Int) (m N : Nat) (hm : f.length = m) (hN : m ≤ N) : f ++ (List.replicate N (0 : Int)).drop m = tab N (fun j => f.getD j 0) := by
  apply ext_tab
  · simp [tab]; omega
  · intro j hj
    have hj' : j < N := by simp at hj; omega
    rw [tab_at _ _ _ hj']
    by_cases h : j < m
    · simp [List.getElem?_append_left (show j < f.length by omega)]
    · simp [List.getElem?_append_right (show f.length ≤ j by omega), show ¬ j < f.length by omega]
      have : ∀ (i : Nat), (List.replicate (N - m) (0 : Int))[i]?.getD 0 = 0 := fun i => by
        by_cases hi : i < N - m <;> simp [hi]
      exact this _
/-- The numbers of f and k times g, the first i of g done. -/
def sumH (p k : Int) (f g : List Int) (i : Nat) : Nat → Int := fun j => if j < i then (f.getD j 0 + k * g.getD j 0) % p else f.getD j 0
def addM (p : Int) (f g : List Int) (k : Int) : List Int := trimL (tab (max f.length g.length) (sumH p k f g g.length))
theorem sumH_step (p k : Int) (f g : List Int) (N i : Nat) : (tab N (sumH p k f g i)).set i ((f.getD i 0 + k * g.getD i 0) % p) = tab N (sumH p k f g (i + 1)) := by
  rw [tab_set]
  apply tab_congr
  intro j _
  unfold sumH
  by_cases e : j = i
  · subst e; simp
  · rw [if_neg e]
    by_cases h : j < i
    · rw [if_pos h, if_pos (by omega)]
    · rw [if_neg h, if_neg (by omega)]
theorem getD_rng {p : Int} {f : List Int} (h : areB p f = true) (hp : 2 ≤ p) (j : Nat) : 0 ≤ f.getD j 0 ∧ f.getD j 0 < p := by
  by_cases hj : j < f.length
  · exact areB_at h j hj
  · simp [show f[j]? = none from List.getElem?_eq_none (by omega)]; omega

set_option maxRecDepth 100000 in
set_option maxHeartbeats 1600000 in
theorem addMultiple_any (p k : Int) (a1 : Option Addr) (n1 c1 : Nat) (f : List Int) (a2 : Option Addr) (n2 c2 : Nat) (g : List Int) (w : World) (h1 : SL w a1 n1 c1 f) (h2 : SL w a2 n2 c2 g)
    (b1 : n1 ≤ 1000) (b2 : n2 ≤ 1000) (hp : 2 ≤ p) (hp2 : p ≤ 10007) (hk0 : 0 ≤ k) (hk1 : k < p) (hf : areB p f = true) (hg : areB p g = true) :
    Calls Try.prog 171 #[.int .i64 p, .slice a1 n1 c1, .slice a2 n2 c2, .int .i64 k] w fun e w' => ∃ a' c', e = .returned (.slice a' (addM p f g k).length c') ∧ Own w.heap.size w' a' c' (addM p f g k) ∧ Below w.heap.size w w' := by
  have hl1 := hide h1.len
  have hl2 := hide h2.len
  obtain ⟨N, hN⟩ : ∃ N, max f.length g.length = N := ⟨_, rfl⟩
  have hN1 : n1 ≤ N := by have := hl1.out; omega
  have hN2 : n2 ≤ N := by have := hl2.out; omega
  have hN3 : N ≤ 1000 := by have := hl1.out; have := hl2.out; omega
  have hmax : Hid ((if (n1 : Int) < (n2 : Int) then (n2 : Int) else (n1 : Int)) = (N : Int)) := hide (by have := hl1.out; have := hl2.out; split <;> omega)
  have Hf := hide hf
  have Hg := hide hg
  have HN := hide hN
  have hadd : Hid (addM p f g k = trimL (tab N (sumH p k f g n2))) := hide (by unfold addM; rw [hN, hl2.out])
  clear hf hg hN
  have hc : ∀ x : Int, Hid (x = (N : Int)) → True := fun _ _ => trivial
  by_cases hcmp : (n1 : Int) < (n2 : Int)
  all_goals
    have HN' := Lib.hid (show (if (n1 : Int) < (n2 : Int) then (n2 : Int) else (n1 : Int)) = (N : Int) from hmax.out)
    first
      | rw [if_pos hcmp] at HN'
      | rw [if_neg hcmp] at HN'
    go_enter Try.func171, Try.ntmps171
    go_wp2_with (first | (at_make; refine wp_make rfl _ _ rfl _ _ N rfl rfl HN'.out HN'.out (by omega) ?_; intro w1 hrow hb hsz) | (with_reducible refine wp_copy rfl _ _ rfl w.heap.size _ _ (List.replicate N 0) rfl hrow.out (by simp) _ _ _ f rfl (h1.below hb) (by simp; omega) w.heap.size (Nat.le_refl _) ?_; intro w2 hrow2 hb2))
    have hB2 := hb.trans hb2
    have hs2 : w.heap.size < w2.heap.size := Nat.lt_of_lt_of_le hsz hb2.size
    have hrow3 : RowI w2 w.heap.size (tab N (sumH p k f g 0)) := by
      have := hrow2.out
      rw [pad_tab f n1 N hl1.out hN1] at this
      have e : tab N (sumH p k f g 0) = tab N (fun j => f.getD j 0) := tab_congr (fun j _ => by simp [sumH])
      rwa [e]
    have Hrow3 := hide hrow3
    clear hrow3 hrow2 hrow hb hb2 hsz
    go_loopw [23] (fun i wr => ∃ m : Nat, m ≤ n2 ∧ i = .int .i64 m ∧ Hid (RowI wr w.heap.size (tab N (sumH p k f g m))) ∧ Below w.heap.size w wr ∧ w.heap.size < wr.heap.size) (fun i _ => n2 - (intOf i).toNat)
    case atStart => exact ⟨0, by omega, rfl, Hrow3, hB2, hs2⟩
    case round =>
      obtain ⟨m, hm, rfl, hR, hbr, hsr⟩ := hrel
      clear Hrow3 hB2 hs2
      by_cases hlt : m < n2
      · obtain ⟨b, off, ha, hbw, hcell⟩ := (h2.below hbr).at (by omega)
        subst ha
        have e1 := hcell m hlt
        have e2 := hR.out.cell m (by rw [tab_len]; omega)
        rw [tab_at _ _ _ (by omega), show sumH p k f g m m = f.getD m 0 by simp [sumH]] at e2
        have hfr := hR.out.free m
        have hset := hR.out.set m ((f.getD m 0 + k * g.getD m 0) % p)
        rw [sumH_step] at hset
        have hr1 := getD_rng Hf.out hp m
        have hr2 := getD_rng Hg.out hp m
        obtain ⟨x, hx⟩ : ∃ x, f.getD m 0 = x := ⟨_, rfl⟩
        obtain ⟨y, hy⟩ : ∃ y, g.getD m 0 = y := ⟨_, rfl⟩
        rw [hx] at e2 hset hr1
        rw [hy] at e1 hset hr2
        have Hset := hide hset
        obtain ⟨q1, q2⟩ := mulb hk0 hk1 hr2.1 hr2.2 hp2
        clear hset hcell hx hy
        have hlt' : (m : Int) < (n2 : Int) := by omega
        have hmN : (m : Int) < (N : Int) := by omega
        go_wp2
        go_roundw
        case rel => exact ⟨m + 1, by omega, by go_num, Hset, hbr.setCell (by simp) _, by simpa using hsr⟩
        case measure => simp [intOf]; omega
      · obtain rfl : m = n2 := by omega
        have hsl := hR.out.slN (tab_len _ _)
        have hres : ∀ w', Below wr.heap.size wr w' → Own w.heap.size w' (some ⟨w.heap.size, 0, none⟩) N (addM p f g k) ∧ (addM p f g k).length = trimN (tab N (sumH p k f g m)) N := fun w' hb' => by
          have hr' := hR.out.next hb'
          have hle := trimN_le (tab N (sumH p k f g m)) N
          have e : (addM p f g k).length = trimN (tab N (sumH p k f g m)) N := by rw [hadd.out, trimL_len, tab_len]
          refine ⟨?_, e⟩
          have h3 := hr'.ownT (zs := addM p f g k) (Nat.le_refl _) (by rw [tab_len]; unfold maxLen; omega) (m := trimN (tab N (sumH p k f g m)) N) (by rw [tab_len]; exact hle) (by rw [hadd.out]; unfold trimL; rw [tab_len]) e
          rw [tab_len] at h3
          exact h3
        go_wp2_with (go_at_call 81; refine (trim_any _ _ _ _ _ hsl (by omega)).mono ?_; rintro e w3 ⟨rfl, hb3⟩)
        go_ret
        obtain ⟨ho, hlen⟩ := hres _ hb3
        exact ⟨_, N, by rw [hlen]; rfl, ho, hbr.trans (hb3.mono hbr.size)⟩
theorem still_of {P : Program} {f : FuncId} {args : Array Value} {w : World} {v : Value} (h : Calls P f args w fun e w' => e = .returned v ∧ w = w') : Calls P f args w fun e w' => e = .returned v ∧ w' = w :=
  h.mono fun _ _ hh => ⟨hh.1, hh.2.symm⟩
/-- The first i numbers of f, then zeros. -/
def cpH (f : List Int) (i : Nat) : Nat → Int := fun j => if j < i then f.getD j 0 else 0
theorem cpH_step (f : List Int) (N i : Nat) : (tab N (cpH f i)).set i (f.getD i 0) = tab N (cpH f (i + 1)) := by
  rw [tab_set]
  apply tab_congr
  intro j _
  unfold cpH
  by_cases e : j = i
  · subst e; simp
  · rw [if_neg e]
    by_cases h : j < i
    · rw [if_pos h, if_pos (by omega)]
    · rw [if_neg h, if_neg (by omega)]
end Go.Proofs.Ytllcgoachgfpjaa
/- Contracts: slices.Index, slices.Contains; l03Is, IsJacobi (program and model), l03Code, checkJacobi. -/
namespace Go.Proofs.Ytllcgoachgfpjaa
open Go.RowKit
set_option linter.unusedVariables false
set_option linter.unusedSimpArgs false

def okP (p x : Int) : Bool := decide (1 ≤ x ∧ x < p)
def posB (p : Int) (xs : List Int) : Bool := xs.all (okP p)
def hasB (v : Int) (xs : List Int) : Bool := xs.any (v == ·)
theorem posB_snoc (p : Int) (xs : List Int) (k : Nat) (h : k < xs.length) : posB p (xs.take (k + 1)) = (posB p (xs.take k) && okP p (xs.getD k 0)) := by
  rw [take_snocI xs k h]
  simp [posB]
theorem posB_false (p : Int) (xs : List Int) (k : Nat) (h : k < xs.length) (hx : okP p (xs.getD k 0) = false) : posB p xs = false := by
  unfold posB
  rw [Bool.eq_false_iff]
  intro hall
  rw [List.all_eq_true] at hall
  have := hall (xs.getD k 0) (by simp [h])
  rw [hx] at this
  cases this
theorem posB_at {p : Int} {xs : List Int} (h : posB p xs = true) (k : Nat) (hk : k < xs.length) : 1 ≤ xs.getD k 0 ∧ xs.getD k 0 < p := by
  unfold posB at h
  rw [List.all_eq_true] at h
  have := h (xs.getD k 0) (by simp [hk])
  simpa [okP] using this
theorem posB_eq (p : Int) (xs : List Int) : posB p xs = (areB p xs && !hasB 0 xs) := by
  induction xs with
  | nil => rfl
  | cons x l ih =>
    have e : posB p (x :: l) = (okP p x && posB p l) := rfl
    have e2 : areB p (x :: l) = (okN p x && areB p l) := rfl
    have e3 : hasB 0 (x :: l) = ((0 == x) || hasB 0 l) := rfl
    rw [e, e2, e3, ih]
    by_cases h0 : x = 0
    · subst h0; simp [okP]
    · have : okP p x = okN p x := by unfold okP okN; congr 1; apply propext; omega
      rw [this]
      have h1 : ((0 : Int) == x) = false := by simpa using fun h => h0 h.symm
      rw [h1]
      cases okN p x <;> cases areB p l <;> cases hasB 0 l <;> rfl
theorem hasB_snoc (v : Int) (xs : List Int) (k : Nat) (h : k < xs.length) : hasB v (xs.take (k + 1)) = (hasB v (xs.take k) || v == xs.getD k 0) := by
  rw [take_snocI xs k h]
  simp [hasB]
theorem hasB_true (v : Int) (xs : List Int) (k : Nat) (h : k < xs.length) (hx : v = xs.getD k 0) : hasB v xs = true := by
  unfold hasB
  rw [List.any_eq_true]
  exact ⟨xs.getD k 0, by simp [h], by simpa using hx⟩
def jacB (p : Int) (xs ys : List Int) : Bool := primeB p && decide (1 ≤ xs.length) && decide (xs.length ≤ 12) && decide (ys.length = xs.length) && areB p xs && posB p ys
theorem jacB_rng {p : Int} {xs ys : List Int} (h : jacB p xs ys = true) : primeB p = true ∧ 1 ≤ xs.length ∧ xs.length ≤ 12 ∧ ys.length = xs.length ∧ areB p xs = true ∧ posB p ys = true := by
  unfold jacB at h
  simp only [Bool.and_eq_true, decide_eq_true_eq] at h
  exact ⟨h.1.1.1.1.1, h.1.1.1.1.2, h.1.1.1.2, h.1.1.2, h.1.2, h.2⟩
theorem posB_are {p : Int} {xs : List Int} (h : posB p xs = true) : areB p xs = true := by
  rw [posB_eq] at h
  simp only [Bool.and_eq_true] at h
  exact h.1
set_option maxRecDepth 100000 in
set_option maxHeartbeats 800000 in
theorem index_any (a : Option Addr) (n c : Nat) (xs : List Int) (v : Int) (w : World) (hs : SL w a n c xs) (hn : n ≤ 4000000) :
    Calls Try.prog 125 #[.slice a n c, .int .i64 v] w fun e w' => (∃ r : Int, e = .returned (.int .i64 r) ∧ (decide (0 ≤ r) = hasB v xs)) ∧ w = w' := by
  have hl := hide hs.len
  by_cases h0 : n = 0
  · subst h0
    obtain rfl := hs.empty
    go_enter Try.func125, Try.ntmps125
    go_wp2
    refine wp_loop_rounds 1 ?_
    rw [rounds_succ]
    go_wp2
    go_ret
    exact ⟨⟨_, rfl, by simp [hasB]⟩, rfl⟩
  obtain ⟨b, off, rfl, hbw, hcell⟩ := hs.at (by omega)
  clear hs
  go_enter Try.func125, Try.ntmps125
  go_wp2
  go_loop [8] (fun i => ∃ k : Nat, k ≤ n ∧ i = .int .i64 k ∧ Hid (hasB v (xs.take k) = false)) (fun i => n - (intOf i).toNat)
  case atStart => exact ⟨0, by omega, rfl, by simp [Hid, hasB]⟩
  case round =>
    obtain ⟨k, hk, rfl, hR⟩ := hrel
    by_cases hlt : k < n
    · have e1 := hcell k hlt
      have hsn := Lib.hid (hasB_snoc v xs k (by rw [hl.out]; exact hlt))
      have hT := fun h => Lib.hid (hasB_true v xs k (by rw [hl.out]; exact hlt) h)
      obtain ⟨x, hx⟩ : ∃ x, x = xs.getD k 0 := ⟨_, rfl⟩
      rw [← hx] at e1
      have Hx := Lib.hid hx
      clear hx hcell
      by_cases hok : v = x
      · have hF := hT (by rw [hok, Hx.out])
        have ob : (v == x) = true := by simpa using hok
        clear hT hok
        go_wp2
        go_ret
        exact ⟨⟨_, rfl, by rw [hF.out]; simp⟩, rfl⟩
      · have ob : (v == x) = false := by simpa using hok
        have hF : Hid (hasB v (xs.take (k + 1)) = false) := hide (by rw [hsn.out, hR.out, ← Hx.out, ob]; rfl)
        clear hT hok hsn
        go_wp2
        go_round
        case rel => exact ⟨k + 1, by omega, by go_num, hF⟩
        case measure => simp [intOf]; omega
    · obtain rfl : k = n := by omega
      have hF : Hid (hasB v xs = false) := hide (by have := hR.out; rwa [List.take_of_length_le (by rw [hl.out]; omega)] at this)
      go_wp2
      go_ret
      exact ⟨⟨_, rfl, by rw [hF.out]; simp⟩, rfl⟩
set_option maxHeartbeats 800000 in
theorem contains_any (a : Option Addr) (n c : Nat) (xs : List Int) (v : Int) (w : World) (hs : SL w a n c xs) (hn : n ≤ 4000000) :
    Calls Try.prog 108 #[.slice a n c, .int .i64 v] w fun e w' => e = .returned (.bool (hasB v xs)) ∧ w = w' := by
  go_enter Try.func108, Try.ntmps108
  go_wp2_with fail
  refine (index_any _ _ _ _ _ _ hs hn).mono ?_
  rintro e w1 ⟨⟨r, rfl, hr⟩, rfl⟩
  have Hr := hide hr
  clear hr
  go_wp2
  go_ret
  exact ⟨ret_bool (by rw [← Hr.out]), rfl⟩
set_option maxRecDepth 100000 in
set_option maxHeartbeats 1600000 in
theorem l03Is_any (p : Int) (a : Option Addr) (n c : Nat) (xs : List Int) (b : Option Addr) (m d : Nat) (ys : List Int) (w : World) (hs : SL w a n c xs) (ht : SL w b m d ys) (hn : n ≤ 4000000) (hm : m ≤ 4000000) :
    Calls Try.prog 79 #[jac p a n c b m d] w fun e w' => e = .returned (.bool (jacB p xs ys)) ∧ Below w.heap.size w w' := by
  have hl := hide hs.len
  have ht2 := hide ht.len
  have hb0 := bl1 w (.cells #[.int .i64 p, .slice a n c, .slice b m d] 38)
  have g1 := hs.below hb0
  have g2 := ht.below hb0
  cases hp : primeB p
  · have H : Hid (jacB p xs ys = false) := hide (by simp [jacB, hp])
    have Hp := hide hp
    clear hp
    go_enter Try.func79, Try.ntmps79
    go_wp2_with fail
    refine (l01Prime_any _ _).mono ?_
    rintro e w1 ⟨rfl, rfl⟩
    rw [Hp.out]
    go_wp2
    go_ret
    exact ⟨ret_bool H.out.symm, hb0⟩
  have Hp := hide hp
  obtain ⟨hp1, hp2⟩ := primeB_lo hp
  clear hp
  by_cases hbad : (n : Int) < 1 ∨ 12 < (n : Int) ∨ (m : Int) ≠ (n : Int)
  · have H : Hid (jacB p xs ys = false) := hide (by
      cases hj : jacB p xs ys
      · rfl
      · have := jacB_rng hj
        rw [hl.out, ht2.out] at this
        omega)
    by_cases h1 : (n : Int) < 1
    · go_enter Try.func79, Try.ntmps79
      go_wp2_with fail
      refine (l01Prime_any _ _).mono ?_
      rintro e w1 ⟨rfl, rfl⟩
      rw [Hp.out]
      go_wp2
      go_ret
      exact ⟨ret_bool H.out.symm, hb0⟩
    · by_cases h2 : 12 < (n : Int)
      · go_enter Try.func79, Try.ntmps79
        go_wp2_with fail
        refine (l01Prime_any _ _).mono ?_
        rintro e w1 ⟨rfl, rfl⟩
        rw [Hp.out]
        go_wp2
        go_ret
        exact ⟨ret_bool H.out.symm, hb0⟩
      · have ob : ((m : Int) != (n : Int)) = true := by simp; omega
        go_enter Try.func79, Try.ntmps79
        go_wp2_with fail
        refine (l01Prime_any _ _).mono ?_
        rintro e w1 ⟨rfl, rfl⟩
        rw [Hp.out]
        go_wp2
        go_ret
        exact ⟨ret_bool H.out.symm, hb0⟩
  · obtain ⟨h1, h2, h3⟩ : ¬ (n : Int) < 1 ∧ ¬ 12 < (n : Int) ∧ m = n := by omega
    clear hbad
    subst h3
    have H : Hid (jacB p xs ys = (areB p xs && posB p ys)) := hide (by
      unfold jacB
      rw [Hp.out, hl.out, ht2.out]
      simp [show 1 ≤ m by omega, show m ≤ 12 by omega])
    obtain ⟨b1, o1, rfl, hbw1, hc1⟩ := g1.at (by omega)
    obtain ⟨b2, o2, rfl, hbw2, hc2⟩ := g2.at (by omega)
    clear hs ht g1 g2
    go_enter Try.func79, Try.ntmps79
    go_wp2_with fail
    refine (l01Prime_any _ _).mono ?_
    rintro e w1 ⟨rfl, rfl⟩
    rw [Hp.out]
    go_wp2
    go_loopw [3] (fun i wr => ∃ k : Nat, k ≤ m ∧ i = .int .i64 k ∧ Hid (areB p (xs.take k) = true) ∧ Hid (posB p (ys.take k) = true) ∧ Below (w.heap.size + 1) (w.alloc (.cells #[.int .i64 p, .slice (some ⟨b1, o1, none⟩) m c, .slice (some ⟨b2, o2, none⟩) m d] 38)) wr) (fun i _ => m - (intOf i).toNat)
    case atStart => exact ⟨0, by omega, rfl, by simp [Hid, areB], by simp [Hid, posB], Below.refl _ _⟩
    case round =>
      obtain ⟨k, hk, rfl, hR, hS, hbr⟩ := hrel
      have f0 : wr.cell? ⟨w.heap.size, 0, none⟩ = some (.int .i64 p) := (hbr.cell (by simp)).trans (by simp [go_sem])
      have f1 : wr.cell? ⟨w.heap.size, 1, none⟩ = some (.slice (some ⟨b1, o1, none⟩) m c) := (hbr.cell (by simp)).trans (by simp [go_sem])
      have f2 : wr.cell? ⟨w.heap.size, 2, none⟩ = some (.slice (some ⟨b2, o2, none⟩) m d) := (hbr.cell (by simp)).trans (by simp [go_sem])
      have hB := hb0.trans (hbr.mono (Nat.le_succ _))
      by_cases hlt : k < m
      · have e1 : wr.cell? ⟨b1, o1 + k, none⟩ = some (.int .i64 (xs.getD k 0)) := (hbr.cell (by simpa using hbw1)).trans (hc1 k hlt)
        have e2 : wr.cell? ⟨b2, o2 + k, none⟩ = some (.int .i64 (ys.getD k 0)) := (hbr.cell (by simpa using hbw2)).trans (hc2 k hlt)
        have s1 := Lib.hid (areB_snoc p xs k (by rw [hl.out]; exact hlt))
        have s2 := Lib.hid (posB_snoc p ys k (by rw [ht2.out]; exact hlt))
        have x1 := fun h => Lib.hid (areB_false p xs k (by rw [hl.out]; exact hlt) h)
        have x2 := fun h => Lib.hid (posB_false p ys k (by rw [ht2.out]; exact hlt) h)
        obtain ⟨x, hx⟩ : ∃ x, xs.getD k 0 = x := ⟨_, rfl⟩
        obtain ⟨y, hy⟩ : ∃ y, ys.getD k 0 = y := ⟨_, rfl⟩
        rw [hx] at e1 s1 x1
        rw [hy] at e2 s2 x2
        clear hx hy hc1 hc2
        have hlt' : (k : Int) < (m : Int) := by omega
        by_cases hx : 0 ≤ x ∧ x ≤ p - 1
        · by_cases hy : 1 ≤ y ∧ y ≤ p - 1
          · have n1 : Hid (areB p (xs.take (k + 1)) = true) := hide (by rw [s1.out, hR.out]; simp [okN]; omega)
            have n2 : Hid (posB p (ys.take (k + 1)) = true) := hide (by rw [s2.out, hS.out]; simp [okP]; omega)
            have hbx := hide hx
            have hby := hide hy
            clear x1 x2 hx hy
            go_wp2
            go_quiet (first
              | (go_at_call 103; refine Calls.quiet_of_same (still_of (l01In_yes _ _ _ _ hbx.out.1 hbx.out.2)))
              | (go_at_call 103; refine Calls.quiet_of_same (still_of (l01In_yes _ _ _ _ hby.out.1 hby.out.2))))
            go_wp2
            go_roundw
            case rel => exact ⟨k + 1, by omega, by go_num, n1, n2, below_drewN hbr _⟩
            case measure => simp [intOf]; omega
          · have hF : Hid (jacB p xs ys = false) := hide (by rw [H.out, (x2 (by simp [okP]; omega)).out]; simp)
            have hbx := hide hx
            have hby := hide hy
            clear x1 x2 hx hy
            go_wp2
            go_quiet (first
              | (go_at_call 103; refine Calls.quiet_of_same (still_of (l01In_yes _ _ _ _ hbx.out.1 hbx.out.2)))
              | (go_at_call 103; refine Calls.quiet_of_same (still_of (l01In_no _ _ _ _ hby.out))))
            go_wp2
            go_ret
            exact ⟨ret_bool hF.out.symm, below_drewN hB _⟩
        · have hF : Hid (jacB p xs ys = false) := hide (by rw [H.out, (x1 (by simp [okN]; omega)).out]; simp)
          have hbx := hide hx
          clear x1 x2 hx
          go_wp2
          go_quiet (first
            | (go_at_call 103; refine Calls.quiet_of_same (still_of (l01In_no _ _ _ _ hbx.out))))
          go_wp2
          go_ret
          exact ⟨ret_bool hF.out.symm, below_drewN hB _⟩
      · obtain rfl : k = m := by omega
        have hF : Hid (jacB p xs ys = true) := hide (by
          have h1 := hR.out
          have h2 := hS.out
          rw [List.take_of_length_le (by rw [hl.out]; omega)] at h1
          rw [List.take_of_length_le (by rw [ht2.out]; omega)] at h2
          rw [H.out, h1, h2]; rfl)
        go_wp2
        go_ret
        exact ⟨ret_bool hF.out.symm, hB⟩
set_option maxRecDepth 100000 in
set_option maxHeartbeats 1600000 in
theorem implIsJacobi (p : Int) (a : Option Addr) (n c : Nat) (xs : List Int) (b : Option Addr) (m d : Nat) (ys : List Int) (w : World) (hs : SL w a n c xs) (ht : SL w b m d ys) (hn : n ≤ 4000000) (hm : m ≤ 4000000) :
    Calls Try.prog 80 #[jac p a n c b m d] w fun e w' => e = .returned (.bool (jacB p xs ys)) ∧ Below w.heap.size w w' := by
  have hl := hide hs.len
  have ht2 := hide ht.len
  have hb0 := bl1 w (.cells #[.int .i64 p, .slice a n c, .slice b m d] 38)
  have g1 := hs.below hb0
  have g2 := ht.below hb0
  cases hp : primeB p
  · have H : Hid (jacB p xs ys = false) := hide (by simp [jacB, hp])
    have Hp := hide hp
    clear hp
    go_enter Try.func80, Try.ntmps80
    go_wp2_with fail
    refine (isPrime_any _ _).mono ?_
    rintro e w1 ⟨rfl, rfl⟩
    rw [Hp.out]
    go_wp2
    go_ret
    exact ⟨ret_bool H.out.symm, hb0⟩
  have Hp := hide hp
  obtain ⟨hp1, hp2⟩ := primeB_lo hp
  clear hp
  by_cases hbad : (n : Int) < 1 ∨ 12 < (n : Int) ∨ (m : Int) ≠ (n : Int)
  · have H : Hid (jacB p xs ys = false) := hide (by
      cases hj : jacB p xs ys
      · rfl
      · have := jacB_rng hj
        rw [hl.out, ht2.out] at this
        omega)
    by_cases h1 : (n : Int) < 1
    · go_enter Try.func80, Try.ntmps80
      go_wp2_with fail
      refine (isPrime_any _ _).mono ?_
      rintro e w1 ⟨rfl, rfl⟩
      rw [Hp.out]
      go_wp2
      go_ret
      exact ⟨ret_bool H.out.symm, hb0⟩
    · by_cases h2 : 12 < (n : Int)
      · go_enter Try.func80, Try.ntmps80
        go_wp2_with fail
        refine (isPrime_any _ _).mono ?_
        rintro e w1 ⟨rfl, rfl⟩
        rw [Hp.out]
        go_wp2
        go_ret
        exact ⟨ret_bool H.out.symm, hb0⟩
      · have ob : ((m : Int) != (n : Int)) = true := by simp; omega
        go_enter Try.func80, Try.ntmps80
        go_wp2_with fail
        refine (isPrime_any _ _).mono ?_
        rintro e w1 ⟨rfl, rfl⟩
        rw [Hp.out]
        go_wp2
        go_ret
        exact ⟨ret_bool H.out.symm, hb0⟩
  · obtain ⟨h1, h2, h3⟩ : ¬ (n : Int) < 1 ∧ ¬ 12 < (n : Int) ∧ m = n := by omega
    clear hbad
    subst h3
    have H : Hid (jacB p xs ys = (areB p xs && areB p ys && !hasB 0 ys)) := hide (by
      unfold jacB
      rw [Hp.out, hl.out, ht2.out, posB_eq]
      simp [show 1 ≤ m by omega, show m ≤ 12 by omega, Bool.and_assoc])
    cases hx : areB p xs
    · have F := hide (show jacB p xs ys = false by rw [H.out, hx]; rfl)
      have Hx := hide hx
      clear hx
      go_enter Try.func80, Try.ntmps80
      go_wp2_with fail
      refine (isPrime_any _ _).mono ?_
      rintro e w1 ⟨rfl, rfl⟩
      rw [Hp.out]
      go_wp2_with fail
      refine (areNumbers_any _ _ _ _ _ _ g1 hn).mono ?_
      rintro e w1 ⟨rfl, rfl⟩
      rw [Hx.out]
      go_wp2
      go_ret
      exact ⟨ret_bool F.out.symm, hb0⟩
    cases hy : areB p ys
    · have F := hide (show jacB p xs ys = false by rw [H.out, hx, hy]; rfl)
      have Hx := hide hx
      have Hy := hide hy
      clear hx hy
      go_enter Try.func80, Try.ntmps80
      go_wp2_with fail
      refine (isPrime_any _ _).mono ?_
      rintro e w1 ⟨rfl, rfl⟩
      rw [Hp.out]
      go_wp2_with fail
      refine (areNumbers_any _ _ _ _ _ _ g1 hn).mono ?_
      rintro e w1 ⟨rfl, rfl⟩
      rw [Hx.out]
      go_wp2_with fail
      refine (areNumbers_any _ _ _ _ _ _ g2 hn).mono ?_
      rintro e w1 ⟨rfl, rfl⟩
      rw [Hy.out]
      go_wp2
      go_ret
      exact ⟨ret_bool F.out.symm, hb0⟩
    · have F := hide (show jacB p xs ys = !hasB 0 ys by rw [H.out, hx, hy]; rfl)
      have Hx := hide hx
      have Hy := hide hy
      clear hx hy
      go_enter Try.func80, Try.ntmps80
      go_wp2_with fail
      refine (isPrime_any _ _).mono ?_
      rintro e w1 ⟨rfl, rfl⟩
      rw [Hp.out]
      go_wp2_with fail
      refine (areNumbers_any _ _ _ _ _ _ g1 hn).mono ?_
      rintro e w1 ⟨rfl, rfl⟩
      rw [Hx.out]
      go_wp2_with fail
      refine (areNumbers_any _ _ _ _ _ _ g2 hn).mono ?_
      rintro e w1 ⟨rfl, rfl⟩
      rw [Hy.out]
      go_wp2_with fail
      refine (contains_any _ _ _ _ _ _ g2 hn).mono ?_
      rintro e w1 ⟨rfl, rfl⟩
      go_wp2
      go_ret
      exact ⟨ret_bool F.out.symm, hb0⟩
/-- The code for data and a number in lo..hi. -/
def jcd (p : Int) (xs ys : List Int) (k lo hi : Int) : Int := if jacB p xs ys then (if lo ≤ k ∧ k ≤ hi then 0 else 2) else 1
theorem jcd_cases (p : Int) (xs ys : List Int) (k lo hi : Int) : jcd p xs ys k lo hi = 1 ∨ jcd p xs ys k lo hi = 2 ∨ (jcd p xs ys k lo hi = 0 ∧ jacB p xs ys = true ∧ lo ≤ k ∧ k ≤ hi) := by
  unfold jcd
  cases jacB p xs ys
  · exact .inl rfl
  · by_cases h : lo ≤ k ∧ k ≤ hi
    · exact .inr (.inr ⟨by simp [h], rfl, h⟩)
    · exact .inr (.inl (by simp only [if_true]; rw [if_neg h]))
set_option maxRecDepth 100000 in
set_option maxHeartbeats 800000 in
theorem checkJacobi_any (p : Int) (a : Option Addr) (n c : Nat) (xs : List Int) (b : Option Addr) (m d : Nat) (ys : List Int) (k lo hi C : Int) (w : World) (hs : SL w a n c xs) (ht : SL w b m d ys) (hn : n ≤ 4000000) (hm : m ≤ 4000000) (hC : jcd p xs ys k lo hi = C) :
    Calls Try.prog 71 #[jac p a n c b m d, .int .i64 k, .int .i64 lo, .int .i64 hi] w fun e w' => e = .returned (.int .i64 C) ∧ Below w.heap.size w w' := by
  subst hC
  have hb0 := bl1 w (.cells #[.int .i64 p, .slice a n c, .slice b m d] 38)
  have g1 := hs.below hb0
  have g2 := ht.below hb0
  cases hj : jacB p xs ys
  · have H : Hid (jcd p xs ys k lo hi = 1) := hide (by simp [jcd, hj])
    have Hj := hide hj
    clear hj
    go_enter Try.func71, Try.ntmps71
    go_wp2_with fail
    refine (implIsJacobi _ _ _ _ _ _ _ _ _ _ g1 g2 hn hm).mono ?_
    rintro e w1 ⟨rfl, hb1⟩
    rw [Hj.out]
    go_wp2
    go_ret
    exact ⟨ret_int H.out.symm, bnext hb0 hb1⟩
  · have Hj := hide hj
    by_cases h1 : k < lo
    · have H : Hid (jcd p xs ys k lo hi = 2) := hide (by simp only [jcd, hj, if_true]; rw [if_neg (by omega)])
      clear hj
      go_enter Try.func71, Try.ntmps71
      go_wp2_with fail
      refine (implIsJacobi _ _ _ _ _ _ _ _ _ _ g1 g2 hn hm).mono ?_
      rintro e w1 ⟨rfl, hb1⟩
      rw [Hj.out]
      go_wp2
      go_ret
      exact ⟨ret_int H.out.symm, bnext hb0 hb1⟩
    · by_cases h2 : hi < k
      · have H : Hid (jcd p xs ys k lo hi = 2) := hide (by simp only [jcd, hj, if_true]; rw [if_neg (by omega)])
        clear hj
        go_enter Try.func71, Try.ntmps71
        go_wp2_with fail
        refine (implIsJacobi _ _ _ _ _ _ _ _ _ _ g1 g2 hn hm).mono ?_
        rintro e w1 ⟨rfl, hb1⟩
        rw [Hj.out]
        go_wp2
        go_ret
        exact ⟨ret_int H.out.symm, bnext hb0 hb1⟩
      · have H : Hid (jcd p xs ys k lo hi = 0) := hide (by simp only [jcd, hj, if_true]; rw [if_pos (by omega)])
        clear hj
        go_enter Try.func71, Try.ntmps71
        go_wp2_with fail
        refine (implIsJacobi _ _ _ _ _ _ _ _ _ _ g1 g2 hn hm).mono ?_
        rintro e w1 ⟨rfl, hb1⟩
        rw [Hj.out]
        go_wp2
        go_ret
        exact ⟨ret_int H.out.symm, bnext hb0 hb1⟩
theorem sizeOf_any (p : Int) (a : Option Addr) (n c : Nat) (b : Option Addr) (m d : Nat) (w : World) (hn : n ≤ 4000000) :
    Calls Try.prog 87 #[jac p a n c b m d] w fun e w' => e = .returned (.int .i64 n) ∧ Below w.heap.size w w' := by
  go_enter Try.func87, Try.ntmps87
  go_wp2
  go_ret
  exact ⟨rfl, bl1 _ _⟩
end Go.Proofs.Ytllcgoachgfpjaa
