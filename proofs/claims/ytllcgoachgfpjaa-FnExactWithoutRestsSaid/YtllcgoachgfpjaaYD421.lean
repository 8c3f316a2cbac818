/- Merged texts. -/
import Derived.Test.YtllcgoachgfpjaaYD43
import Derived.Test.YtllcgoachgfpjaaYD46
import Derived.Test.YtllcgoachgfpjaaYD411
import Derived.Test.YtllcgoachgfpjaaYD420
import Derived.Test.YtllcgoachgfpjaaYD41
import Derived.Maps.AppendAt
import Derived.Deep.AppendLies
/- Rules: strictly ascending lists; slices.IsSorted, areAscending, l07Is, IsRule (program and model). -/
namespace Go.Proofs.Ytllcgoachgfpjaa
open Go.RowKit
set_option linter.unusedVariables false
set_option linter.unusedSimpArgs false

theorem getD_memI' {l : List Int} {k : Nat} (h : k < l.length) : l.getD k 0 ∈ l := by
  rw [List.getD, List.getElem?_eq_getElem h]
  exact List.getElem_mem _
/-- Strictly ascending, and ascending. -/
def ascB (xs : List Int) : Bool := decide (xs.Pairwise (· < ·))
def sorB (xs : List Int) : Bool := decide (xs.Pairwise (· ≤ ·))
theorem asc_both (xs : List Int) : ascB xs = (sorB xs && difB xs) := by
  unfold ascB sorB difB
  rw [← Bool.decide_and]
  apply decide_eq_decide.2
  constructor
  · intro h
    exact ⟨h.imp (fun h => by omega), h.imp (fun h => by omega)⟩
  · rintro ⟨h1, h2⟩
    refine (h1.and h2).imp ?_
    rintro a b ⟨h3, h4⟩
    omega
/-- One number more. -/
theorem asc_snoc (xs : List Int) (k : Nat) (h : k < xs.length) (ha : ascB (xs.take k) = true) : ascB (xs.take (k + 1)) = (decide (k = 0) || decide (xs.getD (k - 1) 0 < xs.getD k 0)) := by
  unfold ascB at *
  rw [decide_eq_true_eq] at ha
  rw [take_snocI xs k h]
  rw [← Bool.decide_or]
  apply decide_eq_decide.2
  rw [List.pairwise_append]
  constructor
  · rintro ⟨_, _, h3⟩
    by_cases h0 : k = 0
    · exact .inl h0
    · refine .inr (h3 _ ?_ _ (by simp))
      have e : (xs.take k).getD (k - 1) 0 = xs.getD (k - 1) 0 := by
        rw [List.getD, List.getElem?_take, if_pos (by omega), List.getD]
      rw [← e]
      exact getD_memI' (by rw [List.length_take]; omega)
  · intro h1
    refine ⟨ha, by simp, fun a hm b hb => ?_⟩
    rw [List.mem_singleton] at hb
    subst hb
    rcases h1 with h1 | h1
    · subst h1; simp at hm
    · obtain ⟨i, hi, e⟩ := List.getElem_of_mem hm
      rw [List.length_take] at hi
      rw [List.getElem_take] at e
      by_cases hk : i = k - 1
      · have : xs.getD (k - 1) 0 = a := by rw [← e, List.getD, List.getElem?_eq_getElem (by omega)]; simp [hk]
        rw [← this]; exact h1
      · have hp := List.pairwise_iff_getElem.1 ha i (k - 1) (by rw [List.length_take]; omega) (by rw [List.length_take]; omega) (by omega)
        rw [List.getElem_take, List.getElem_take] at hp
        have e2 : xs.getD (k - 1) 0 = xs[k - 1] := by rw [List.getD, List.getElem?_eq_getElem (by omega)]; rfl
        rw [e2] at h1
        omega
theorem asc_false (xs : List Int) (k : Nat) (h : ascB (xs.take k) = false) : ascB xs = false := by
  unfold ascB at *
  rw [decide_eq_false_iff_not] at *
  exact fun q => h (List.Pairwise.sublist (List.take_sublist _ _) q)
theorem asc_lt {xs : List Int} (h : ascB xs = true) {i j : Nat} (hij : i < j) (hj : j < xs.length) : xs.getD i 0 < xs.getD j 0 := by
  unfold ascB at h
  rw [decide_eq_true_eq] at h
  have := List.pairwise_iff_getElem.1 h i j (by omega) hj hij
  rw [List.getD, List.getD, List.getElem?_eq_getElem hj, List.getElem?_eq_getElem (by omega)]
  exact this
/-- From the end: the numbers from k on are ascending. -/
theorem sor_drop (xs : List Int) (k : Nat) (h : k + 1 < xs.length) (ha : sorB (xs.drop (k + 1)) = true) : sorB (xs.drop k) = decide (xs.getD k 0 ≤ xs.getD (k + 1) 0) := by
  unfold sorB at *
  rw [decide_eq_true_eq] at ha
  apply decide_eq_decide.2
  rw [List.drop_eq_getElem_cons (show k < xs.length by omega), List.pairwise_cons]
  have e1 : xs.getD k 0 = xs[k] := by rw [List.getD, List.getElem?_eq_getElem (by omega)]; rfl
  have e2 : xs.getD (k + 1) 0 = xs[k + 1] := by rw [List.getD, List.getElem?_eq_getElem h]; rfl
  rw [e1, e2]
  rw [List.drop_eq_getElem_cons h] at ha ⊢
  rw [List.pairwise_cons] at ha
  constructor
  · rintro ⟨h1, _⟩
    exact h1 _ List.mem_cons_self
  · intro h1
    refine ⟨fun b hb => ?_, by rw [List.pairwise_cons]; exact ha⟩
    rw [List.mem_cons] at hb
    rcases hb with rfl | hb
    · exact h1
    · exact Int.le_trans h1 (ha.1 b hb)
theorem sor_last (xs : List Int) (k : Nat) (h : xs.length ≤ k + 1) : sorB (xs.drop k) = true := by
  unfold sorB
  rw [decide_eq_true_eq]
  have : (xs.drop k).length ≤ 1 := by rw [List.length_drop]; omega
  match h : xs.drop k with
  | [] => simp
  | [a] => simp
  | a :: b :: l => rw [h] at this; simp at this
theorem sor_false (xs : List Int) (k : Nat) (h : sorB (xs.drop k) = false) : sorB xs = false := by
  unfold sorB at *
  rw [decide_eq_false_iff_not] at *
  exact fun q => h (List.Pairwise.sublist (List.drop_sublist _ _) q)

def rulB (p : Int) (xs ys : List Int) : Bool := lisB p xs 0 24 && (lisB p ys xs.length xs.length && ascB xs)
theorem rulB_rng {p : Int} {xs ys : List Int} (h : rulB p xs ys = true) : primeB p = true ∧ xs.length ≤ 24 ∧ ys.length = xs.length ∧ areB p xs = true ∧ areB p ys = true ∧ ascB xs = true := by
  unfold rulB at h
  simp only [Bool.and_eq_true] at h
  obtain ⟨h1, _, h2, h3⟩ := lisB_rng h.1
  obtain ⟨_, h4, h5, h6⟩ := lisB_rng h.2.1
  exact ⟨h1, by omega, by omega, h3, h6, h.2.2⟩
theorem rulB_mk {p : Int} {xs ys : List Int} (h1 : primeB p = true) (h2 : xs.length ≤ 24) (h3 : ys.length = xs.length) : rulB p xs ys = (areB p xs && areB p ys && ascB xs) := by
  unfold rulB lisB
  rw [h1, h3]
  simp [show (xs.length : Int) ≤ 24 by omega, Bool.and_assoc]
set_option maxHeartbeats 400000 in
theorem isNaN_any (x : Int) (w : World) : Calls Try.prog 128 #[.int .i64 x] w fun e w' => e = .returned (.bool false) ∧ w = w' := by
  go_enter Try.func128, Try.ntmps128
  go_wp2
  go_ret
  first | exact ⟨rfl, rfl⟩ | simp
set_option maxHeartbeats 800000 in
theorem less_any (x y : Int) (b : Bool) (w : World) (hb : decide (x < y) = b) : Calls Try.prog 130 #[.int .i64 x, .int .i64 y] w fun e w' => e = .returned (.bool b) ∧ w = w' := by
  subst hb
  go_enter Try.func130, Try.ntmps130
  go_wp2_with fail
  refine (isNaN_any _ _).mono ?_
  rintro e w1 ⟨rfl, rfl⟩
  go_wp2
  go_ret
  exact ⟨rfl, rfl⟩
set_option maxRecDepth 100000 in
set_option maxHeartbeats 1600000 in
theorem isSorted_any (a : Option Addr) (n c : Nat) (xs : List Int) (w : World) (hs : SL w a n c xs) (hn : n ≤ 4000000) :
    Calls Try.prog 119 #[.slice a n c] w fun e w' => e = .returned (.bool (sorB xs)) ∧ Below w.heap.size w w' := by
  have hl := hide hs.len
  by_cases h0 : n = 0
  · subst h0
    have hF := hide (show sorB xs = true from sor_last xs 0 (by rw [hl.out]; omega))
    go_enter Try.func119, Try.ntmps119
    go_wp2
    refine wp_loop_rounds 1 ?_
    rw [rounds_succ]
    go_wp2
    go_ret
    exact ⟨ret_bool hF.out.symm, Below.refl _ _⟩
  obtain ⟨b, off, rfl, hbw, hc⟩ := hs.at (by omega)
  have v0 : IntKind.i64.wrap ((n : Int) - 1) = ((n - 1 : Nat) : Int) := by rw [IntWalk.i64_in _ (by omega)]; omega
  have H0 := hide (show sorB (xs.drop (n - 1)) = true from sor_last xs (n - 1) (by rw [hl.out]; omega))
  clear hs
  go_enter Try.func119, Try.ntmps119
  go_wp2
  clear v0
  go_loopw [3] (fun iv wr => ∃ k : Nat, k < n ∧ iv = .int .i64 k ∧ Hid (sorB (xs.drop k) = true) ∧ Below w.heap.size w wr) (fun iv _ => (intOf iv).toNat)
  case atStart => exact ⟨n - 1, by omega, rfl, H0, Below.refl _ _⟩
  case round =>
    obtain ⟨k, hk, rfl, hS, hbr⟩ := hrel
    clear H0
    by_cases hpos : 0 < k
    · have hpos' : (0 : Int) < (k : Int) := by omega
      have e1 : wr.cell? ⟨b, off + k, none⟩ = some (.int .i64 (xs.getD k 0)) := (hbr.cell hbw).trans (hc k hk)
      have e2 : wr.cell? ⟨b, off + (k - 1), none⟩ = some (.int .i64 (xs.getD (k - 1) 0)) := (hbr.cell hbw).trans (hc (k - 1) (by omega))
      have st := hide (sor_drop xs (k - 1) (by rw [hl.out]; omega) (by rw [Nat.sub_add_cancel hpos]; exact hS.out))
      have sf := fun h => hide (sor_false xs (k - 1) h)
      rw [Nat.sub_add_cancel hpos] at st
      obtain ⟨x, hx⟩ : ∃ x, xs.getD k 0 = x := ⟨_, rfl⟩
      obtain ⟨y, hy⟩ : ∃ y, xs.getD (k - 1) 0 = y := ⟨_, rfl⟩
      rw [hx] at e1 st
      rw [hy] at e2 st
      have q1 : (0 : Int) ≤ (k : Int) - 1 := by omega
      have q2 : (k : Int) - 1 < (n : Int) := by omega
      have q3 : ((k : Int) - 1).toNat = k - 1 := by omega
      have q4 : IntKind.i64.wrap ((k : Int) - 1) = (k : Int) - 1 := IntWalk.i64_in _ (by omega)
      have q5 : (k : Int) < (n : Int) := by omega
      clear hx hy hc
      by_cases hlt : x < y
      · have hF := sf (by rw [st.out]; simp; omega)
        have hd := hide (decide_eq_true hlt)
        clear sf hlt
        go_wp2
        go_quiet (first
          | (go_at_call 130; refine Calls.quiet_of_same (still_of (less_any _ _ _ _ hd.out))))
        go_wp2
        go_ret
        exact ⟨ret_bool hF.out.symm, below_drewN hbr _⟩
      · have hN := hide (show sorB (xs.drop (k - 1)) = true by rw [st.out]; simp; omega)
        have hd := hide (decide_eq_false hlt)
        clear sf hlt
        go_wp2
        go_quiet (first
          | (go_at_call 130; refine Calls.quiet_of_same (still_of (less_any _ _ _ _ hd.out))))
        go_wp2
        go_roundw
        case rel => exact ⟨k - 1, by omega, by go_num, hN, below_drewN hbr _⟩
        case measure => simp [intOf]; omega
    · obtain rfl : k = 0 := by omega
      have hF := hide (show sorB xs = true from hS.out)
      go_wp2
      go_ret
      exact ⟨ret_bool hF.out.symm, hbr⟩
set_option maxHeartbeats 800000 in
theorem areAscending_any (a : Option Addr) (n c : Nat) (xs : List Int) (w : World) (hs : SL w a n c xs) (hn : n ≤ 1000) (hxs : ∀ y ∈ xs, (Lit.int .i64 y).wf = true) :
    Calls Try.prog 96 #[.slice a n c] w fun e w' => e = .returned (.bool (ascB xs)) ∧ Below w.heap.size w w' := by
  have HF := hide (asc_both xs)
  cases hS : sorB xs
  · have H := hide (show ascB xs = false by rw [HF.out, hS]; rfl)
    have HS := hide hS
    clear hS
    go_enter Try.func96, Try.ntmps96
    go_wp2_with fail
    refine (isSorted_any _ _ _ xs _ hs (by omega)).mono ?_
    rintro e w1 ⟨rfl, t1⟩
    rw [HS.out]
    go_wp2
    go_ret
    exact ⟨ret_bool H.out.symm, t1⟩
  · have H := hide (show ascB xs = difB xs by rw [HF.out, hS]; rfl)
    have HS := hide hS
    clear hS
    go_enter Try.func96, Try.ntmps96
    go_wp2_with fail
    refine (isSorted_any _ _ _ xs _ hs (by omega)).mono ?_
    rintro e w1 ⟨rfl, t1⟩
    rw [HS.out]
    go_wp2_with fail
    refine (areDifferent_any _ _ _ xs _ (hs.below t1) hn hxs).mono ?_
    rintro e w2 ⟨rfl, t2⟩
    go_wp2
    go_ret
    exact ⟨ret_bool H.out.symm, bnext t1 t2⟩
set_option maxRecDepth 100000 in
set_option maxHeartbeats 1600000 in
theorem implIsRule (p : Int) (a : Option Addr) (n c : Nat) (xs : List Int) (b : Option Addr) (m d : Nat) (ys : List Int) (w : World) (hs : SL w a n c xs) (ht : SL w b m d ys) (hn : n ≤ 4000000) (hm : m ≤ 4000000) :
    Calls Try.prog 89 #[jac p a n c b m d] w fun e w' => e = .returned (.bool (rulB p xs ys)) ∧ Below w.heap.size w w' := by
  have hl := hide hs.len
  have hb0 := bl1 w (.cells #[.int .i64 p, .slice a n c, .slice b m d] 56)
  have g1 := hs.below hb0
  have g2 := ht.below hb0
  cases hL : lisB p xs 0 24
  · have H := hide (show rulB p xs ys = false by unfold rulB; rw [hL]; rfl)
    have HL := hide hL
    clear hL
    go_enter Try.func89, Try.ntmps89
    go_wp2_with fail
    refine (isListFor_any p _ _ _ xs 0 24 _ g1 hn).mono ?_
    rintro e w1 ⟨rfl, rfl⟩
    rw [HL.out]
    go_wp2
    go_ret
    exact ⟨ret_bool H.out.symm, hb0⟩
  obtain ⟨hpr, _, hn2, hA⟩ := lisB_rng hL
  obtain ⟨hp, hp2⟩ := primeB_lo hpr
  have HL := hide hL
  have hn24 : n ≤ 24 := by have := hl.out; omega
  have Hw := hide (areB_wf hp2 hA)
  cases hM : lisB p ys n n
  · have H := hide (show rulB p xs ys = false by unfold rulB; rw [hl.out, hM]; simp)
    have HM := hide hM
    clear hM hL hA hpr
    go_enter Try.func89, Try.ntmps89
    go_wp2_with fail
    refine (isListFor_any p _ _ _ xs 0 24 _ g1 hn).mono ?_
    rintro e w1 ⟨rfl, rfl⟩
    rw [HL.out]
    go_wp2_with fail
    refine (isListFor_any p _ _ _ ys n n _ g2 hm).mono ?_
    rintro e w1 ⟨rfl, rfl⟩
    rw [HM.out]
    go_wp2
    go_ret
    exact ⟨ret_bool H.out.symm, hb0⟩
  · have H := hide (show rulB p xs ys = ascB xs by unfold rulB; rw [hl.out, hM, hL]; rfl)
    have HM := hide hM
    clear hM hL hA hpr
    go_enter Try.func89, Try.ntmps89
    go_wp2_with fail
    refine (isListFor_any p _ _ _ xs 0 24 _ g1 hn).mono ?_
    rintro e w1 ⟨rfl, rfl⟩
    rw [HL.out]
    go_wp2_with fail
    refine (isListFor_any p _ _ _ ys n n _ g2 hm).mono ?_
    rintro e w1 ⟨rfl, rfl⟩
    rw [HM.out]
    go_wp2_with fail
    refine (areAscending_any _ _ _ xs _ g1 (by omega) Hw.out).mono ?_
    rintro e w2 ⟨rfl, t2⟩
    go_wp2
    go_ret
    exact ⟨ret_bool H.out.symm, bnext hb0 t2⟩
set_option maxRecDepth 100000 in
set_option maxHeartbeats 3200000 in
theorem l07Is_any (p : Int) (a : Option Addr) (n c : Nat) (xs : List Int) (b : Option Addr) (m d : Nat) (ys : List Int) (w : World) (hs : SL w a n c xs) (ht : SL w b m d ys) (hn : n ≤ 4000000) (hm : m ≤ 4000000) :
    Calls Try.prog 88 #[jac p a n c b m d] w fun e w' => e = .returned (.bool (rulB p xs ys)) ∧ Below w.heap.size w w' := by
  have hl := hide hs.len
  have ht2 := hide ht.len
  have hb0 := bl1 w (.cells #[.int .i64 p, .slice a n c, .slice b m d] 56)
  have g1 := hs.below hb0
  have g2 := ht.below hb0
  cases hp : primeB p
  · have H : Hid (rulB p xs ys = false) := hide (by simp [rulB, lisB, hp])
    have Hp := hide hp
    clear hp
    go_enter Try.func88, Try.ntmps88
    go_wp2_with fail
    refine (l01Prime_any _ _).mono ?_
    rintro e w1 ⟨rfl, rfl⟩
    rw [Hp.out]
    go_wp2
    go_ret
    exact ⟨ret_bool H.out.symm, hb0⟩
  have Hp := hide hp
  obtain ⟨hp1, hp2⟩ := primeB_lo hp
  clear hp
  by_cases hbad : 24 < (n : Int) ∨ (m : Int) ≠ (n : Int)
  · have H : Hid (rulB p xs ys = false) := hide (by
      cases hj : rulB p xs ys
      · rfl
      · have := rulB_rng hj
        rw [hl.out, ht2.out] at this
        omega)
    by_cases h2 : 24 < (n : Int)
    · go_enter Try.func88, Try.ntmps88
      go_wp2_with fail
      refine (l01Prime_any _ _).mono ?_
      rintro e w1 ⟨rfl, rfl⟩
      rw [Hp.out]
      go_wp2
      go_ret
      exact ⟨ret_bool H.out.symm, hb0⟩
    · have ob : ((m : Int) != (n : Int)) = true := by simp; omega
      go_enter Try.func88, Try.ntmps88
      go_wp2_with fail
      refine (l01Prime_any _ _).mono ?_
      rintro e w1 ⟨rfl, rfl⟩
      rw [Hp.out]
      go_wp2
      go_ret
      exact ⟨ret_bool H.out.symm, hb0⟩
  obtain ⟨h2, h3⟩ : ¬ 24 < (n : Int) ∧ m = n := by omega
  clear hbad
  subst h3
  have H : Hid (rulB p xs ys = (areB p xs && areB p ys && ascB xs)) := hide (rulB_mk Hp.out (by rw [hl.out]; omega) (by rw [hl.out, ht2.out]))
  by_cases h0 : m = 0
  · subst h0
    have hF : Hid (rulB p xs ys = true) := hide (by
      have e1 := List.eq_nil_of_length_eq_zero hl.out
      have e2 := List.eq_nil_of_length_eq_zero ht2.out
      rw [H.out, e1, e2]; rfl)
    go_enter Try.func88, Try.ntmps88
    go_wp2_with fail
    refine (l01Prime_any _ _).mono ?_
    rintro e w1 ⟨rfl, rfl⟩
    rw [Hp.out]
    go_wp2
    refine wp_loop_rounds 1 ?_
    rw [rounds_succ]
    go_wp2
    go_ret
    exact ⟨ret_bool hF.out.symm, hb0⟩
  obtain ⟨b1, o1, rfl, hbw1, hc1⟩ := g1.at (by omega)
  obtain ⟨b2, o2, rfl, hbw2, hc2⟩ := g2.at (by omega)
  clear hs ht g1 g2
  go_enter Try.func88, Try.ntmps88
  go_wp2_with fail
  refine (l01Prime_any _ _).mono ?_
  rintro e w1 ⟨rfl, rfl⟩
  rw [Hp.out]
  go_wp2
  go_loopw [3] (fun i wr => ∃ k : Nat, k ≤ m ∧ i = .int .i64 k ∧ Hid (areB p (xs.take k) = true) ∧ Hid (areB p (ys.take k) = true) ∧ Hid (ascB (xs.take k) = true) ∧ Below (w.heap.size + 1) (w.alloc (.cells #[.int .i64 p, .slice (some ⟨b1, o1, none⟩) m c, .slice (some ⟨b2, o2, none⟩) m d] 56)) wr) (fun i _ => m - (intOf i).toNat)
  case atStart => exact ⟨0, by omega, rfl, by simp [Hid, areB], by simp [Hid, areB], hide (by simp [ascB]), Below.refl _ _⟩
  case round =>
    obtain ⟨k, hk, rfl, hR, hS, hQ, hbr⟩ := hrel
    have f0 : wr.cell? ⟨w.heap.size, 0, none⟩ = some (.int .i64 p) := (hbr.cell (by simp)).trans (by simp [go_sem])
    have f1 : wr.cell? ⟨w.heap.size, 1, none⟩ = some (.slice (some ⟨b1, o1, none⟩) m c) := (hbr.cell (by simp)).trans (by simp [go_sem])
    have f2 : wr.cell? ⟨w.heap.size, 2, none⟩ = some (.slice (some ⟨b2, o2, none⟩) m d) := (hbr.cell (by simp)).trans (by simp [go_sem])
    have hB := hb0.trans (hbr.mono (Nat.le_succ _))
    by_cases hlt : k < m
    · have e1 : wr.cell? ⟨b1, o1 + k, none⟩ = some (.int .i64 (xs.getD k 0)) := (hbr.cell (by simpa using hbw1)).trans (hc1 k hlt)
      have e2 : wr.cell? ⟨b2, o2 + k, none⟩ = some (.int .i64 (ys.getD k 0)) := (hbr.cell (by simpa using hbw2)).trans (hc2 k hlt)
      have e3 : wr.cell? ⟨b1, o1 + (k - 1), none⟩ = some (.int .i64 (xs.getD (k - 1) 0)) := (hbr.cell (by simpa using hbw1)).trans (hc1 (k - 1) (by omega))
      have s1 := Lib.hid (areB_snoc p xs k (by rw [hl.out]; exact hlt))
      have s2 := Lib.hid (areB_snoc p ys k (by rw [ht2.out]; exact hlt))
      have s3 := Lib.hid (asc_snoc xs k (by rw [hl.out]; exact hlt) hQ.out)
      have x1 := fun h => Lib.hid (areB_false p xs k (by rw [hl.out]; exact hlt) h)
      have x2 := fun h => Lib.hid (areB_false p ys k (by rw [ht2.out]; exact hlt) h)
      have x3 := fun h => Lib.hid (asc_false xs (k + 1) h)
      obtain ⟨x, hx⟩ : ∃ x, xs.getD k 0 = x := ⟨_, rfl⟩
      obtain ⟨y, hy⟩ : ∃ y, ys.getD k 0 = y := ⟨_, rfl⟩
      obtain ⟨z, hz⟩ : ∃ z, xs.getD (k - 1) 0 = z := ⟨_, rfl⟩
      rw [hx] at e1 s1 x1 s3
      rw [hy] at e2 s2 x2
      rw [hz] at e3 s3
      clear hx hy hz hc1 hc2
      have hlt' : (k : Int) < (m : Int) := by omega
      have hk0 : (0 : Int) ≤ (k : Int) := by omega
      by_cases hx : 0 ≤ x ∧ x ≤ p - 1
      rotate_left
      · have hF : Hid (rulB p xs ys = false) := hide (by rw [H.out, (x1 (by simp [okN]; omega)).out]; simp)
        have hbx := hide hx
        clear x1 x2 x3 hx s1 s2 s3
        go_wp2
        go_quiet (first
          | (go_at_call 103; refine Calls.quiet_of_same (still_of (l01In_no _ _ _ _ hbx.out))))
        go_wp2
        go_ret
        exact ⟨ret_bool hF.out.symm, below_drewN hB _⟩
      by_cases hy : 0 ≤ y ∧ y ≤ p - 1
      rotate_left
      · have hF : Hid (rulB p xs ys = false) := hide (by rw [H.out, (x2 (by simp [okN]; omega)).out]; simp)
        have hbx := hide hx
        have hby := hide hy
        clear x1 x2 x3 hx hy s1 s2 s3
        go_wp2
        go_quiet (first
          | (go_at_call 103; refine Calls.quiet_of_same (still_of (l01In_yes _ _ _ _ hbx.out.1 hbx.out.2)))
          | (go_at_call 103; refine Calls.quiet_of_same (still_of (l01In_no _ _ _ _ hby.out))))
        go_wp2
        go_ret
        exact ⟨ret_bool hF.out.symm, below_drewN hB _⟩
      have n1 : Hid (areB p (xs.take (k + 1)) = true) := hide (by rw [s1.out, hR.out]; simp [okN]; omega)
      have n2 : Hid (areB p (ys.take (k + 1)) = true) := hide (by rw [s2.out, hS.out]; simp [okN]; omega)
      have hbx := hide hx
      have hby := hide hy
      clear x1 x2 hx hy s1 s2
      by_cases hz : k = 0
      · subst hz
        have n3 : Hid (ascB (xs.take (0 + 1)) = true) := hide (by rw [s3.out]; rfl)
        clear s3 x3 e3
        have hq : decide ((0 : Int) < ((0 : Nat) : Int)) = false := by decide
        have hlt0 : (0 : Int) < (m : Int) := by omega
        rw [Nat.add_zero] at e1 e2
        go_wp2
        go_quiet (first
          | (go_at_call 103; refine Calls.quiet_of_same (still_of (l01In_yes _ _ _ _ hbx.out.1 hbx.out.2)))
          | (go_at_call 103; refine Calls.quiet_of_same (still_of (l01In_yes _ _ _ _ hby.out.1 hby.out.2))))
        go_wp2
        go_roundw
        case rel => exact ⟨0 + 1, by omega, by go_num, n1, n2, n3, below_drewN hbr _⟩
        case measure => simp [intOf]; omega
      have q1 : (0 : Int) ≤ (k : Int) - 1 := by omega
      have q2 : (k : Int) - 1 < (m : Int) := by omega
      have q3 : ((k : Int) - 1).toNat = k - 1 := by omega
      have q4 : IntKind.i64.wrap ((k : Int) - 1) = (k : Int) - 1 := IntWalk.i64_in _ (by omega)
      have q5 : (0 : Int) < (k : Int) := by omega
      have q6 : 0 < k := by omega
      by_cases hxz : x ≤ z
      · have hF : Hid (rulB p xs ys = false) := hide (by rw [H.out, (x3 (by rw [s3.out]; simp; omega)).out]; simp)
        clear s3 x3
        go_wp2
        go_quiet (first
          | (go_at_call 103; refine Calls.quiet_of_same (still_of (l01In_yes _ _ _ _ hbx.out.1 hbx.out.2)))
          | (go_at_call 103; refine Calls.quiet_of_same (still_of (l01In_yes _ _ _ _ hby.out.1 hby.out.2))))
        go_wp2
        go_ret
        exact ⟨ret_bool hF.out.symm, below_drewN hB _⟩
      · have n3 : Hid (ascB (xs.take (k + 1)) = true) := hide (by rw [s3.out]; simp; omega)
        clear s3 x3
        go_wp2
        go_quiet (first
          | (go_at_call 103; refine Calls.quiet_of_same (still_of (l01In_yes _ _ _ _ hbx.out.1 hbx.out.2)))
          | (go_at_call 103; refine Calls.quiet_of_same (still_of (l01In_yes _ _ _ _ hby.out.1 hby.out.2))))
        go_wp2
        go_roundw
        case rel => exact ⟨k + 1, by omega, by go_num, n1, n2, n3, below_drewN hbr _⟩
        case measure => simp [intOf]; omega
    · obtain rfl : k = m := by omega
      have hF : Hid (rulB p xs ys = true) := hide (by
        have h1 := hR.out
        have h2 := hS.out
        have h3 := hQ.out
        rw [List.take_of_length_le (by rw [hl.out]; omega)] at h1 h3
        rw [List.take_of_length_le (by rw [ht2.out]; omega)] at h2
        rw [H.out, h1, h2, h3]; rfl)
      go_wp2
      go_ret
      exact ⟨ret_bool hF.out.symm, hB⟩
end Go.Proofs.Ytllcgoachgfpjaa
/- An append of one number by laws that say where the new row lies (in a plain region, at an operation, at a step of a region that draws). -/
namespace Go.Proofs.Ytllcgoachgfpjaa
open Go.RowKit
set_option linter.unusedVariables false
set_option linter.unusedSimpArgs false
set_option maxRecDepth 100000 in
/-- An append of one number onto an owned row of numbers: only that row and new blocks turn. -/
theorem op_app1 {w : World} {o : Oper} {a : Act} {K : Act → World → Prop} {Q : Exit → Act → World → Prop}
    (s x : Operand) (ho : o.op = .call { callee := .builtin .append, args := #[s, x], argTypes := #[22, 22] })
    (B : Nat) (ad : Option Addr) (n cap : Nat) (ys : List Int) (hs : a.eval s = .slice ad n cap) (hn : n = ys.length) (hown : Own B w ad cap ys)
    (ax : Addr) (c : Nat) (z : Int) (hx : a.eval x = .slice (some ax) 1 c) (hz : w.cell? ax = some (.int .i64 z)) (hmax : n + 1 ≤ 4000000) (hB : B ≤ w.heap.size)
    (hK : ∀ ad' cap' w', Own B w' ad' cap' (ys ++ [z]) → w.grownBy w' (blk ad) → (blk ad' = blk ad ∨ blk ad' = some w.heap.size) → K (a.put o.dst (.slice ad' (ys ++ [z]).length cap')) w') :
    o.wp Try.prog a w K Q := by
  subst hn
  obtain ⟨i0, hi, hz0, hz1, hz2⟩ := info_parts infoI
  have hnews : ∀ j u, [Value.int .i64 z][j]? = some u → w.cell? (ax.add j) = some u := by
    intro j u hj
    cases j with
    | zero =>
      simp at hj
      subst hj
      have : ax.add 0 = ax := by cases ax; simp [Addr.add]
      rw [this]; exact hz
    | succ j => simp at hj
  have h1 : ∀ u ∈ [Value.int .i64 z], u.oneCell' = true := by
    intro u hu
    simp at hu
    subst hu
    rfl
  obtain ⟨v', w1, hr, hown', hgrow, _, hloc⟩ := run_append_own_at (P := Try.prog) w B 22 o.type 2 i0 (.int .i64 0) 1 8 Try.underlying22 hi hz0 hz1 hz2 rfl (by decide) _ _ _ hown ax 1 c [.int .i64 z] rfl hnews h1 (by unfold maxLen; omega) (by omega) hB
  have hb1 : ∀ (ad : Option Addr) (n c : Nat), (Value.slice ad n c).ownBlock = blk ad := fun ad n c => by cases ad <;> rfl
  rw [hb1] at hgrow hloc
  have hv : ∃ ad' cap', v' = .slice ad' (ys ++ [z]).length cap' := by
    rcases hown'.2 with ⟨h1, h2⟩ | ⟨g, c', cur, h1, h2⟩
    · exact ⟨none, 0, by rw [h1]; congr 1; simp; omega⟩
    · exact ⟨_, c', by rw [h1]; congr 1; simp⟩
  obtain ⟨ad', cap', rfl⟩ := hv
  rw [hb1] at hloc
  unfold Oper.wp execOp
  simp only [ho, resolve, invoke, builtin, Sem.run_bind, Sem.run_pure, Result.andThen_ok, List.map_toArray, List.map_cons, List.map_nil, hs, hx, hr]
  refine hK ad' cap' w1 ?_ hgrow hloc
  unfold Own
  have e : (ys ++ [z]).length = ys.length + 1 := by simp
  rw [List.map_append]
  rw [e] at hown' ⊢
  exact hown'
theorem wp_app1 {w : World} {ops : Array Oper} {rest : List Oper} {o : Oper} {a : Act} {Q : Exit → Act → World → Prop}
    (hgd : o.guard = none) (s x : Operand) (ho : o.op = .call { callee := .builtin .append, args := #[s, x], argTypes := #[22, 22] })
    (B : Nat) (ad : Option Addr) (n cap : Nat) (ys : List Int) (hs : a.eval s = .slice ad n cap) (hn : n = ys.length) (hown : Own B w ad cap ys)
    (ax : Addr) (c : Nat) (z : Int) (hx : a.eval x = .slice (some ax) 1 c) (hz : w.cell? ax = some (.int .i64 z)) (hmax : n + 1 ≤ 4000000) (hB : B ≤ w.heap.size)
    (hK : ∀ ad' cap' w', Own B w' ad' cap' (ys ++ [z]) → w.grownBy w' (blk ad) → (blk ad' = blk ad ∨ blk ad' = some w.heap.size) → wpList Try.prog ops Q rest (a.put o.dst (.slice ad' (ys ++ [z]).length cap')) w') :
    wpList Try.prog ops Q (o :: rest) a w :=
  wpList_plain hgd fun K hK' => op_app1 s x ho B ad n cap ys hs hn hown ax c z hx hz hmax hB fun ad' cap' w' h1 h2 h3 => hK' _ _ (hK ad' cap' w' h1 h2 h3)
theorem step_app1 {w : World} {ops : Array Oper} {o : Oper} {a : Act} {K : Act → World → Prop} {Q : Exit → Act → World → Prop} {E : Prop}
    (hgd : o.guard = none) (s x : Operand) (ho : o.op = .call { callee := .builtin .append, args := #[s, x], argTypes := #[22, 22] })
    (B : Nat) (ad : Option Addr) (n cap : Nat) (ys : List Int) (hs : a.eval s = .slice ad n cap) (hn : n = ys.length) (hown : Own B w ad cap ys)
    (ax : Addr) (c : Nat) (z : Int) (hx : a.eval x = .slice (some ax) 1 c) (hz : w.cell? ax = some (.int .i64 z)) (hmax : n + 1 ≤ 4000000) (hB : B ≤ w.heap.size)
    (hK : ∀ ad' cap' w', Own B w' ad' cap' (ys ++ [z]) → w.grownBy w' (blk ad) → (blk ad' = blk ad ∨ blk ad' = some w.heap.size) → K (a.put o.dst (.slice ad' (ys ++ [z]).length cap')) w') :
    if Region.wanted o (yielded ops a.tmps) = true then Oper.wp Try.prog o a w K Q else E := by
  have hw : Region.wanted o (yielded ops a.tmps) = true := by simp [Region.wanted, hgd]
  rw [if_pos hw]
  exact op_app1 s x ho B ad n cap ys hs hn hown ax c z hx hz hmax hB hK
theorem own_blk_ge {B : Nat} {w : World} {a : Option Addr} {c : Nat} {ys : List Int} (h : Own B w a c ys) : ∀ g, blk a = some g → B ≤ g := fun g hg => by
  rcases h.shape with ⟨rfl, _, _⟩ | ⟨g', cur, rfl, hB, _⟩
  · cases hg
  · cases hg; exact hB
theorem grown_row {w w1 w2 : World} {g : Nat} {row : Option Nat} (h : w.grownBy w1 (some g)) (k : w1.grownBy w2 row) (hr : ∀ b, row = some b → w.heap.size ≤ b) : w.grownBy w2 (some g) :=
  ⟨k.os.trans h.os, k.tape.trans h.tape, k.output.trans h.output, Nat.le_trans h.size k.size, fun i hi hne => (k.block i (Nat.lt_of_lt_of_le hi h.size) (fun e => by have := hr i e.symm; omega)).trans (h.block i hi hne)⟩
theorem Own.gk {B : Nat} {w w' : World} {a : Option Addr} {c g : Nat} {ys : List Int} (h : Own B w a c ys) (hg : w.grownBy w' (some g)) (hB : g < B) : Own B w' a c ys :=
  h.keep hg (fun b hb e => by have := own_blk_ge h b hb; cases e; omega)
end Go.Proofs.Ytllcgoachgfpjaa
