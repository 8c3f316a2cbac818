/- Merged texts. -/
import Derived.Test.YtkpmonopjkjflaaYC23
import Derived.Test.YtkpmonopjkjflaaYC26
import Derived.Test.YtkpmonopjkjflaaYC211
import Derived.Test.YtkpmonopjkjflaaYC220
import Derived.Test.YtkpmonopjkjflaaYC219
/- Rules: strictly ascending lists; slices.IsSorted, areAscending, l07Is, IsRule (program and model). -/
namespace Go.Proofs.Ytkpmonopjkjflaa
open Go.RowKit
set_option linter.unusedVariables false
set_option linter.unusedSimpArgs false

theorem getD_memI' {l : List Int} {k : Nat} (h : k < l.length) : l.getD k 0 ∈ l := by
  rw [List.getD, List.getElem?_eq_getElem h]
  exact List.getElem_mem _
/-- Strictly ascending, and ascending. -/
def ascB (xs : List Int) : Bool := decide (xs.Pairwise (· < ·))
def sorB (xs : List Int) : Bool := decide (xs.Pairwise (· ≤ ·))
theorem asc_both (xs : List Int) : ascB xs = (sorB xs && difB xs) := by
  unfold ascB sorB difB
  rw [← Bool.decide_and]
  apply decide_eq_decide.2
  constructor
  · intro h
    exact ⟨h.imp (fun h => by omega), h.imp (fun h => by omega)⟩
  · rintro ⟨h1, h2⟩
    refine (h1.and h2).imp ?_
    rintro a b ⟨h3, h4⟩
    omega
/-- One number more. -/
theorem asc_snoc (xs : List Int) (k : Nat) (h : k < xs.length) (ha : ascB (xs.take k) = true) : ascB (xs.take (k + 1)) = (decide (k = 0) || decide (xs.getD (k - 1) 0 < xs.getD k 0)) := by
  unfold ascB at *
  rw [decide_eq_true_eq] at ha
  rw [take_snocI xs k h]
  rw [← Bool.decide_or]
  apply decide_eq_decide.2
  rw [List.pairwise_append]
  constructor
  · rintro ⟨_, _, h3⟩
    by_cases h0 : k = 0
    · exact .inl h0
    · refine .inr (h3 _ ?_ _ (by simp))
      have e : (xs.take k).getD (k - 1) 0 = xs.getD (k - 1) 0 := by
        rw [List.getD, List.getElem?_take, if_pos (by omega), List.getD]
      rw [← e]
      exact getD_memI' (by rw [List.length_take]; omega)
  · intro h1
    refine ⟨ha, by simp, fun a hm b hb => ?_⟩
    rw [List.mem_singleton] at hb
    subst hb
    rcases h1 with h1 | h1
    · subst h1; simp at hm
    · obtain ⟨i, hi, e⟩ := List.getElem_of_mem hm
      rw [List.length_take] at hi
      rw [List.getElem_take] at e
      by_cases hk : i = k - 1
      · have : xs.getD (k - 1) 0 = a := by rw [← e, List.getD, List.getElem?_eq_getElem (by omega)]; simp [hk]
        rw [← this]; exact h1
      · have hp := List.pairwise_iff_getElem.1 ha i (k - 1) (by rw [List.length_take]; omega) (by rw [List.length_take]; omega) (by omega)
        rw [List.getElem_take, List.getElem_take] at hp
        have e2 : xs.getD (k - 1) 0 = xs[k - 1] := by rw [List.getD, List.getElem?_eq_getElem (by omega)]; rfl
        rw [e2] at h1
        omega
theorem asc_false (xs : List Int) (k : Nat) (h : ascB (xs.take k) = false) : ascB xs = false := by
  unfold ascB at *
  rw [decide_eq_false_iff_not] at *
  exact fun q => h (List.Pairwise.sublist (List.take_sublist _ _) q)
theorem asc_lt {xs : List Int} (h : ascB xs = true) {i j : Nat} (hij : i < j) (hj : j < xs.length) : xs.getD i 0 < xs.getD j 0 := by
  unfold ascB at h
  rw [decide_eq_true_eq] at h
  have := List.pairwise_iff_getElem.1 h i j (by omega) hj hij
  rw [List.getD, List.getD, List.getElem?_eq_getElem hj, List.getElem?_eq_getElem (by omega)]
  exact this
/-- From the end: the numbers from k on are ascending. -/
theorem sor_drop (xs : List Int) (k : Nat) (h : k + 1 < xs.length) (ha : sorB (xs.drop (k + 1)) = true) : sorB (xs.drop k) = decide (xs.getD k 0 ≤ xs.getD (k + 1) 0) := by
  unfold sorB at *
  rw [decide_eq_true_eq] at ha
  apply decide_eq_decide.2
  rw [List.drop_eq_getElem_cons (show k < xs.length by omega), List.pairwise_cons]
  have e1 : xs.getD k 0 = xs[k] := by rw [List.getD, List.getElem?_eq_getElem (by omega)]; rfl
  have e2 : xs.getD (k + 1) 0 = xs[k + 1] := by rw [List.getD, List.getElem?_eq_getElem h]; rfl
  rw [e1, e2]
  rw [List.drop_eq_getElem_cons h] at ha ⊢
  rw [List.pairwise_cons] at ha
  constructor
  · rintro ⟨h1, _⟩
    exact h1 _ List.mem_cons_self
  · intro h1
    refine ⟨fun b hb => ?_, by rw [List.pairwise_cons]; exact ha⟩
    rw [List.mem_cons] at hb
    rcases hb with rfl | hb
    · exact h1
    · exact Int.le_trans h1 (ha.1 b hb)
theorem sor_last (xs : List Int) (k : Nat) (h : xs.length ≤ k + 1) : sorB (xs.drop k) = true := by
  unfold sorB
  rw [decide_eq_true_eq]
  have : (xs.drop k).length ≤ 1 := by rw [List.length_drop]; omega
  match h : xs.drop k with
  | [] => simp
  | [a] => simp
  | a :: b :: l => rw [h] at this; simp at this
theorem sor_false (xs : List Int) (k : Nat) (h : sorB (xs.drop k) = false) : sorB xs = false := by
  unfold sorB at *
  rw [decide_eq_false_iff_not] at *
  exact fun q => h (List.Pairwise.sublist (List.drop_sublist _ _) q)

def rulB (p : Int) (xs ys : List Int) : Bool := lisB p xs 0 24 && (lisB p ys xs.length xs.length && ascB xs)
theorem rulB_rng {p : Int} {xs ys : List Int} (h : rulB p xs ys = true) : primeB p = true ∧ xs.length ≤ 24 ∧ ys.length = xs.length ∧ areB p xs = true ∧ areB p ys = true ∧ ascB xs = true := by
  unfold rulB at h
  simp only [Bool.and_eq_true] at h
  obtain ⟨h1, _, h2, h3⟩ := lisB_rng h.1
  obtain ⟨_, h4, h5, h6⟩ := lisB_rng h.2.1
  exact ⟨h1, by omega, by omega, h3, h6, h.2.2⟩
theorem rulB_mk {p : Int} {xs ys : List Int} (h1 : primeB p = true) (h2 : xs.length ≤ 24) (h3 : ys.length = xs.length) : rulB p xs ys = (areB p xs && areB p ys && ascB xs) := by
  unfold rulB lisB
  rw [h1, h3]
  simp [show (xs.length : Int) ≤ 24 by omega, Bool.and_assoc]
set_option maxHeartbeats 400000 in
theorem isNaN_any (x : Int) (w : World) : Calls Try.prog 150 #[.int .i64 x] w fun e w' => e = .returned (.bool false) ∧ w = w' := by
  go_enter Try.func150, Try.ntmps150
  go_wp2
  go_ret
  first | exact ⟨rfl, rfl⟩ | simp
set_option maxHeartbeats 800000 in
theorem less_any (x y : Int) (b : Bool) (w : World) (hb : decide (x < y) = b) : Calls Try.prog 147 #[.int .i64 x, .int .i64 y] w fun e w' => e = .returned (.bool b) ∧ w = w' := by
  subst hb
  go_enter Try.func147, Try.ntmps147
  go_wp2_with fail
  refine (isNaN_any _ _).mono ?_
  rintro e w1 ⟨rfl, rfl⟩
  go_wp2
  go_ret
  exact ⟨rfl, rfl⟩
set_option maxRecDepth 100000 in
set_option maxHeartbeats 1600000 in
theorem isSorted_any (a : Option Addr) (n c : Nat) (xs : List Int) (w : World) (hs : SL w a n c xs) (hn : n ≤ 4000000) :
    Calls Try.prog 130 #[.slice a n c] w fun e w' => e = .returned (.bool (sorB xs)) ∧ Below w.heap.size w w' := by
  have hl := hide hs.len
  by_cases h0 : n = 0
  · subst h0
    have hF := hide (show sorB xs = true from sor_last xs 0 (by rw [hl.out]; omega))
    go_enter Try.func130, Try.ntmps130
    go_wp2
    refine wp_loop_rounds 1 ?_
    rw [rounds_succ]
    go_wp2
    go_ret
    exact ⟨ret_bool hF.out.symm, Below.refl _ _⟩
  obtain ⟨b, off, rfl, hbw, hc⟩ := hs.at (by omega)
  have v0 : IntKind.i64.wrap ((n : Int) - 1) = ((n - 1 : Nat) : Int) := by rw [IntWalk.i64_in _ (by omega)]; omega
  have H0 := hide (show sorB (xs.drop (n - 1)) = true from sor_last xs (n - 1) (by rw [hl.out]; omega))
  clear hs
  go_enter Try.func130, Try.ntmps130
  go_wp2
  clear v0
  go_loopw [3] (fun iv wr => ∃ k : Nat, k < n ∧ iv = .int .i64 k ∧ Hid (sorB (xs.drop k) = true) ∧ Below w.heap.size w wr) (fun iv _ => (intOf iv).toNat)
  case atStart => exact ⟨n - 1, by omega, rfl, H0, Below.refl _ _⟩
  case round =>
    obtain ⟨k, hk, rfl, hS, hbr⟩ := hrel
    clear H0
    by_cases hpos : 0 < k
    · have hpos' : (0 : Int) < (k : Int) := by omega
      have e1 : wr.cell? ⟨b, off + k, none⟩ = some (.int .i64 (xs.getD k 0)) := (hbr.cell hbw).trans (hc k hk)
      have e2 : wr.cell? ⟨b, off + (k - 1), none⟩ = some (.int .i64 (xs.getD (k - 1) 0)) := (hbr.cell hbw).trans (hc (k - 1) (by omega))
      have st := hide (sor_drop xs (k - 1) (by rw [hl.out]; omega) (by rw [Nat.sub_add_cancel hpos]; exact hS.out))
      have sf := fun h => hide (sor_false xs (k - 1) h)
      rw [Nat.sub_add_cancel hpos] at st
      obtain ⟨x, hx⟩ : ∃ x, xs.getD k 0 = x := ⟨_, rfl⟩
      obtain ⟨y, hy⟩ : ∃ y, xs.getD (k - 1) 0 = y := ⟨_, rfl⟩
      rw [hx] at e1 st
      rw [hy] at e2 st
      have q1 : (0 : Int) ≤ (k : Int) - 1 := by omega
      have q2 : (k : Int) - 1 < (n : Int) := by omega
      have q3 : ((k : Int) - 1).toNat = k - 1 := by omega
      have q4 : IntKind.i64.wrap ((k : Int) - 1) = (k : Int) - 1 := IntWalk.i64_in _ (by omega)
      have q5 : (k : Int) < (n : Int) := by omega
      clear hx hy hc
      by_cases hlt : x < y
      · have hF := sf (by rw [st.out]; simp; omega)
        have hd := hide (decide_eq_true hlt)
        clear sf hlt
        go_wp2
        go_quiet (first
          | (go_at_call 147; refine Calls.quiet_of_same (still_of (less_any _ _ _ _ hd.out))))
        go_wp2
        go_ret
        exact ⟨ret_bool hF.out.symm, below_drewN hbr _⟩
      · have hN := hide (show sorB (xs.drop (k - 1)) = true by rw [st.out]; simp; omega)
        have hd := hide (decide_eq_false hlt)
        clear sf hlt
        go_wp2
        go_quiet (first
          | (go_at_call 147; refine Calls.quiet_of_same (still_of (less_any _ _ _ _ hd.out))))
        go_wp2
        go_roundw
        case rel => exact ⟨k - 1, by omega, by go_num, hN, below_drewN hbr _⟩
        case measure => simp [intOf]; omega
    · obtain rfl : k = 0 := by omega
      have hF := hide (show sorB xs = true from hS.out)
      go_wp2
      go_ret
      exact ⟨ret_bool hF.out.symm, hbr⟩
set_option maxHeartbeats 800000 in
theorem areAscending_any (a : Option Addr) (n c : Nat) (xs : List Int) (w : World) (hs : SL w a n c xs) (hn : n ≤ 1000) (hxs : ∀ y ∈ xs, (Lit.int .i64 y).wf = true) :
    Calls Try.prog 92 #[.slice a n c] w fun e w' => e = .returned (.bool (ascB xs)) ∧ Below w.heap.size w w' := by
  have HF := hide (asc_both xs)
  cases hS : sorB xs
  · have H := hide (show ascB xs = false by rw [HF.out, hS]; rfl)
    have HS := hide hS
    clear hS
    go_enter Try.func92, Try.ntmps92
    go_wp2_with fail
    refine (isSorted_any _ _ _ xs _ hs (by omega)).mono ?_
    rintro e w1 ⟨rfl, t1⟩
    rw [HS.out]
    go_wp2
    go_ret
    exact ⟨ret_bool H.out.symm, t1⟩
  · have H := hide (show ascB xs = difB xs by rw [HF.out, hS]; rfl)
    have HS := hide hS
    clear hS
    go_enter Try.func92, Try.ntmps92
    go_wp2_with fail
    refine (isSorted_any _ _ _ xs _ hs (by omega)).mono ?_
    rintro e w1 ⟨rfl, t1⟩
    rw [HS.out]
    go_wp2_with fail
    refine (areDifferent_any _ _ _ xs _ (hs.below t1) hn hxs).mono ?_
    rintro e w2 ⟨rfl, t2⟩
    go_wp2
    go_ret
    exact ⟨ret_bool H.out.symm, bnext t1 t2⟩
set_option maxRecDepth 100000 in
set_option maxHeartbeats 1600000 in
theorem implIsRule (p : Int) (a : Option Addr) (n c : Nat) (xs : List Int) (b : Option Addr) (m d : Nat) (ys : List Int) (w : World) (hs : SL w a n c xs) (ht : SL w b m d ys) (hn : n ≤ 4000000) (hm : m ≤ 4000000) :
    Calls Try.prog 40 #[jac p a n c b m d] w fun e w' => e = .returned (.bool (rulB p xs ys)) ∧ Below w.heap.size w w' := by
  have hl := hide hs.len
  have hb0 := bl1 w (.cells #[.int .i64 p, .slice a n c, .slice b m d] 52)
  have g1 := hs.below hb0
  have g2 := ht.below hb0
  cases hL : lisB p xs 0 24
  · have H := hide (show rulB p xs ys = false by unfold rulB; rw [hL]; rfl)
    have HL := hide hL
    clear hL
    go_enter Try.func40, Try.ntmps40
    go_wp2_with fail
    refine (isListFor_any p _ _ _ xs 0 24 _ g1 hn).mono ?_
    rintro e w1 ⟨rfl, rfl⟩
    rw [HL.out]
    go_wp2
    go_ret
    exact ⟨ret_bool H.out.symm, hb0⟩
  obtain ⟨hpr, _, hn2, hA⟩ := lisB_rng hL
  obtain ⟨hp, hp2⟩ := primeB_lo hpr
  have HL := hide hL
  have hn24 : n ≤ 24 := by have := hl.out; omega
  have Hw := hide (areB_wf hp2 hA)
  cases hM : lisB p ys n n
  · have H := hide (show rulB p xs ys = false by unfold rulB; rw [hl.out, hM]; simp)
    have HM := hide hM
    clear hM hL hA hpr
    go_enter Try.func40, Try.ntmps40
    go_wp2_with fail
    refine (isListFor_any p _ _ _ xs 0 24 _ g1 hn).mono ?_
    rintro e w1 ⟨rfl, rfl⟩
    rw [HL.out]
    go_wp2_with fail
    refine (isListFor_any p _ _ _ ys n n _ g2 hm).mono ?_
    rintro e w1 ⟨rfl, rfl⟩
    rw [HM.out]
    go_wp2
    go_ret
    exact ⟨ret_bool H.out.symm, hb0⟩
  · have H := hide (show rulB p xs ys = ascB xs by unfold rulB; rw [hl.out, hM, hL]; rfl)
    have HM := hide hM
    clear hM hL hA hpr
    go_enter Try.func40, Try.ntmps40
    go_wp2_with fail
    refine (isListFor_any p _ _ _ xs 0 24 _ g1 hn).mono ?_
    rintro e w1 ⟨rfl, rfl⟩
    rw [HL.out]
    go_wp2_with fail
    refine (isListFor_any p _ _ _ ys n n _ g2 hm).mono ?_
    rintro e w1 ⟨rfl, rfl⟩
    rw [HM.out]
    go_wp2_with fail
    refine (areAscending_any _ _ _ xs _ g1 (by omega) Hw.out).mono ?_
    rintro e w2 ⟨rfl, t2⟩
    go_wp2
    go_ret
    exact ⟨ret_bool H.out.symm, bnext hb0 t2⟩
set_option maxRecDepth 100000 in
set_option maxHeartbeats 3200000 in
theorem l07Is_any (p : Int) (a : Option Addr) (n c : Nat) (xs : List Int) (b : Option Addr) (m d : Nat) (ys : List Int) (w : World) (hs : SL w a n c xs) (ht : SL w b m d ys) (hn : n ≤ 4000000) (hm : m ≤ 4000000) :
    Calls Try.prog 90 #[jac p a n c b m d] w fun e w' => e = .returned (.bool (rulB p xs ys)) ∧ Below w.heap.size w w' := by
  have hl := hide hs.len
  have ht2 := hide ht.len
  have hb0 := bl1 w (.cells #[.int .i64 p, .slice a n c, .slice b m d] 52)
  have g1 := hs.below hb0
  have g2 := ht.below hb0
  cases hp : primeB p
  · have H : Hid (rulB p xs ys = false) := hide (by simp [rulB, lisB, hp])
    have Hp := hide hp
    clear hp
    go_enter Try.func90, Try.ntmps90
    go_wp2_with fail
    refine (l01Prime_any _ _).mono ?_
    rintro e w1 ⟨rfl, rfl⟩
    rw [Hp.out]
    go_wp2
    go_ret
    exact ⟨ret_bool H.out.symm, hb0⟩
  have Hp := hide hp
  obtain ⟨hp1, hp2⟩ := primeB_lo hp
  clear hp
  by_cases hbad : 24 < (n : Int) ∨ (m : Int) ≠ (n : Int)
  · have H : Hid (rulB p xs ys = false) := hide (by
      cases hj : rulB p xs ys
      · rfl
      · have := rulB_rng hj
        rw [hl.out, ht2.out] at this
        omega)
    by_cases h2 : 24 < (n : Int)
    · go_enter Try.func90, Try.ntmps90
      go_wp2_with fail
      refine (l01Prime_any _ _).mono ?_
      rintro e w1 ⟨rfl, rfl⟩
      rw [Hp.out]
      go_wp2
      go_ret
      exact ⟨ret_bool H.out.symm, hb0⟩
    · have ob : ((m : Int) != (n : Int)) = true := by simp; omega
      go_enter Try.func90, Try.ntmps90
      go_wp2_with fail
      refine (l01Prime_any _ _).mono ?_
      rintro e w1 ⟨rfl, rfl⟩
      rw [Hp.out]
      go_wp2
      go_ret
      exact ⟨ret_bool H.out.symm, hb0⟩
  obtain ⟨h2, h3⟩ : ¬ 24 < (n : Int) ∧ m = n := by omega
  clear hbad
  subst h3
  have H : Hid (rulB p xs ys = (areB p xs && areB p ys && ascB xs)) := hide (rulB_mk Hp.out (by rw [hl.out]; omega) (by rw [hl.out, ht2.out]))
  by_cases h0 : m = 0
  · subst h0
    have hF : Hid (rulB p xs ys = true) := hide (by
      have e1 := List.eq_nil_of_length_eq_zero hl.out
      have e2 := List.eq_nil_of_length_eq_zero ht2.out
      rw [H.out, e1, e2]; rfl)
    go_enter Try.func90, Try.ntmps90
    go_wp2_with fail
    refine (l01Prime_any _ _).mono ?_
    rintro e w1 ⟨rfl, rfl⟩
    rw [Hp.out]
    go_wp2
    refine wp_loop_rounds 1 ?_
    rw [rounds_succ]
    go_wp2
    go_ret
    exact ⟨ret_bool hF.out.symm, hb0⟩
  obtain ⟨b1, o1, rfl, hbw1, hc1⟩ := g1.at (by omega)
  obtain ⟨b2, o2, rfl, hbw2, hc2⟩ := g2.at (by omega)
  clear hs ht g1 g2
  go_enter Try.func90, Try.ntmps90
  go_wp2_with fail
  refine (l01Prime_any _ _).mono ?_
  rintro e w1 ⟨rfl, rfl⟩
  rw [Hp.out]
  go_wp2
  go_loopw [3] (fun i wr => ∃ k : Nat, k ≤ m ∧ i = .int .i64 k ∧ Hid (areB p (xs.take k) = true) ∧ Hid (areB p (ys.take k) = true) ∧ Hid (ascB (xs.take k) = true) ∧ Below (w.heap.size + 1) (w.alloc (.cells #[.int .i64 p, .slice (some ⟨b1, o1, none⟩) m c, .slice (some ⟨b2, o2, none⟩) m d] 52)) wr) (fun i _ => m - (intOf i).toNat)
  case atStart => exact ⟨0, by omega, rfl, by simp [Hid, areB], by simp [Hid, areB], hide (by simp [ascB]), Below.refl _ _⟩
  case round =>
    obtain ⟨k, hk, rfl, hR, hS, hQ, hbr⟩ := hrel
    have f0 : wr.cell? ⟨w.heap.size, 0, none⟩ = some (.int .i64 p) := (hbr.cell (by simp)).trans (by simp [go_sem])
    have f1 : wr.cell? ⟨w.heap.size, 1, none⟩ = some (.slice (some ⟨b1, o1, none⟩) m c) := (hbr.cell (by simp)).trans (by simp [go_sem])
    have f2 : wr.cell? ⟨w.heap.size, 2, none⟩ = some (.slice (some ⟨b2, o2, none⟩) m d) := (hbr.cell (by simp)).trans (by simp [go_sem])
    have hB := hb0.trans (hbr.mono (Nat.le_succ _))
    by_cases hlt : k < m
    · have e1 : wr.cell? ⟨b1, o1 + k, none⟩ = some (.int .i64 (xs.getD k 0)) := (hbr.cell (by simpa using hbw1)).trans (hc1 k hlt)
      have e2 : wr.cell? ⟨b2, o2 + k, none⟩ = some (.int .i64 (ys.getD k 0)) := (hbr.cell (by simpa using hbw2)).trans (hc2 k hlt)
      have e3 : wr.cell? ⟨b1, o1 + (k - 1), none⟩ = some (.int .i64 (xs.getD (k - 1) 0)) := (hbr.cell (by simpa using hbw1)).trans (hc1 (k - 1) (by omega))
      have s1 := Lib.hid (areB_snoc p xs k (by rw [hl.out]; exact hlt))
      have s2 := Lib.hid (areB_snoc p ys k (by rw [ht2.out]; exact hlt))
      have s3 := Lib.hid (asc_snoc xs k (by rw [hl.out]; exact hlt) hQ.out)
      have x1 := fun h => Lib.hid (areB_false p xs k (by rw [hl.out]; exact hlt) h)
      have x2 := fun h => Lib.hid (areB_false p ys k (by rw [ht2.out]; exact hlt) h)
      have x3 := fun h => Lib.hid (asc_false xs (k + 1) h)
      obtain ⟨x, hx⟩ : ∃ x, xs.getD k 0 = x := ⟨_, rfl⟩
      obtain ⟨y, hy⟩ : ∃ y, ys.getD k 0 = y := ⟨_, rfl⟩
      obtain ⟨z, hz⟩ : ∃ z, xs.getD (k - 1) 0 = z := ⟨_, rfl⟩
      rw [hx] at e1 s1 x1 s3
      rw [hy] at e2 s2 x2
      rw [hz] at e3 s3
      clear hx hy hz hc1 hc2
      have hlt' : (k : Int) < (m : Int) := by omega
      have hk0 : (0 : Int) ≤ (k : Int) := by omega
      by_cases hx : 0 ≤ x ∧ x ≤ p - 1
      rotate_left
      · have hF : Hid (rulB p xs ys = false) := hide (by rw [H.out, (x1 (by simp [okN]; omega)).out]; simp)
        have hbx := hide hx
        clear x1 x2 x3 hx s1 s2 s3
        go_wp2
        go_quiet (first
          | (go_at_call 65; refine Calls.quiet_of_same (still_of (l01In_no _ _ _ _ hbx.out))))
        go_wp2
        go_ret
        exact ⟨ret_bool hF.out.symm, below_drewN hB _⟩
      by_cases hy : 0 ≤ y ∧ y ≤ p - 1
      rotate_left
      · have hF : Hid (rulB p xs ys = false) := hide (by rw [H.out, (x2 (by simp [okN]; omega)).out]; simp)
        have hbx := hide hx
        have hby := hide hy
        clear x1 x2 x3 hx hy s1 s2 s3
        go_wp2
        go_quiet (first
          | (go_at_call 65; refine Calls.quiet_of_same (still_of (l01In_yes _ _ _ _ hbx.out.1 hbx.out.2)))
          | (go_at_call 65; refine Calls.quiet_of_same (still_of (l01In_no _ _ _ _ hby.out))))
        go_wp2
        go_ret
        exact ⟨ret_bool hF.out.symm, below_drewN hB _⟩
      have n1 : Hid (areB p (xs.take (k + 1)) = true) := hide (by rw [s1.out, hR.out]; simp [okN]; omega)
      have n2 : Hid (areB p (ys.take (k + 1)) = true) := hide (by rw [s2.out, hS.out]; simp [okN]; omega)
      have hbx := hide hx
      have hby := hide hy
      clear x1 x2 hx hy s1 s2
      by_cases hz : k = 0
      · subst hz
        have n3 : Hid (ascB (xs.take (0 + 1)) = true) := hide (by rw [s3.out]; rfl)
        clear s3 x3 e3
        have hq : decide ((0 : Int) < ((0 : Nat) : Int)) = false := by decide
        have hlt0 : (0 : Int) < (m : Int) := by omega
        rw [Nat.add_zero] at e1 e2
        go_wp2
        go_quiet (first
          | (go_at_call 65; refine Calls.quiet_of_same (still_of (l01In_yes _ _ _ _ hbx.out.1 hbx.out.2)))
          | (go_at_call 65; refine Calls.quiet_of_same (still_of (l01In_yes _ _ _ _ hby.out.1 hby.out.2))))
        go_wp2
        go_roundw
        case rel => exact ⟨0 + 1, by omega, by go_num, n1, n2, n3, below_drewN hbr _⟩
        case measure => simp [intOf]; omega
      have q1 : (0 : Int) ≤ (k : Int) - 1 := by omega
      have q2 : (k : Int) - 1 < (m : Int) := by omega
      have q3 : ((k : Int) - 1).toNat = k - 1 := by omega
      have q4 : IntKind.i64.wrap ((k : Int) - 1) = (k : Int) - 1 := IntWalk.i64_in _ (by omega)
      have q5 : (0 : Int) < (k : Int) := by omega
      have q6 : 0 < k := by omega
      by_cases hxz : x ≤ z
      · have hF : Hid (rulB p xs ys = false) := hide (by rw [H.out, (x3 (by rw [s3.out]; simp; omega)).out]; simp)
        clear s3 x3
        go_wp2
        go_quiet (first
          | (go_at_call 65; refine Calls.quiet_of_same (still_of (l01In_yes _ _ _ _ hbx.out.1 hbx.out.2)))
          | (go_at_call 65; refine Calls.quiet_of_same (still_of (l01In_yes _ _ _ _ hby.out.1 hby.out.2))))
        go_wp2
        go_ret
        exact ⟨ret_bool hF.out.symm, below_drewN hB _⟩
      · have n3 : Hid (ascB (xs.take (k + 1)) = true) := hide (by rw [s3.out]; simp; omega)
        clear s3 x3
        go_wp2
        go_quiet (first
          | (go_at_call 65; refine Calls.quiet_of_same (still_of (l01In_yes _ _ _ _ hbx.out.1 hbx.out.2)))
          | (go_at_call 65; refine Calls.quiet_of_same (still_of (l01In_yes _ _ _ _ hby.out.1 hby.out.2))))
        go_wp2
        go_roundw
        case rel => exact ⟨k + 1, by omega, by go_num, n1, n2, n3, below_drewN hbr _⟩
        case measure => simp [intOf]; omega
    · obtain rfl : k = m := by omega
      have hF : Hid (rulB p xs ys = true) := hide (by
        have h1 := hR.out
        have h2 := hS.out
        have h3 := hQ.out
        rw [List.take_of_length_le (by rw [hl.out]; omega)] at h1 h3
        rw [List.take_of_length_le (by rw [ht2.out]; omega)] at h2
        rw [H.out, h1, h2, h3]; rfl)
      go_wp2
      go_ret
      exact ⟨ret_bool hF.out.symm, hB⟩
theorem specIsRule (p : Int) (a : Option Addr) (n c : Nat) (xs : List Int) (b : Option Addr) (m d : Nat) (ys : List Int) (w : World) (hs : SL w a n c xs) (ht : SL w b m d ys) (hn : n ≤ 4000000) (hm : m ≤ 4000000) :
    Calls Try.prog 38 #[jac p a n c b m d] w fun e w' => e = .returned (.bool (rulB p xs ys)) ∧ Below w.heap.size w w' := by
  have hb0 := bl1 w (.cells #[.int .i64 p, .slice a n c, .slice b m d] 52)
  go_enter Try.func38, Try.ntmps38
  go_wp2_with fail
  refine (l07Is_any _ _ _ _ _ _ _ _ _ _ (hs.below hb0) (ht.below hb0) hn hm).mono ?_
  rintro e w1 ⟨rfl, hb1⟩
  go_wp2
  go_ret
  exact ⟨rfl, bnext hb0 hb1⟩
end Go.Proofs.Ytkpmonopjkjflaa
/- Contracts: the closures that go on (recurrence, polysOf, associatesOf, goOn). -/
namespace Go.Proofs.Ytkpmonopjkjflaa
open Go.RowKit
set_option linter.unusedVariables false
set_option linter.unusedSimpArgs false

theorem OZ.nilZ (lo hi : Nat) (w : World) (a : Option Addr) (cap : Nat) (h : a = none → cap = 0) : OZ lo hi w a 0 cap [] := ⟨⟨rfl, ⟨Nat.zero_le _, h⟩, .inl rfl⟩, .inl rfl⟩
/-- A list of the call's own (blocks from lo on) that lies neither in the four blocks from B on nor in those from z up to ze. -/
def Kept (lo B z ze : Nat) (w : World) (a : Option Addr) (c : Nat) (f : List Int) : Prop :=
  ∃ l h, lo ≤ l ∧ h ≤ w.heap.size ∧ (h ≤ B ∨ B + 4 ≤ l) ∧ (h ≤ z ∨ ze ≤ l) ∧ OZ l h w a f.length c f
theorem Kept.below {lo B z ze : Nat} {w w' : World} {a : Option Addr} {c : Nat} {f : List Int} (h : Kept lo B z ze w a c f) (hb : Below w.heap.size w w') : Kept lo B z ze w' a c f := by
  obtain ⟨l, hh, h1, h2, h3, h4, h5⟩ := h
  exact ⟨l, hh, h1, Nat.le_trans h2 hb.size, h3, h4, h5.below hb⟩
theorem Kept.touch {lo B z ze : Nat} {w w' : World} {a : Option Addr} {c : Nat} {f : List Int} (h : Kept lo B z ze w a c f) (t : Touch B (B + 4) w w') : Kept lo B z ze w' a c f := by
  obtain ⟨l, hh, h1, h2, h3, h4, h5⟩ := h
  exact ⟨l, hh, h1, Nat.le_trans h2 t.size, h3, h4, h5.touch t h3⟩
theorem Kept.touchZ {lo B z ze : Nat} {w w' : World} {a : Option Addr} {c : Nat} {f : List Int} (h : Kept lo B z ze w a c f) (t : Touch z (ze) w w') : Kept lo B z ze w' a c f := by
  obtain ⟨l, hh, h1, h2, h3, h4, h5⟩ := h
  exact ⟨l, hh, h1, Nat.le_trans h2 t.size, h3, h4, h5.touch t h4⟩
theorem Kept.sl {lo B z ze : Nat} {w : World} {a : Option Addr} {c : Nat} {f : List Int} (h : Kept lo B z ze w a c f) : SL w a f.length c f := by
  obtain ⟨l, hh, h1, h2, h3, h4, h5⟩ := h
  exact h5.sl
theorem Kept.new {lo B z ze : Nat} {w w' : World} {a : Option Addr} {c : Nat} {f : List Int} (h : Own w.heap.size w' a c f) (h1 : lo ≤ w.heap.size) (h2 : B + 4 ≤ w.heap.size) (h3 : ze ≤ w.heap.size) : Kept lo B z ze w' a c f :=
  ⟨w.heap.size, w'.heap.size, h1, Nat.le_refl _, .inr h2, .inr h3, OZ.of h rfl⟩
/-- The closure of a recurrence, whose four blocks begin at B. -/
abbrev rclo (B : Nat) : Value := .func (.func 152) #[] #[.pointer (some ⟨B + 1, 0, none⟩), .pointer (some ⟨B + 1 + 1, 0, none⟩), .pointer (some ⟨B + 1 + 1 + 1, 0, none⟩), .pointer (some ⟨B, 0, none⟩)]
theorem Touch.set {lo hi : Nat} {a w : World} (h : Touch lo hi a w) {x : Addr} (h1 : lo ≤ x.block) (h2 : x.block < hi) (u : Value) : Touch lo hi a (w.setCell x u) :=
  h.trans ⟨rfl, rfl, rfl, by simp [World.setCell], fun k hk hd => Below.heap_setCell _ _ _ _ (by omega)⟩
theorem Touch.ofBelow {lo hi : Nat} {w w' : World} (h : Below w.heap.size w w') : Touch lo hi w w' := ⟨h.os, h.tape, h.output, h.size, fun k hk _ => h.block k hk⟩
theorem Touch.refl (lo hi : Nat) (w : World) : Touch lo hi w w := ⟨rfl, rfl, rfl, Nat.le_refl _, fun _ _ _ => rfl⟩
theorem Touch.frozen {lo hi b o : Nat} {w w' : World} {v : Value} {x : Bool} (t : Touch lo hi w w') (h : w.cell? ⟨b, o, none⟩ = some v) (hf : w.frozen? ⟨b, o, none⟩ = x) (hd : b < lo ∨ hi ≤ b) : w'.frozen? ⟨b, o, none⟩ = x :=
  (World.frozen?_of_block (w := w) (t.block b (World.block_lt_of_cell? w _ h) hd)).trans hf
/-- What a closure of a recurrence keeps of memory: data at B, the current and the next polynomial f, g, the number k. -/
structure RInv (z ze B : Nat) (w0 w : World) (p : Int) (a : Option Addr) (n c : Nat) (b : Option Addr) (d : Nat) (k : Nat) (f g : List Int) : Prop where
  hb : Below w0.heap.size w0 w
  lb : w0.heap.size ≤ B
  sz : B + 4 ≤ w.heap.size
  zs : ze ≤ w.heap.size
  j0 : w.cell? ⟨B, 0, none⟩ = some (.int .i64 p)
  j1 : w.cell? ⟨B, 1, none⟩ = some (.slice a n c)
  j2 : w.cell? ⟨B, 2, none⟩ = some (.slice b n d)
  cc : ∃ ac cc, w.cell? ⟨B + 1, 0, none⟩ = some (.slice ac f.length cc) ∧ Kept w0.heap.size B z ze w ac cc f
  cn : ∃ an cn, w.cell? ⟨B + 1 + 1, 0, none⟩ = some (.slice an g.length cn) ∧ Kept w0.heap.size B z ze w an cn g
  kk : w.cell? ⟨B + 1 + 1 + 1, 0, none⟩ = some (.int .i64 k)
  fc : w.frozen? ⟨B + 1, 0, none⟩ = false
  fn : w.frozen? ⟨B + 1 + 1, 0, none⟩ = false
  fk : w.frozen? ⟨B + 1 + 1 + 1, 0, none⟩ = false
/-- Another closure of the same kind has gone on. -/
theorem RInv.touch {z ze B : Nat} {w0 w w' : World} {p : Int} {a : Option Addr} {n c : Nat} {b : Option Addr} {d k : Nat} {f g : List Int} (h : RInv z ze B w0 w p a n c b d k f g) (t : Touch z (ze) w w') (hd : B + 4 ≤ z ∨ ze ≤ B) (hz : w0.heap.size ≤ z) : RInv z ze B w0 w' p a n c b d k f g := by
  obtain ⟨hb, lb, sz, zs, j0, j1, j2, ⟨ac, cc, c0, ck⟩, ⟨an, cn, n0, nk⟩, kk, fc, fn, fk⟩ := h
  have m : ∀ {x : Nat}, x < B + 4 → B ≤ x → x < z ∨ ze ≤ x := fun h1 h2 => by omega
  exact ⟨below_touch hb t hz (by omega), lb, Nat.le_trans sz t.size, Nat.le_trans zs t.size, t.cell j0 (m (by omega) (by omega)), t.cell j1 (m (by omega) (by omega)), t.cell j2 (m (by omega) (by omega)),
    ⟨ac, cc, t.cell c0 (m (by omega) (by omega)), ck.touchZ t⟩, ⟨an, cn, t.cell n0 (m (by omega) (by omega)), nk.touchZ t⟩, t.cell kk (m (by omega) (by omega)),
    t.frozen c0 fc (m (by omega) (by omega)), t.frozen n0 fn (m (by omega) (by omega)), t.frozen kk fk (m (by omega) (by omega))⟩
theorem RInv.below {z ze B : Nat} {w0 w w' : World} {p : Int} {a : Option Addr} {n c : Nat} {b : Option Addr} {d k : Nat} {f g : List Int} (h : RInv z ze B w0 w p a n c b d k f g) (t : Below w.heap.size w w') : RInv z ze B w0 w' p a n c b d k f g := by
  obtain ⟨hb, lb, sz, zs, j0, j1, j2, ⟨ac, cc, c0, ck⟩, ⟨an, cn, n0, nk⟩, kk, fc, fn, fk⟩ := h
  exact ⟨hb.trans (t.mono (by omega)), lb, Nat.le_trans sz t.size, Nat.le_trans zs t.size, cell_be t j0, cell_be t j1, cell_be t j2, ⟨ac, cc, cell_be t c0, ck.below t⟩, ⟨an, cn, cell_be t n0, nk.below t⟩, cell_be t kk,
    (t.frozen (World.block_lt_of_cell? _ _ c0)).trans fc, (t.frozen (World.block_lt_of_cell? _ _ n0)).trans fn, (t.frozen (World.block_lt_of_cell? _ _ kk)).trans fk⟩
/-- The zone of another closure that is made later. -/
theorem Kept.zone {lo B z ze z' ze' : Nat} {w : World} {a : Option Addr} {c : Nat} {f : List Int} (h : Kept lo B z ze w a c f) (hz : w.heap.size ≤ z') : Kept lo B z' ze' w a c f := by
  obtain ⟨l, hh, h1, h2, h3, h4, h5⟩ := h
  exact ⟨l, hh, h1, h2, h3, .inl (by omega), h5⟩
theorem RInv.zone {z ze z' ze' B : Nat} {w0 w w' : World} {p : Int} {a : Option Addr} {n c : Nat} {b : Option Addr} {d k : Nat} {f g : List Int} (h : RInv z ze B w0 w p a n c b d k f g) (hz : w.heap.size ≤ z') (t : Below w.heap.size w w') (hs : ze' ≤ w'.heap.size) : RInv z' ze' B w0 w' p a n c b d k f g := by
  obtain ⟨hb, lb, sz, zs, j0, j1, j2, ⟨ac, cc, c0, ck⟩, ⟨an, cn, n0, nk⟩, kk, fc, fn, fk⟩ := h
  exact ⟨hb.trans (t.mono (by omega)), lb, Nat.le_trans sz t.size, hs, cell_be t j0, cell_be t j1, cell_be t j2, ⟨ac, cc, cell_be t c0, (ck.zone hz).below t⟩, ⟨an, cn, cell_be t n0, (nk.zone hz).below t⟩, cell_be t kk,
    (t.frozen (World.block_lt_of_cell? _ _ c0)).trans fc, (t.frozen (World.block_lt_of_cell? _ _ n0)).trans fn, (t.frozen (World.block_lt_of_cell? _ _ kk)).trans fk⟩
set_option maxRecDepth 100000 in
set_option maxHeartbeats 1600000 in
theorem nextPoly_any (p : Int) (a : Option Addr) (n c : Nat) (xs : List Int) (b : Option Addr) (n2 d : Nat) (ys : List Int) (i : Nat) (ii : Int) (x y : Int) (a1 : Option Addr) (n1 c1 : Nat) (f : List Int) (a2 : Option Addr) (m2 c2 : Nat) (g : List Int) (w : World) (hs : SL w a n c xs) (ht : SL w b n2 d ys) (h1 : SL w a1 n1 c1 f) (h2 : SL w a2 m2 c2 g)
    (hii : ii = i) (hx : xs.getD i 0 = x) (hy : ys.getD i 0 = y) (hi : i < n) (hi2 : i < n2) (hn : n ≤ 100) (hn2 : n2 ≤ 100) (hp : 2 ≤ p) (hp2 : p ≤ 10007) (x1 : 0 ≤ x) (x2 : x < p) (y1 : 0 ≤ y) (y2 : y < p) (hf : areB p f = true) (hg : areB p g = true) (b1 : n1 ≤ 100) (b2 : m2 ≤ 100) :
    Calls Try.prog 153 #[jac p a n c b n2 d, .int .i64 ii, .slice a1 n1 c1, .slice a2 m2 c2] w
      fun e w' => ∃ a' c', e = .returned (.slice a' (stp p x y g f).length c') ∧ Own w.heap.size w' a' c' (stp p x y g f) ∧ Below w.heap.size w w' := by
  subst hii
  obtain ⟨b1', o1, rfl, hw1, hc1⟩ := hs.at (by omega)
  obtain ⟨b2', o2, rfl, hw2, hc2⟩ := ht.at (by omega)
  have l1 := h1.len
  have l2 := h2.len
  have hb0 := bl1 w (.cells #[.int .i64 p, .slice (some ⟨b1', o1, none⟩) n c, .slice (some ⟨b2', o2, none⟩) n2 d] 63)
  have e1 := cell_be hb0 (hc1 i hi)
  have e2 := cell_be hb0 (hc2 i hi2)
  rw [hx] at e1
  rw [hy] at e2
  have s1 := h1.below hb0
  have s2 := h2.below hb0
  have f0 : (w.alloc (.cells #[.int .i64 p, .slice (some ⟨b1', o1, none⟩) n c, .slice (some ⟨b2', o2, none⟩) n2 d] 63)).cell? ⟨w.heap.size, 0, none⟩ = some (.int .i64 p) := by simp [go_sem]
  have f1 : (w.alloc (.cells #[.int .i64 p, .slice (some ⟨b1', o1, none⟩) n c, .slice (some ⟨b2', o2, none⟩) n2 d] 63)).cell? ⟨w.heap.size, 1, none⟩ = some (.slice (some ⟨b1', o1, none⟩) n c) := by simp [go_sem]
  have f2 : (w.alloc (.cells #[.int .i64 p, .slice (some ⟨b1', o1, none⟩) n c, .slice (some ⟨b2', o2, none⟩) n2 d] 63)).cell? ⟨w.heap.size, 2, none⟩ = some (.slice (some ⟨b2', o2, none⟩) n2 d) := by simp [go_sem]
  have z0 : w.heap.size + 1 = (w.alloc (.cells #[.int .i64 p, .slice (some ⟨b1', o1, none⟩) n c, .slice (some ⟨b2', o2, none⟩) n2 d] 63)).heap.size := by simp
  have hlt : (i : Int) < (n : Int) := by omega
  have hlt2 : (i : Int) < (n2 : Int) := by omega
  have hll := lin_len p x g
  have ry := opp_rng (x := y) hp
  have HL := hide (linM_poly (a := x) hp)
  have HF := hide hf
  have HG := hide hg
  have L1 := hide l1
  have L2 := hide l2
  clear hc1 hc2 hs ht h1 h2 hx hy hf hg l1 l2
  go_enter Try.func153, Try.ntmps153
  go_wp2
  generalize (w.alloc (.cells #[.int .i64 p, .slice (some ⟨b1', o1, none⟩) n c, .slice (some ⟨b2', o2, none⟩) n2 d] 63)) = wx at *
  have hbd := (Below.refl wx.heap.size wx).drew
  have F : ∀ w', Below wx.heap.size wx w' → w'.cell? ⟨w.heap.size, 0, none⟩ = some (.int .i64 p) ∧ w'.cell? ⟨w.heap.size, 1, none⟩ = some (.slice (some ⟨b1', o1, none⟩) n c) ∧ w'.cell? ⟨b1', o1 + i, none⟩ = some (.int .i64 x) := fun w' h => ⟨cell_be h f0, cell_be h f1, cell_be h e1⟩
  go_region_held3 (fun w' => w'.cell? ⟨w.heap.size, 0, none⟩ = some (.int .i64 p) ∧ w'.cell? ⟨w.heap.size, 1, none⟩ = some (.slice (some ⟨b1', o1, none⟩) n c) ∧ w'.cell? ⟨b1', o1 + i, none⟩ = some (.int .i64 x))
    (exact F _ (by assumption))
    (first
    | (go_at_call 122; refine (linear_any p x _ hp hp2 x1 x2).mono ?_; rintro e w3 ⟨rfl, ho3, hb3⟩; have hm3 := bnext hbd hb3)
    | (go_at_call 73; refine (multiply_any p _ _ _ (linM p x) _ _ _ g _ ho3.sl (s2.below hm3) (by simp [linM]) (by omega) hp hp2 (polyB_rng HL.out).2.1 HG.out).mono ?_; rintro e w4 ⟨a', c', rfl, ho4, hb4⟩; have hm4 := bnext hm3 hb4))
  have q0 := cell_be hm4 f0
  have q2 := cell_be hm4 f2
  have e4 := cell_be hm4 e2
  have p4 := ho4.sl
  have s4 := s1.below hm4
  have L2' := L2.out
  have hbd4 := (Below.refl w4.heap.size w4).drew
  have F4 : ∀ w', Below w4.heap.size w4 w' → w'.cell? ⟨w.heap.size, 0, none⟩ = some (.int .i64 p) ∧ w'.cell? ⟨w.heap.size, 2, none⟩ = some (.slice (some ⟨b2', o2, none⟩) n2 d) ∧ w'.cell? ⟨b2', o2 + i, none⟩ = some (.int .i64 y) := fun w' h => ⟨cell_be h q0, cell_be h q2, cell_be h e4⟩
  have z4 := hm4.size
  have hB4 := hb0.trans (hm4.mono (by omega))
  have hlen : (mulM p (linM p x) g).length ≤ 1000 := by omega
  clear hbd F hm3 ho3 ho4 hb3 hb4 e1 e2 f0 f1 f2 s1 s2 L2' hll
  go_wp2
  go_region_held3 (fun w' => w'.cell? ⟨w.heap.size, 0, none⟩ = some (.int .i64 p) ∧ w'.cell? ⟨w.heap.size, 2, none⟩ = some (.slice (some ⟨b2', o2, none⟩) n2 d) ∧ w'.cell? ⟨b2', o2 + i, none⟩ = some (.int .i64 y))
    (exact F4 _ (by assumption))
    (first
    | (go_at_call 109; refine (opposite_any p y _ hp hp2 y1 y2).mono ?_; rintro e w' ⟨rfl, rfl⟩)
    | (go_at_call 123; refine (addMultiple_any p (opp p y) _ _ _ (mulM p (linM p x) g) _ _ _ f _ (p4.below hbd4) (s4.below hbd4) hlen (by omega) hp hp2 ry.1 ry.2 (mulM_are hp) HF.out).mono ?_; rintro e w5 ⟨a5, c5, rfl, ho5, hb5⟩; have hm5 := bnext hbd4 hb5))
  go_wp2
  go_ret
  exact ⟨a5, c5, rfl, ho5.mono (by simp; omega), bnext hB4 hm5⟩
set_option maxRecDepth 100000 in
set_option maxHeartbeats 1600000 in
theorem recurrence_any (p : Int) (a : Option Addr) (n c : Nat) (b : Option Addr) (d : Nat) (x1 : Option Addr) (c1 : Nat) (f : List Int) (x2 : Option Addr) (c2 : Nat) (g : List Int) (z ze : Nat) (w0 w : World) (hb : Below w0.heap.size w0 w) (h1 : Kept w0.heap.size w.heap.size z ze w x1 c1 f) (h2 : Kept w0.heap.size w.heap.size z ze w x2 c2 g) (hz : ze ≤ w.heap.size) :
    Calls Try.prog 138 #[jac p a n c b n d, .slice x1 f.length c1, .slice x2 g.length c2] w fun e w' => e = .returned (rclo w.heap.size) ∧ RInv z ze w.heap.size w0 w' p a n c b d 0 f g ∧ Below w.heap.size w w' := by
  have hs := hb.size
  go_enter Try.func138, Try.ntmps138
  go_wp2
  go_ret
  have t : Below w.heap.size w ((((w.alloc (.cells #[.int .i64 p, .slice a n c, .slice b n d] 63)).alloc (.cells #[.slice x1 f.length c1] 22)).alloc (.cells #[.slice x2 g.length c2] 22)).alloc (.cells #[.int .i64 0] 3)) := bl4 _ _ _ _ _
  refine ⟨rfl, ⟨hb.trans (t.mono hs), hs, by simp, by simp; omega, by simp [go_sem], by simp [go_sem], by simp [go_sem], ⟨x1, c1, by simp [go_sem], h1.below t⟩, ⟨x2, c2, by simp [go_sem], h2.below t⟩, by simp [go_sem], by simp [go_sem], by simp [go_sem], by simp [go_sem]⟩, t⟩
set_option maxRecDepth 100000 in
set_option maxHeartbeats 3200000 in
theorem next_any (p : Int) (a : Option Addr) (n c : Nat) (xs : List Int) (b : Option Addr) (d : Nat) (ys : List Int) (k m : Nat) (f g : List Int) (z ze B : Nat) (w0 w : World) (hs : SL w0 a n c xs) (ht : SL w0 b n d ys) (hpr : primeB p = true) (hx : areB p xs = true) (hy : areB p ys = true) (hn : n ≤ 100) (hk : k ≤ n)
    (hf : Small p m f) (hg : Small p m g) (hm : m ≤ 24) (h : RInv z ze B w0 w p a n c b d k f g) (hd : B + 4 ≤ z ∨ ze ≤ B) :
    Calls Try.prog 152 #[.pointer (some ⟨B + 1, 0, none⟩), .pointer (some ⟨B + 1 + 1, 0, none⟩), .pointer (some ⟨B + 1 + 1 + 1, 0, none⟩), .pointer (some ⟨B, 0, none⟩)] w
      fun e w' => ∃ ac cc, e = .returned (.slice ac f.length cc) ∧ Kept w0.heap.size B z ze w' ac cc f ∧ RInv z ze B w0 w' p a n c b d (k + 1) g (if k + 1 < n then stp p (xs.getD (k + 1) 0) (ys.getD (k + 1) 0) g f else g) ∧ Touch B (B + 4) w w' := by
  obtain ⟨hb, lb, sz, zs, j0, j1, j2, ⟨ac, cc, c0, ck⟩, ⟨an, cn, n0, nk⟩, kk, fc, fn, fk⟩ := h
  obtain ⟨hp, hp2⟩ := primeB_lo hpr
  obtain ⟨i, hi⟩ : ∃ i, k + 1 = i := ⟨_, rfl⟩
  rw [hi]
  have Hi := Lib.hid hi
  have vk : IntKind.i64.wrap ((k : Int) + 1) = (i : Int) := by rw [← hi]; exact IntWalk.i64_in _ (by omega)
  -- the world behind the first two stores
  have t2 : Touch B (B + 4) w ((w.setCell ⟨B + 1, 0, none⟩ (.slice an g.length cn)).setCell ⟨B + 1 + 1 + 1, 0, none⟩ (.int .i64 i)) := ((Touch.refl _ _ _).set (by simp) (by simp) _).set (by simp; omega) (by simp) _
  have q0 : ((w.setCell ⟨B + 1, 0, none⟩ (.slice an g.length cn)).setCell ⟨B + 1 + 1 + 1, 0, none⟩ (.int .i64 i)).cell? ⟨B, 0, none⟩ = some (.int .i64 p) := cell_set2 (cell_set2 j0 (by simp) _) (by simp; omega) _
  have q1 : ((w.setCell ⟨B + 1, 0, none⟩ (.slice an g.length cn)).setCell ⟨B + 1 + 1 + 1, 0, none⟩ (.int .i64 i)).cell? ⟨B, 1, none⟩ = some (.slice a n c) := cell_set2 (cell_set2 j1 (by simp) _) (by simp; omega) _
  have q2 : ((w.setCell ⟨B + 1, 0, none⟩ (.slice an g.length cn)).setCell ⟨B + 1 + 1 + 1, 0, none⟩ (.int .i64 i)).cell? ⟨B, 2, none⟩ = some (.slice b n d) := cell_set2 (cell_set2 j2 (by simp) _) (by simp; omega) _
  have q3 : ((w.setCell ⟨B + 1, 0, none⟩ (.slice an g.length cn)).setCell ⟨B + 1 + 1 + 1, 0, none⟩ (.int .i64 i)).cell? ⟨B + 1, 0, none⟩ = some (.slice an g.length cn) := cell_set2 (World.cell?_setCell_same _ _ _ c0) (by simp <;> omega) _
  have q4 : ((w.setCell ⟨B + 1, 0, none⟩ (.slice an g.length cn)).setCell ⟨B + 1 + 1 + 1, 0, none⟩ (.int .i64 i)).cell? ⟨B + 1 + 1, 0, none⟩ = some (.slice an g.length cn) := cell_set2 (cell_set2 n0 (by simp <;> omega) _) (by simp <;> omega) _
  have q6 : ((w.setCell ⟨B + 1, 0, none⟩ (.slice an g.length cn)).setCell ⟨B + 1 + 1 + 1, 0, none⟩ (.int .i64 i)).cell? ⟨B + 1 + 1 + 1, 0, none⟩ = some (.int .i64 i) := World.cell?_setCell_same _ _ _ (cell_set2 kk (by simp <;> omega) _)
  have r1 : ((w.setCell ⟨B + 1, 0, none⟩ (.slice an g.length cn)).setCell ⟨B + 1 + 1 + 1, 0, none⟩ (.int .i64 i)).frozen? ⟨B + 1, 0, none⟩ = false := by simpa using fc
  have r2 : ((w.setCell ⟨B + 1, 0, none⟩ (.slice an g.length cn)).setCell ⟨B + 1 + 1 + 1, 0, none⟩ (.int .i64 i)).frozen? ⟨B + 1 + 1, 0, none⟩ = false := by simpa using fn
  have r3 : ((w.setCell ⟨B + 1, 0, none⟩ (.slice an g.length cn)).setCell ⟨B + 1 + 1 + 1, 0, none⟩ (.int .i64 i)).frozen? ⟨B + 1 + 1 + 1, 0, none⟩ = false := by simpa using fk
  have ck2 := ck.touch t2
  have nk2 := nk.touch t2
  have B2 := below_touch hb t2 lb (by omega)
  have z2 := t2.size
  by_cases hlt : i < n
  · rw [if_pos hlt]
    have hlt' : (i : Int) < (n : Int) := by omega
    have x1 := getD_rng hx hp i
    have x2 := getD_rng hy hp i
    obtain ⟨x, hxx⟩ : ∃ x, xs.getD i 0 = x := ⟨_, rfl⟩
    obtain ⟨y, hyy⟩ : ∃ y, ys.getD i 0 = y := ⟨_, rfl⟩
    rw [hxx] at x1 ⊢
    rw [hyy] at x2 ⊢
    have HX := hide hxx
    have HY := hide hyy
    have Hx := hide hx
    have Hy := hide hy
    have HF := hide hf.are
    have HG := hide hg.are
    have lf := hf.2
    have lg := hg.2
    have ss := hs.below B2
    have st := ht.below B2
    clear hxx hyy hs ht hx hy hpr hi hf hg
    go_enter Try.func152, Try.ntmps152
    go_wp2_with fail
    clear c0 n0 kk j0 j1 j2 fc fn fk ck nk vk
    generalize ((w.setCell ⟨B + 1, 0, none⟩ (.slice an g.length cn)).setCell ⟨B + 1 + 1 + 1, 0, none⟩ (.int .i64 i)) = wx at *
    refine (nextPoly_any p _ _ _ xs _ _ _ ys i _ x y _ _ _ f _ _ _ g _ ss st ck2.sl nk2.sl rfl HX.out HY.out hlt hlt hn hn hp hp2 x1.1 x1.2 x2.1 x2.2 HF.out HG.out (by omega) (by omega)).mono ?_
    rintro e w5 ⟨a5, c5, rfl, ho5, hm5⟩
    have y0 := cell_be hm5 q0
    have y1 := cell_be hm5 q1
    have y2 := cell_be hm5 q2
    have y3 := cell_be hm5 q3
    have y4 := cell_be hm5 q4
    have y6 := cell_be hm5 q6
    have v1 := (hm5.frozen (World.block_lt_of_cell? _ _ q3)).trans r1
    have v2 := (hm5.frozen (World.block_lt_of_cell? _ _ q4)).trans r2
    have v3 := (hm5.frozen (World.block_lt_of_cell? _ _ q6)).trans r3
    have ck5 := ck2.below hm5
    have nk5 := nk2.below hm5
    have t4 : Touch B (B + 4) w w5 := t2.trans (Touch.ofBelow hm5)
    have z5 := hm5.size
    have B5 := below_touch hb t4 lb (by omega)
    have kn : Kept w0.heap.size B z ze w5 a5 c5 (stp p x y g f) := Kept.new ho5 (by omega) (by omega) (by omega)
    clear q0 q1 q2 q3 q4 q6 r1 r2 r3 ck2 nk2 B2 t2 ss st
    go_wp2
    go_ret
    have t5 : Touch B (B + 4) w5 (w5.setCell ⟨B + 1 + 1, 0, none⟩ (.slice a5 (stp p x y g f).length c5)) := (Touch.refl _ _ _).set (by simp <;> omega) (by simp) _
    have tf := t4.trans t5
    have zf := t5.size
    refine ⟨ac, cc, rfl, ck5.touch t5, ⟨below_touch B5 t5 lb (by omega), lb, Nat.le_trans (show B + 4 ≤ w5.heap.size by omega) zf, Nat.le_trans (show ze ≤ w5.heap.size by omega) zf, cell_set2 y0 (by simp <;> omega) _, cell_set2 y1 (by simp <;> omega) _, cell_set2 y2 (by simp <;> omega) _,
      ⟨an, cn, cell_set2 y3 (by simp <;> omega) _, nk5.touch t5⟩, ⟨a5, c5, World.cell?_setCell_same _ _ _ y4, kn.touch t5⟩, cell_set2 y6 (by simp <;> omega) _, ?_, ?_, ?_⟩, tf⟩
    · simpa using v1
    · simpa using v2
    · simpa using v3
  · rw [if_neg hlt]
    have hge : (n : Int) ≤ (i : Int) := by omega
    clear hi
    go_enter Try.func152, Try.ntmps152
    go_wp2
    go_ret
    exact ⟨ac, cc, rfl, ck2, ⟨B2, lb, by omega, by omega, q0, q1, q2, ⟨an, cn, q3, nk2⟩, ⟨an, cn, q4, nk2⟩, q6, r1, r2, r3⟩, t2⟩
set_option maxRecDepth 100000 in
set_option maxHeartbeats 1600000 in
theorem goOn_any (p : Int) (a : Option Addr) (n c : Nat) (xs : List Int) (b : Option Addr) (d : Nat) (ys : List Int) (K : Nat) (G : Nat → List Int) (z ze B : Nat) (w0 w : World) (hs : SL w0 a n c xs) (ht : SL w0 b n d ys) (hpr : primeB p = true) (hx : areB p xs = true) (hy : areB p ys = true) (hn : n ≤ 100) (hK : K ≤ n)
    (hG : ∀ i, G (i + 2) = if i + 1 < n then stp p (xs.getD (i + 1) 0) (ys.getD (i + 1) 0) (G (i + 1)) (G i) else G (i + 1)) (hS : ∀ i, Small p 24 (G i)) (h : RInv z ze B w0 w p a n c b d 0 (G 0) (G 1)) (hd : B + 4 ≤ z ∨ ze ≤ B) :
    Calls Try.prog 144 #[rclo B, .int .i64 K] w
      fun e w' => ∃ ac cc, e = .returned (.slice ac (G K).length cc) ∧ Kept w0.heap.size B z ze w' ac cc (G K) ∧ RInv z ze B w0 w' p a n c b d (K + 1) (G (K + 1)) (G (K + 2)) ∧ Touch B (B + 4) w w' := by
  have HG := fun i => Lib.hid (hG i)
  clear hG
  go_enter Try.func144, Try.ntmps144
  go_wp2
  go_loopw [6] (fun iv wr => ∃ i : Nat, i ≤ K ∧ iv = .int .i64 i ∧ RInv z ze B w0 wr p a n c b d i (G i) (G (i + 1)) ∧ Touch B (B + 4) w wr) (fun iv _ => K - (intOf iv).toNat)
  case atStart => exact ⟨0, by omega, rfl, h, Touch.refl _ _ _⟩
  case round =>
    obtain ⟨i, hi, rfl, hR, ht1⟩ := hrel
    by_cases hlt : i < K
    · have hlt' : (i : Int) < (K : Int) := by omega
      go_wp2_with fail
      refine (next_any p a n c xs b d ys i 24 (G i) (G (i + 1)) z ze B w0 _ hs ht hpr hx hy hn (by omega) (hS i) (hS (i + 1)) (Nat.le_refl _) hR hd).mono ?_
      rintro e w2 ⟨ac, cc, rfl, hk, hR2, ht2⟩
      rw [← (HG i).out] at hR2
      go_wp2
      go_roundw
      case rel => exact ⟨i + 1, by omega, by go_num, hR2, ht1.trans ht2⟩
      case measure => simp [intOf]; omega
    · have hge : (K : Int) ≤ (i : Int) := by omega
      obtain hKi : i = K := by omega
      have HK := hide hKi
      clear hKi
      go_wp2_with fail
      refine (next_any p a n c xs b d ys i 24 (G i) (G (i + 1)) z ze B w0 _ hs ht hpr hx hy hn (by omega) (hS i) (hS (i + 1)) (Nat.le_refl _) hR hd).mono ?_
      rintro e w2 ⟨ac, cc, rfl, hk, hR2, ht2⟩
      rw [← (HG i).out] at hR2
      go_wp2
      go_ret
      rw [← HK.out]
      exact ⟨ac, cc, rfl, hk, hR2, ht1.trans ht2⟩
end Go.Proofs.Ytkpmonopjkjflaa
