/- Merged texts. -/
import Derived.Test.YtcadiepghhnbeaaYW126
import Derived.Test.YtcadiepghhnbeaaYW114
import Derived.Test.YtcadiepghhnbeaaYW19
import Derived.Test.YtcadiepghhnbeaaYW120
import Derived.Test.YtcadiepghhnbeaaYW116
import Derived.Test.YtcadiepghhnbeaaYW14
import Derived.Test.YtcadiepghhnbeaaYW125
import Derived.IntWalk
/- Rules: strictly ascending lists; slices.IsSorted, areAscending, l07Is, IsRule (program and model). -/
namespace Go.Proofs.Ytcadiepghhnbeaa
open Go.RowKit
set_option linter.unusedVariables false
set_option linter.unusedSimpArgs false

theorem getD_memI' {l : List Int} {k : Nat} (h : k < l.length) : l.getD k 0 ∈ l := by
  rw [List.getD, List.getElem?_eq_getElem h]
  exact List.getElem_mem _
/-- Strictly ascending, and ascending. -/
def ascB (xs : List Int) : Bool := decide (xs.Pairwise (· < ·))
def sorB (xs : List Int) : Bool := decide (xs.Pairwise (· ≤ ·))
theorem asc_both (xs : List Int) : ascB xs = (sorB xs && difB xs) := by
  unfold ascB sorB difB
  rw [← Bool.decide_and]
  apply decide_eq_decide.2
  constructor
  · intro h
    exact ⟨h.imp (fun h => by omega), h.imp (fun h => by omega)⟩
  · rintro ⟨h1, h2⟩
    refine (h1.and h2).imp ?_
    rintro a b ⟨h3, h4⟩
    omega
/-- One number more. -/
theorem asc_snoc (xs : List Int) (k : Nat) (h : k < xs.length) (ha : ascB (xs.take k) = true) : ascB (xs.take (k + 1)) = (decide (k = 0) || decide (xs.getD (k - 1) 0 < xs.getD k 0)) := by
  unfold ascB at *
  rw [decide_eq_true_eq] at ha
  rw [take_snocI xs k h]
  rw [← Bool.decide_or]
  apply decide_eq_decide.2
  rw [List.pairwise_append]
  constructor
  · rintro ⟨_, _, h3⟩
    by_cases h0 : k = 0
    · exact .inl h0
    · refine .inr (h3 _ ?_ _ (by simp))
      have e : (xs.take k).getD (k - 1) 0 = xs.getD (k - 1) 0 := by
        rw [List.getD, List.getElem?_take, if_pos (by omega), List.getD]
      rw [← e]
      exact getD_memI' (by rw [List.length_take]; omega)
  · intro h1
    refine ⟨ha, by simp, fun a hm b hb => ?_⟩
    rw [List.mem_singleton] at hb
    subst hb
    rcases h1 with h1 | h1
    · subst h1; simp at hm
    · obtain ⟨i, hi, e⟩ := List.getElem_of_mem hm
      rw [List.length_take] at hi
      rw [List.getElem_take] at e
      by_cases hk : i = k - 1
      · have : xs.getD (k - 1) 0 = a := by rw [← e, List.getD, List.getElem?_eq_getElem (by omega)]; simp [hk]
        rw [← this]; exact h1
      · have hp := List.pairwise_iff_getElem.1 ha i (k - 1) (by rw [List.length_take]; omega) (by rw [List.length_take]; omega) (by omega)
        rw [List.getElem_take, List.getElem_take] at hp
        have e2 : xs.getD (k - 1) 0 = xs[k - 1] := by rw [List.getD, List.getElem?_eq_getElem (by omega)]; rfl
        rw [e2] at h1
        omega
theorem asc_false (xs : List Int) (k : Nat) (h : ascB (xs.take k) = false) : ascB xs = false := by
  unfold ascB at *
  rw [decide_eq_false_iff_not] at *
  exact fun q => h (List.Pairwise.sublist (List.take_sublist _ _) q)
theorem asc_lt {xs : List Int} (h : ascB xs = true) {i j : Nat} (hij : i < j) (hj : j < xs.length) : xs.getD i 0 < xs.getD j 0 := by
  unfold ascB at h
  rw [decide_eq_true_eq] at h
  have := List.pairwise_iff_getElem.1 h i j (by omega) hj hij
  rw [List.getD, List.getD, List.getElem?_eq_getElem hj, List.getElem?_eq_getElem (by omega)]
  exact this
/-- From the end: the numbers from k on are ascending. -/
theorem sor_drop (xs : List Int) (k : Nat) (h : k + 1 < xs.length) (ha : sorB (xs.drop (k + 1)) = true) : sorB (xs.drop k) = decide (xs.getD k 0 ≤ xs.getD (k + 1) 0) := by
  unfold sorB at *
  rw [decide_eq_true_eq] at ha
  apply decide_eq_decide.2
  rw [List.drop_eq_getElem_cons (show k < xs.length by omega), List.pairwise_cons]
  have e1 : xs.getD k 0 = xs[k] := by rw [List.getD, List.getElem?_eq_getElem (by omega)]; rfl
  have e2 : xs.getD (k + 1) 0 = xs[k + 1] := by rw [List.getD, List.getElem?_eq_getElem h]; rfl
  rw [e1, e2]
  rw [List.drop_eq_getElem_cons h] at ha ⊢
  rw [List.pairwise_cons] at ha
  constructor
  · rintro ⟨h1, _⟩
    exact h1 _ List.mem_cons_self
  · intro h1
    refine ⟨fun b hb => ?_, by rw [List.pairwise_cons]; exact ha⟩
    rw [List.mem_cons] at hb
    rcases hb with rfl | hb
    · exact h1
    · exact Int.le_trans h1 (ha.1 b hb)
theorem sor_last (xs : List Int) (k : Nat) (h : xs.length ≤ k + 1) : sorB (xs.drop k) = true := by
  unfold sorB
  rw [decide_eq_true_eq]
  have : (xs.drop k).length ≤ 1 := by rw [List.length_drop]; omega
  match h : xs.drop k with
  | [] => simp
  | [a] => simp
  | a :: b :: l => rw [h] at this; simp at this
theorem sor_false (xs : List Int) (k : Nat) (h : sorB (xs.drop k) = false) : sorB xs = false := by
  unfold sorB at *
  rw [decide_eq_false_iff_not] at *
  exact fun q => h (List.Pairwise.sublist (List.drop_sublist _ _) q)

def rulB (p : Int) (xs ys : List Int) : Bool := lisB p xs 0 24 && (lisB p ys xs.length xs.length && ascB xs)
theorem rulB_rng {p : Int} {xs ys : List Int} (h : rulB p xs ys = true) : primeB p = true ∧ xs.length ≤ 24 ∧ ys.length = xs.length ∧ areB p xs = true ∧ areB p ys = true ∧ ascB xs = true := by
  unfold rulB at h
  simp only [Bool.and_eq_true] at h
  obtain ⟨h1, _, h2, h3⟩ := lisB_rng h.1
  obtain ⟨_, h4, h5, h6⟩ := lisB_rng h.2.1
  exact ⟨h1, by omega, by omega, h3, h6, h.2.2⟩
theorem rulB_mk {p : Int} {xs ys : List Int} (h1 : primeB p = true) (h2 : xs.length ≤ 24) (h3 : ys.length = xs.length) : rulB p xs ys = (areB p xs && areB p ys && ascB xs) := by
  unfold rulB lisB
  rw [h1, h3]
  simp [show (xs.length : Int) ≤ 24 by omega, Bool.and_assoc]
set_option maxHeartbeats 400000 in
theorem isNaN_any (x : Int) (w : World) : Calls Try.prog 101 #[.int .i64 x] w fun e w' => e = .returned (.bool false) ∧ w = w' := by
  go_enter Try.func101, Try.ntmps101
  go_wp2
  go_ret
  first | exact ⟨rfl, rfl⟩ | simp
set_option maxHeartbeats 800000 in
theorem less_any (x y : Int) (b : Bool) (w : World) (hb : decide (x < y) = b) : Calls Try.prog 97 #[.int .i64 x, .int .i64 y] w fun e w' => e = .returned (.bool b) ∧ w = w' := by
  subst hb
  go_enter Try.func97, Try.ntmps97
  go_wp2_with fail
  refine (isNaN_any _ _).mono ?_
  rintro e w1 ⟨rfl, rfl⟩
  go_wp2
  go_ret
  exact ⟨rfl, rfl⟩
set_option maxRecDepth 100000 in
set_option maxHeartbeats 1600000 in
theorem isSorted_any (a : Option Addr) (n c : Nat) (xs : List Int) (w : World) (hs : SL w a n c xs) (hn : n ≤ 4000000) :
    Calls Try.prog 82 #[.slice a n c] w fun e w' => e = .returned (.bool (sorB xs)) ∧ Below w.heap.size w w' := by
  have hl := hide hs.len
  by_cases h0 : n = 0
  · subst h0
    have hF := hide (show sorB xs = true from sor_last xs 0 (by rw [hl.out]; omega))
    go_enter Try.func82, Try.ntmps82
    go_wp2
    refine wp_loop_rounds 1 ?_
    rw [rounds_succ]
    go_wp2
    go_ret
    exact ⟨ret_bool hF.out.symm, Below.refl _ _⟩
  obtain ⟨b, off, rfl, hbw, hc⟩ := hs.at (by omega)
  have v0 : IntKind.i64.wrap ((n : Int) - 1) = ((n - 1 : Nat) : Int) := by rw [IntWalk.i64_in _ (by omega)]; omega
  have H0 := hide (show sorB (xs.drop (n - 1)) = true from sor_last xs (n - 1) (by rw [hl.out]; omega))
  clear hs
  go_enter Try.func82, Try.ntmps82
  go_wp2
  clear v0
  go_loopw [3] (fun iv wr => ∃ k : Nat, k < n ∧ iv = .int .i64 k ∧ Hid (sorB (xs.drop k) = true) ∧ Below w.heap.size w wr) (fun iv _ => (intOf iv).toNat)
  case atStart => exact ⟨n - 1, by omega, rfl, H0, Below.refl _ _⟩
  case round =>
    obtain ⟨k, hk, rfl, hS, hbr⟩ := hrel
    clear H0
    by_cases hpos : 0 < k
    · have hpos' : (0 : Int) < (k : Int) := by omega
      have e1 : wr.cell? ⟨b, off + k, none⟩ = some (.int .i64 (xs.getD k 0)) := (hbr.cell hbw).trans (hc k hk)
      have e2 : wr.cell? ⟨b, off + (k - 1), none⟩ = some (.int .i64 (xs.getD (k - 1) 0)) := (hbr.cell hbw).trans (hc (k - 1) (by omega))
      have st := hide (sor_drop xs (k - 1) (by rw [hl.out]; omega) (by rw [Nat.sub_add_cancel hpos]; exact hS.out))
      have sf := fun h => hide (sor_false xs (k - 1) h)
      rw [Nat.sub_add_cancel hpos] at st
      obtain ⟨x, hx⟩ : ∃ x, xs.getD k 0 = x := ⟨_, rfl⟩
      obtain ⟨y, hy⟩ : ∃ y, xs.getD (k - 1) 0 = y := ⟨_, rfl⟩
      rw [hx] at e1 st
      rw [hy] at e2 st
      have q1 : (0 : Int) ≤ (k : Int) - 1 := by omega
      have q2 : (k : Int) - 1 < (n : Int) := by omega
      have q3 : ((k : Int) - 1).toNat = k - 1 := by omega
      have q4 : IntKind.i64.wrap ((k : Int) - 1) = (k : Int) - 1 := IntWalk.i64_in _ (by omega)
      have q5 : (k : Int) < (n : Int) := by omega
      clear hx hy hc
      by_cases hlt : x < y
      · have hF := sf (by rw [st.out]; simp; omega)
        have hd := hide (decide_eq_true hlt)
        clear sf hlt
        go_wp2
        go_quiet (first
          | (go_at_call 97; refine Calls.quiet_of_same (still_of (less_any _ _ _ _ hd.out))))
        go_wp2
        go_ret
        exact ⟨ret_bool hF.out.symm, below_drewN hbr _⟩
      · have hN := hide (show sorB (xs.drop (k - 1)) = true by rw [st.out]; simp; omega)
        have hd := hide (decide_eq_false hlt)
        clear sf hlt
        go_wp2
        go_quiet (first
          | (go_at_call 97; refine Calls.quiet_of_same (still_of (less_any _ _ _ _ hd.out))))
        go_wp2
        go_roundw
        case rel => exact ⟨k - 1, by omega, by go_num, hN, below_drewN hbr _⟩
        case measure => simp [intOf]; omega
    · obtain rfl : k = 0 := by omega
      have hF := hide (show sorB xs = true from hS.out)
      go_wp2
      go_ret
      exact ⟨ret_bool hF.out.symm, hbr⟩
set_option maxHeartbeats 800000 in
theorem areAscending_any (a : Option Addr) (n c : Nat) (xs : List Int) (w : World) (hs : SL w a n c xs) (hn : n ≤ 1000) (hxs : ∀ y ∈ xs, (Lit.int .i64 y).wf = true) :
    Calls Try.prog 55 #[.slice a n c] w fun e w' => e = .returned (.bool (ascB xs)) ∧ Below w.heap.size w w' := by
  have HF := hide (asc_both xs)
  cases hS : sorB xs
  · have H := hide (show ascB xs = false by rw [HF.out, hS]; rfl)
    have HS := hide hS
    clear hS
    go_enter Try.func55, Try.ntmps55
    go_wp2_with fail
    refine (isSorted_any _ _ _ xs _ hs (by omega)).mono ?_
    rintro e w1 ⟨rfl, t1⟩
    rw [HS.out]
    go_wp2
    go_ret
    exact ⟨ret_bool H.out.symm, t1⟩
  · have H := hide (show ascB xs = difB xs by rw [HF.out, hS]; rfl)
    have HS := hide hS
    clear hS
    go_enter Try.func55, Try.ntmps55
    go_wp2_with fail
    refine (isSorted_any _ _ _ xs _ hs (by omega)).mono ?_
    rintro e w1 ⟨rfl, t1⟩
    rw [HS.out]
    go_wp2_with fail
    refine (areDifferent_any _ _ _ xs _ (hs.below t1) hn hxs).mono ?_
    rintro e w2 ⟨rfl, t2⟩
    go_wp2
    go_ret
    exact ⟨ret_bool H.out.symm, bnext t1 t2⟩
set_option maxRecDepth 100000 in
set_option maxHeartbeats 3200000 in
theorem l07Is_any (p : Int) (a : Option Addr) (n c : Nat) (xs : List Int) (b : Option Addr) (m d : Nat) (ys : List Int) (w : World) (hs : SL w a n c xs) (ht : SL w b m d ys) (hn : n ≤ 4000000) (hm : m ≤ 4000000) :
    Calls Try.prog 48 #[jac p a n c b m d] w fun e w' => e = .returned (.bool (rulB p xs ys)) ∧ Below w.heap.size w w' := by
  have hl := hide hs.len
  have ht2 := hide ht.len
  have hb0 := bl1 w (.cells #[.int .i64 p, .slice a n c, .slice b m d] 27)
  have g1 := hs.below hb0
  have g2 := ht.below hb0
  cases hp : primeB p
  · have H : Hid (rulB p xs ys = false) := hide (by simp [rulB, lisB, hp])
    have Hp := hide hp
    clear hp
    go_enter Try.func48, Try.ntmps48
    go_wp2_with fail
    refine (l01Prime_any _ _).mono ?_
    rintro e w1 ⟨rfl, rfl⟩
    rw [Hp.out]
    go_wp2
    go_ret
    exact ⟨ret_bool H.out.symm, hb0⟩
  have Hp := hide hp
  obtain ⟨hp1, hp2⟩ := primeB_lo hp
  clear hp
  by_cases hbad : 24 < (n : Int) ∨ (m : Int) ≠ (n : Int)
  · have H : Hid (rulB p xs ys = false) := hide (by
      cases hj : rulB p xs ys
      · rfl
      · have := rulB_rng hj
        rw [hl.out, ht2.out] at this
        omega)
    by_cases h2 : 24 < (n : Int)
    · go_enter Try.func48, Try.ntmps48
      go_wp2_with fail
      refine (l01Prime_any _ _).mono ?_
      rintro e w1 ⟨rfl, rfl⟩
      rw [Hp.out]
      go_wp2
      go_ret
      exact ⟨ret_bool H.out.symm, hb0⟩
    · have ob : ((m : Int) != (n : Int)) = true := by simp; omega
      go_enter Try.func48, Try.ntmps48
      go_wp2_with fail
      refine (l01Prime_any _ _).mono ?_
      rintro e w1 ⟨rfl, rfl⟩
      rw [Hp.out]
      go_wp2
      go_ret
      exact ⟨ret_bool H.out.symm, hb0⟩
  obtain ⟨h2, h3⟩ : ¬ 24 < (n : Int) ∧ m = n := by omega
  clear hbad
  subst h3
  have H : Hid (rulB p xs ys = (areB p xs && areB p ys && ascB xs)) := hide (rulB_mk Hp.out (by rw [hl.out]; omega) (by rw [hl.out, ht2.out]))
  by_cases h0 : m = 0
  · subst h0
    have hF : Hid (rulB p xs ys = true) := hide (by
      have e1 := List.eq_nil_of_length_eq_zero hl.out
      have e2 := List.eq_nil_of_length_eq_zero ht2.out
      rw [H.out, e1, e2]; rfl)
    go_enter Try.func48, Try.ntmps48
    go_wp2_with fail
    refine (l01Prime_any _ _).mono ?_
    rintro e w1 ⟨rfl, rfl⟩
    rw [Hp.out]
    go_wp2
    refine wp_loop_rounds 1 ?_
    rw [rounds_succ]
    go_wp2
    go_ret
    exact ⟨ret_bool hF.out.symm, hb0⟩
  obtain ⟨b1, o1, rfl, hbw1, hc1⟩ := g1.at (by omega)
  obtain ⟨b2, o2, rfl, hbw2, hc2⟩ := g2.at (by omega)
  clear hs ht g1 g2
  go_enter Try.func48, Try.ntmps48
  go_wp2_with fail
  refine (l01Prime_any _ _).mono ?_
  rintro e w1 ⟨rfl, rfl⟩
  rw [Hp.out]
  go_wp2
  go_loopw [3] (fun i wr => ∃ k : Nat, k ≤ m ∧ i = .int .i64 k ∧ Hid (areB p (xs.take k) = true) ∧ Hid (areB p (ys.take k) = true) ∧ Hid (ascB (xs.take k) = true) ∧ Below (w.heap.size + 1) (w.alloc (.cells #[.int .i64 p, .slice (some ⟨b1, o1, none⟩) m c, .slice (some ⟨b2, o2, none⟩) m d] 27)) wr) (fun i _ => m - (intOf i).toNat)
  case atStart => exact ⟨0, by omega, rfl, by simp [Hid, areB], by simp [Hid, areB], hide (by simp [ascB]), Below.refl _ _⟩
  case round =>
    obtain ⟨k, hk, rfl, hR, hS, hQ, hbr⟩ := hrel
    have f0 : wr.cell? ⟨w.heap.size, 0, none⟩ = some (.int .i64 p) := (hbr.cell (by simp)).trans (by simp [go_sem])
    have f1 : wr.cell? ⟨w.heap.size, 1, none⟩ = some (.slice (some ⟨b1, o1, none⟩) m c) := (hbr.cell (by simp)).trans (by simp [go_sem])
    have f2 : wr.cell? ⟨w.heap.size, 2, none⟩ = some (.slice (some ⟨b2, o2, none⟩) m d) := (hbr.cell (by simp)).trans (by simp [go_sem])
    have hB := hb0.trans (hbr.mono (Nat.le_succ _))
    by_cases hlt : k < m
    · have e1 : wr.cell? ⟨b1, o1 + k, none⟩ = some (.int .i64 (xs.getD k 0)) := (hbr.cell (by simpa using hbw1)).trans (hc1 k hlt)
      have e2 : wr.cell? ⟨b2, o2 + k, none⟩ = some (.int .i64 (ys.getD k 0)) := (hbr.cell (by simpa using hbw2)).trans (hc2 k hlt)
      have e3 : wr.cell? ⟨b1, o1 + (k - 1), none⟩ = some (.int .i64 (xs.getD (k - 1) 0)) := (hbr.cell (by simpa using hbw1)).trans (hc1 (k - 1) (by omega))
      have s1 := Lib.hid (areB_snoc p xs k (by rw [hl.out]; exact hlt))
      have s2 := Lib.hid (areB_snoc p ys k (by rw [ht2.out]; exact hlt))
      have s3 := Lib.hid (asc_snoc xs k (by rw [hl.out]; exact hlt) hQ.out)
      have x1 := fun h => Lib.hid (areB_false p xs k (by rw [hl.out]; exact hlt) h)
      have x2 := fun h => Lib.hid (areB_false p ys k (by rw [ht2.out]; exact hlt) h)
      have x3 := fun h => Lib.hid (asc_false xs (k + 1) h)
      obtain ⟨x, hx⟩ : ∃ x, xs.getD k 0 = x := ⟨_, rfl⟩
      obtain ⟨y, hy⟩ : ∃ y, ys.getD k 0 = y := ⟨_, rfl⟩
      obtain ⟨z, hz⟩ : ∃ z, xs.getD (k - 1) 0 = z := ⟨_, rfl⟩
      rw [hx] at e1 s1 x1 s3
      rw [hy] at e2 s2 x2
      rw [hz] at e3 s3
      clear hx hy hz hc1 hc2
      have hlt' : (k : Int) < (m : Int) := by omega
      have hk0 : (0 : Int) ≤ (k : Int) := by omega
      by_cases hx : 0 ≤ x ∧ x ≤ p - 1
      rotate_left
      · have hF : Hid (rulB p xs ys = false) := hide (by rw [H.out, (x1 (by simp [okN]; omega)).out]; simp)
        have hbx := hide hx
        clear x1 x2 x3 hx s1 s2 s3
        go_wp2
        go_quiet (first
          | (go_at_call 72; refine Calls.quiet_of_same (still_of (l01In_no _ _ _ _ hbx.out))))
        go_wp2
        go_ret
        exact ⟨ret_bool hF.out.symm, below_drewN hB _⟩
      by_cases hy : 0 ≤ y ∧ y ≤ p - 1
      rotate_left
      · have hF : Hid (rulB p xs ys = false) := hide (by rw [H.out, (x2 (by simp [okN]; omega)).out]; simp)
        have hbx := hide hx
        have hby := hide hy
        clear x1 x2 x3 hx hy s1 s2 s3
        go_wp2
        go_quiet (first
          | (go_at_call 72; refine Calls.quiet_of_same (still_of (l01In_yes _ _ _ _ hbx.out.1 hbx.out.2)))
          | (go_at_call 72; refine Calls.quiet_of_same (still_of (l01In_no _ _ _ _ hby.out))))
        go_wp2
        go_ret
        exact ⟨ret_bool hF.out.symm, below_drewN hB _⟩
      have n1 : Hid (areB p (xs.take (k + 1)) = true) := hide (by rw [s1.out, hR.out]; simp [okN]; omega)
      have n2 : Hid (areB p (ys.take (k + 1)) = true) := hide (by rw [s2.out, hS.out]; simp [okN]; omega)
      have hbx := hide hx
      have hby := hide hy
      clear x1 x2 hx hy s1 s2
      by_cases hz : k = 0
      · subst hz
        have n3 : Hid (ascB (xs.take (0 + 1)) = true) := hide (by rw [s3.out]; rfl)
        clear s3 x3 e3
        have hq : decide ((0 : Int) < ((0 : Nat) : Int)) = false := by decide
        have hlt0 : (0 : Int) < (m : Int) := by omega
        rw [Nat.add_zero] at e1 e2
        go_wp2
        go_quiet (first
          | (go_at_call 72; refine Calls.quiet_of_same (still_of (l01In_yes _ _ _ _ hbx.out.1 hbx.out.2)))
          | (go_at_call 72; refine Calls.quiet_of_same (still_of (l01In_yes _ _ _ _ hby.out.1 hby.out.2))))
        go_wp2
        go_roundw
        case rel => exact ⟨0 + 1, by omega, by go_num, n1, n2, n3, below_drewN hbr _⟩
        case measure => simp [intOf]; omega
      have q1 : (0 : Int) ≤ (k : Int) - 1 := by omega
      have q2 : (k : Int) - 1 < (m : Int) := by omega
      have q3 : ((k : Int) - 1).toNat = k - 1 := by omega
      have q4 : IntKind.i64.wrap ((k : Int) - 1) = (k : Int) - 1 := IntWalk.i64_in _ (by omega)
      have q5 : (0 : Int) < (k : Int) := by omega
      have q6 : 0 < k := by omega
      by_cases hxz : x ≤ z
      · have hF : Hid (rulB p xs ys = false) := hide (by rw [H.out, (x3 (by rw [s3.out]; simp; omega)).out]; simp)
        clear s3 x3
        go_wp2
        go_quiet (first
          | (go_at_call 72; refine Calls.quiet_of_same (still_of (l01In_yes _ _ _ _ hbx.out.1 hbx.out.2)))
          | (go_at_call 72; refine Calls.quiet_of_same (still_of (l01In_yes _ _ _ _ hby.out.1 hby.out.2))))
        go_wp2
        go_ret
        exact ⟨ret_bool hF.out.symm, below_drewN hB _⟩
      · have n3 : Hid (ascB (xs.take (k + 1)) = true) := hide (by rw [s3.out]; simp; omega)
        clear s3 x3
        go_wp2
        go_quiet (first
          | (go_at_call 72; refine Calls.quiet_of_same (still_of (l01In_yes _ _ _ _ hbx.out.1 hbx.out.2)))
          | (go_at_call 72; refine Calls.quiet_of_same (still_of (l01In_yes _ _ _ _ hby.out.1 hby.out.2))))
        go_wp2
        go_roundw
        case rel => exact ⟨k + 1, by omega, by go_num, n1, n2, n3, below_drewN hbr _⟩
        case measure => simp [intOf]; omega
    · obtain rfl : k = m := by omega
      have hF : Hid (rulB p xs ys = true) := hide (by
        have h1 := hR.out
        have h2 := hS.out
        have h3 := hQ.out
        rw [List.take_of_length_le (by rw [hl.out]; omega)] at h1 h3
        rw [List.take_of_length_le (by rw [ht2.out]; omega)] at h2
        rw [H.out, h1, h2, h3]; rfl)
      go_wp2
      go_ret
      exact ⟨ret_bool hF.out.symm, hB⟩
end Go.Proofs.Ytcadiepghhnbeaa
/- Contracts: addNumber, functional at numbers, l02Apply, checkFunctional, l02Code, ApplyFunctional (program and model). -/
namespace Go.Proofs.Ytcadiepghhnbeaa
open Go.RowKit
set_option linter.unusedVariables false
set_option linter.unusedSimpArgs false

set_option maxHeartbeats 400000 in
theorem addNumber_any (p s k x : Int) (w : World) (hp : 2 ≤ p) (hp2 : p ≤ 10007) (hs : 0 ≤ s) (hs2 : s < p) (hk : 0 ≤ k) (hk2 : k < p) (hx : 0 ≤ x) (hx2 : x < p) :
    Calls Try.prog 75 #[.int .i64 p, .int .i64 s, .int .i64 k, .int .i64 x] w fun e w' => e = .returned (.int .i64 ((s + k * x) % p)) ∧ w = w' := by
  obtain ⟨m1, m2⟩ := mulb hk hk2 hx hx2 hp2
  go_enter Try.func75, Try.ntmps75
  go_wp2
  go_ret
  exact ⟨rfl, rfl⟩
set_option maxRecDepth 100000 in
set_option maxHeartbeats 1600000 in
theorem functional_int (p : Int) (a1 : Option Addr) (n1 c1 : Nat) (f : List Int) (a2 : Option Addr) (n2 c2 : Nat) (xs : List Int) (w : World) (h1 : SL w a1 n1 c1 f) (h2 : SL w a2 n2 c2 xs)
    (b1 : n1 ≤ 1000) (hn : n1 ≤ n2) (hp : 2 ≤ p) (hp2 : p ≤ 10007) (hf : areB p f = true) (hx : areB p xs = true) :
    Calls Try.prog 152 #[.int .i64 p, .slice a1 n1 c1, .slice a2 n2 c2, .int .i64 0, .func (.func 75) #[] #[]] w
      fun e w' => e = .returned (.int .i64 (dotK p f xs 0 f.length)) ∧ w = w' := by
  have hl1 := hide h1.len
  have Hf := hide hf
  have Hx := hide hx
  clear hf hx
  by_cases h0 : n1 = 0
  · subst h0
    have he : Hid (dotK p f xs 0 f.length = 0) := hide (by rw [hl1.out]; rfl)
    go_enter Try.func152, Try.ntmps152
    go_wp2
    refine wp_loop_rounds 1 ?_
    rw [rounds_succ]
    go_wp2
    go_ret
    exact ⟨ret_int he.out.symm, rfl⟩
  obtain ⟨b, off, rfl, hbw, hcell⟩ := h1.at (by omega)
  obtain ⟨b', off', rfl, hbw', hcell'⟩ := h2.at (by omega)
  clear h1 h2
  go_enter Try.func152, Try.ntmps152
  go_wp2
  go_loop [3, 15] (fun sv iv => ∃ i : Nat, i ≤ n1 ∧ iv = .int .i64 i ∧ sv = .int .i64 (dotK p f xs 0 i)) (fun _ iv => n1 - (intOf iv).toNat)
  case atStart => exact ⟨0, by omega, rfl, rfl⟩
  case round =>
    obtain ⟨i, hi, rfl, rfl⟩ := hrel
    by_cases hlt : i < n1
    · have e1 := hcell i hlt
      have e2 := hcell' i (by omega)
      have hst : Hid (dotK p f xs 0 (i + 1) = (dotK p f xs 0 i + f.getD i 0 * xs.getD i 0) % p) := hide (by rw [dotK, Nat.add_zero])
      have r1 := getD_rng Hf.out hp i
      have r2 := getD_rng Hx.out hp i
      have r3 := dotK_rng hp f xs 0 i
      obtain ⟨x, hx⟩ : ∃ x, f.getD i 0 = x := ⟨_, rfl⟩
      obtain ⟨y, hy⟩ : ∃ y, xs.getD i 0 = y := ⟨_, rfl⟩
      obtain ⟨s, hs⟩ : ∃ s, dotK p f xs 0 i = s := ⟨_, rfl⟩
      rw [hx] at e1 hst r1
      rw [hy] at e2 hst r2
      rw [hs] at hst r3 ⊢
      clear hx hy hs hcell hcell'
      have hlt' : (i : Int) < (n1 : Int) := by omega
      have hlt2 : (i : Int) < (n2 : Int) := by omega
      go_wp2_with (go_at_call 75; refine (addNumber_any p s x y _ hp hp2 r3.1 r3.2 r1.1 r1.2 r2.1 r2.2).mono ?_; rintro e w' ⟨rfl, rfl⟩)
      go_round
      case rel => exact ⟨i + 1, by omega, by go_num, by rw [hst.out]⟩
      case measure => simp [intOf]; omega
    · have he : Hid (i = f.length) := hide (by rw [hl1.out]; omega)
      have hlt' : ¬ (i : Int) < (n1 : Int) := by omega
      go_wp2
      go_ret
      exact ⟨ret_int (by rw [← he.out]), rfl⟩
def fnC (p : Int) (xs f : List Int) : Int := if momB p xs then (if polyB p f then (if f.length ≤ xs.length then 0 else 2) else 1) else 1
def fnV (p : Int) (xs f : List Int) : Int := if fnC p xs f = 0 then dotK p f xs 0 f.length else 0
theorem fnC_cases (p : Int) (xs f : List Int) : fnC p xs f = 1 ∨ fnC p xs f = 2 ∨ (fnC p xs f = 0 ∧ momB p xs = true ∧ polyB p f = true ∧ f.length ≤ xs.length) := by
  unfold fnC
  cases momB p xs <;> cases polyB p f <;> simp
  by_cases h : f.length ≤ xs.length
  · exact .inr (.inr h)
  · exact .inr (.inl (by omega))
end Go.Proofs.Ytcadiepghhnbeaa
