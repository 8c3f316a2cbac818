/- Merged texts. -/
import Derived.Test.YtmdfgibpkfkceaaYMj26
import Derived.Test.YtmdfgibpkfkceaaYMj18
import Derived.Test.YtmdfgibpkfkceaaYMj14
import Derived.Test.YtmdfgibpkfkceaaYMj20
import Derived.BigRegion
import Derived.Deep.RegionHeld3
import Derived.Deep.DeepFit
import Derived.Test.YtmdfgibpkfkceaaYMj25
import Derived.Test.YtmdfgibpkfkceaaYMj10
/- Contracts: l01Points, interpolate, l01Interpolate, InterpolatePoly (program and model). -/
namespace Go.Proofs.Ytmdfgibpkfkceaa
open Go.RowKit
set_option linter.unusedVariables false
set_option linter.unusedSimpArgs false

set_option maxRecDepth 100000 in
set_option maxHeartbeats 800000 in
theorem l01Points_f (p : Int) (a : Option Addr) (n c : Nat) (xs : List Int) (w : World) (hs : SL w a n c xs) (hn : n ≤ 4000000) (hp : -1000000000000 ≤ p) (hp2 : p ≤ 1000000000000) :
    Calls Try.prog 107 #[.int .i64 p, .slice a n c, .bool false] w fun e w' => e = .returned (.bool (areB p xs)) ∧ Below w.heap.size w w' := by
  have hl := hide hs.len
  by_cases h0 : n = 0
  · subst h0
    obtain rfl := hs.empty
    go_enter Try.func107, Try.ntmps107
    go_wp2
    refine wp_loop_rounds 1 ?_
    rw [rounds_succ]
    go_wp2
    go_ret
    exact ⟨rfl, Below.refl _ _⟩
  obtain ⟨b, off, rfl, hbw, hcell⟩ := hs.at (by omega)
  clear hs
  have hb0 := Below.refl w.heap.size w
  go_enter Try.func107, Try.ntmps107
  go_wp2
  go_loopw [7] (fun i wr => ∃ k : Nat, k ≤ n ∧ i = .int .i64 k ∧ Hid (areB p (xs.take k) = true) ∧ Below w.heap.size w wr) (fun i _ => n - (intOf i).toNat)
  case atStart => exact ⟨0, by omega, rfl, by simp [Hid, areB], hb0⟩
  case round =>
    obtain ⟨k, hk, rfl, hR, hb⟩ := hrel
    by_cases hlt : k < n
    · have e1 := cell_be hb (hcell k hlt)
      have hsn := hide (areB_snoc p xs k (by rw [hl.out]; exact hlt))
      obtain ⟨x, hx⟩ : ∃ x, x = xs.getD k 0 := ⟨_, rfl⟩
      rw [← hx] at e1
      have Hx := hide hx
      clear hx hcell
      have hlt' : (k : Int) < (n : Int) := by omega
      by_cases hok : 0 ≤ x ∧ x ≤ p - 1
      · go_wp2_with fail
        refine (l01In_yes _ _ _ _ hok.1 hok.2).mono ?_
        rintro e w' ⟨rfl, rfl⟩
        go_wp2
        refine wp_loop_rounds 1 ?_
        rw [rounds_succ]
        go_wp2
        all_goals exact ⟨⟨k + 1, by omega, by go_num, hide (by rw [hsn.out, hR.out, ← Hx.out]; simp [okN]; omega), hb⟩, by simp [intOf]; omega⟩
      · have hF : Hid (areB p xs = false) := hide (areB_false p xs k (by rw [hl.out]; exact hlt) (by rw [← Hx.out]; simp [okN]; omega))
        go_wp2_with fail
        refine (l01In_no _ _ _ _ hok).mono ?_
        rintro e w' ⟨rfl, rfl⟩
        go_wp2
        go_ret
        exact ⟨ret_bool hF.out.symm, hb⟩
    · obtain rfl : k = n := by omega
      have hF : Hid (areB p xs = true) := hide (by have := hR.out; rwa [List.take_of_length_le (by rw [hl.out]; omega)] at this)
      go_wp2
      go_ret
      exact ⟨ret_bool hF.out.symm, hb⟩
theorem nodup_snoc (xs : List Int) (k : Nat) (hk : k < xs.length) : (xs.take (k + 1)).Nodup ↔ (xs.take k).Nodup ∧ xs.getD k 0 ∉ xs.take k := by
  rw [take_snoc xs k hk, List.nodup_append]
  constructor
  · rintro ⟨h1, _, h3⟩
    exact ⟨h1, fun h => h3 _ h _ (by simp) rfl⟩
  · rintro ⟨h1, h2⟩
    exact ⟨h1, by simp, fun a ha b hb e => by simp at hb; rw [hb] at e; rw [List.getD] at h2; rw [e] at ha; exact h2 ha⟩
theorem nodup_take {xs : List Int} (h : xs.Nodup) (k : Nat) : (xs.take k).Nodup := List.Sublist.nodup (List.take_sublist k xs) h
theorem mem_take_snoc (xs : List Int) (j : Nat) (x : Int) (hj : j < xs.length) : x ∈ xs.take (j + 1) ↔ x ∈ xs.take j ∨ x = xs.getD j 0 := by
  rw [take_snoc xs j hj]; simp
set_option maxRecDepth 100000 in
set_option maxHeartbeats 1600000 in
theorem l01Points_t (p : Int) (a : Option Addr) (n c : Nat) (xs : List Int) (w : World) (hs : SL w a n c xs) (hn : n ≤ 4000000) (hp : -1000000000000 ≤ p) (hp2 : p ≤ 1000000000000) :
    Calls Try.prog 107 #[.int .i64 p, .slice a n c, .bool true] w fun e w' => e = .returned (.bool (areB p xs && difB xs)) ∧ Below w.heap.size w w' := by
  have hl := hide hs.len
  by_cases h0 : n = 0
  · subst h0
    obtain rfl := hs.empty
    go_enter Try.func107, Try.ntmps107
    go_wp2
    refine wp_loop_rounds 1 ?_
    rw [rounds_succ]
    go_wp2
    go_ret
    exact ⟨rfl, Below.refl _ _⟩
  obtain ⟨b, off, rfl, hbw, hcell'⟩ := hs.at (by omega)
  have hcell := hide hcell'
  clear hs hcell'
  have hb0 := Below.refl w.heap.size w
  go_enter Try.func107, Try.ntmps107
  go_wp2
  go_loopw [7] (fun i wr => ∃ k : Nat, k ≤ n ∧ i = .int .i64 k ∧ Hid (areB p (xs.take k) = true) ∧ Hid ((xs.take k).Nodup) ∧ Below w.heap.size w wr) (fun i _ => n - (intOf i).toNat)
  case atStart => exact ⟨0, by omega, rfl, by simp [Hid, areB], hide (by simp), hb0⟩
  case round =>
    obtain ⟨k, hk, rfl, hR, hD, hb⟩ := hrel
    by_cases hlt : k < n
    · have e1 := cell_be hb (hcell.out k hlt)
      have hsn := hide (areB_snoc p xs k (by rw [hl.out]; exact hlt))
      obtain ⟨x, hx⟩ : ∃ x, x = xs.getD k 0 := ⟨_, rfl⟩
      rw [← hx] at e1
      have Hx := hide hx
      clear hx
      have hlt' : (k : Int) < (n : Int) := by omega
      by_cases hok : 0 ≤ x ∧ x ≤ p - 1
      · go_wp2_with fail
        refine (l01In_yes _ _ _ _ hok.1 hok.2).mono ?_
        rintro e w' ⟨rfl, rfl⟩
        go_wp2
        clear hb0
        go_loopw [8] (fun j wq => ∃ m : Nat, m ≤ k ∧ j = .int .i64 m ∧ Hid (x ∉ xs.take m) ∧ Below w.heap.size w wq) (fun j _ => k - (intOf j).toNat)
        case atStart => exact ⟨0, by omega, rfl, hide (by simp), hb⟩
        case round =>
          obtain ⟨m, hm, rfl, hN, hb2⟩ := hrel
          clear hb e1
          have hk0 : (0 : Int) ≤ (k : Int) := by omega
          have hm0 : (0 : Int) ≤ (m : Int) := by omega
          by_cases hlm : m < k
          · have e1 := cell_be hb2 (hcell.out k hlt)
            rw [← Hx.out] at e1
            have e2 := cell_be hb2 (hcell.out m (by omega))
            obtain ⟨y, hy⟩ : ∃ y, y = xs.getD m 0 := ⟨_, rfl⟩
            rw [← hy] at e2
            have Hy := hide hy
            clear hy
            have hlm' : (m : Int) < (k : Int) := by omega
            have hmn : (m : Int) < (n : Int) := by omega
            by_cases hxy : y = x
            · have hF : Hid ((areB p xs && difB xs) = false) := hide (by
                have h1 : ¬ xs.Nodup := fun h => by
                  have h2 := (nodup_snoc xs k (by rw [hl.out]; exact hlt)).1 (nodup_take h (k + 1))
                  refine h2.2 ?_
                  rw [← Hx.out, ← hxy, Hy.out]
                  have h3 := (mem_take_snoc xs m (xs.getD m 0) (by rw [hl.out]; omega)).2 (.inr rfl)
                  have h4 : xs.take (m + 1) = (xs.take k).take (m + 1) := by rw [List.take_take, Nat.min_eq_left (by omega)]
                  rw [h4] at h3
                  exact List.mem_of_mem_take h3
                unfold difB
                rw [decide_eq_false h1]; simp)
              have ob : (y == x) = true := by simpa using hxy
              clear hxy
              go_wp2_with fail
              go_region
              all_goals go_wp2
              all_goals go_ret
              all_goals exact ⟨ret_bool hF.out.symm, hb2.drew⟩
            · have hN2 : Hid (x ∉ xs.take (m + 1)) := hide (by
                rw [mem_take_snoc xs m x (by rw [hl.out]; omega)]
                rintro (h | h)
                · exact hN.out h
                · exact hxy (by rw [Hy.out, h]))
              have ob : (y == x) = false := by simpa using hxy
              clear hxy
              go_wp2_with fail
              go_region
              all_goals go_wp2
              all_goals go_roundw
              all_goals first
                | exact ⟨m + 1, by omega, by go_num, hN2, hb2.drew⟩
                | (simp [intOf]; omega)
          · have hmk : m = k := by omega
            have hN2 : Hid ((xs.take (k + 1)).Nodup) := hide ((nodup_snoc xs k (by rw [hl.out]; exact hlt)).2 ⟨hD.out, by rw [← Hx.out]; have := hN.out; rwa [hmk] at this⟩)
            have hlm' : ¬ (m : Int) < (k : Int) := by omega
            clear hmk
            go_wp2
            go_roundw
            case rel => exact ⟨k + 1, by omega, by go_num, hide (by rw [hsn.out, hR.out, ← Hx.out]; simp [okN]; omega), hN2, hb2⟩
            case measure => simp [intOf]; omega
      · have hF : Hid ((areB p xs && difB xs) = false) := hide (by rw [areB_false p xs k (by rw [hl.out]; exact hlt) (by rw [← Hx.out]; simp [okN]; omega)]; rfl)
        go_wp2_with fail
        refine (l01In_no _ _ _ _ hok).mono ?_
        rintro e w' ⟨rfl, rfl⟩
        go_wp2
        go_ret
        exact ⟨ret_bool hF.out.symm, hb⟩
    · obtain rfl : k = n := by omega
      have hF : Hid ((areB p xs && difB xs) = true) := hide (by
        have h1 := hR.out
        have h2 := hD.out
        rw [List.take_of_length_le (by rw [hl.out]; omega)] at h1 h2
        unfold difB
        rw [h1, decide_eq_true h2]; rfl)
      go_wp2
      go_ret
      exact ⟨ret_bool hF.out.symm, hb⟩
theorem mulpI {p : Int} {f g : List Int} (hp : primeB p = true) (hf : polyB p f = true) (hg : polyB p g = true) (hl : (mulM p f g).length ≤ 25) : polyB p (mulM p f g) = true := by
  have hpl := primeB_lo hp
  have := polyB_trim (p := p) (xs := mulM p f g) hl (fun j hj => areB_at (mulM_areB hpl.1 f g) j hj)
  rwa [mulM_trim hp hf hg] at this
theorem timesT (p : Int) (a1 : Option Addr) (n1 c1 : Nat) (f : List Int) (a2 : Option Addr) (n2 c2 : Nat) (g : List Int) (w : World) (h1 : SL w a1 n1 c1 f) (h2 : SL w a2 n2 c2 g)
    (b1 : n1 ≤ 1000) (b2 : n2 ≤ 1000) (hp : 2 ≤ p) (hp2 : p ≤ 10007) (hf : areB p f = true) (hg : areB p g = true) (ht : trimL (mulM p f g) = mulM p f g) :
    Calls Try.prog 145 #[.int .i64 p, .slice a1 n1 c1, .slice a2 n2 c2] w fun e w' => ∃ a' c', e = .returned (.slice a' (mulM p f g).length c') ∧ Own w.heap.size w' a' c' (mulM p f g) ∧ Below w.heap.size w w' := by
  have := l01Times_any p a1 n1 c1 f a2 n2 c2 g w h1 h2 b1 b2 hp hp2 hf hg
  rwa [ht] at this
/-- The polynomial that was found, and the product of x less the nodes, behind so many nodes. -/
def itpF (p : Int) (xs ys : List Int) : Nat → List Int × List Int
  | 0 => ([], [1])
  | i + 1 =>
    let s := itpF p xs ys i
    (addM p s.1 s.2 ((ys.getD i 0 - evM p s.1 (xs.getD i 0)) % p * invM p (evM p s.2 (xs.getD i 0)) % p), mulM p s.2 (linM p (xs.getD i 0)))
theorem itp_q {p : Int} (hp : primeB p = true) (xs ys : List Int) : ∀ i, areB p (itpF p xs ys i).2 = true ∧ (itpF p xs ys i).2.length ≤ i + 1 ∧ (i ≤ 24 → polyB p (itpF p xs ys i).2 = true) := by
  have hpl := primeB_lo hp
  intro i
  induction i with
  | zero => refine ⟨?_, ?_, fun _ => ?_⟩ <;> simp [itpF, areB, okN, polyB, lastZ] <;> omega
  | succ i ih =>
    have hlen : (itpF p xs ys (i + 1)).2.length ≤ i + 1 + 1 := by
      show (mulM p (itpF p xs ys i).2 (linM p (xs.getD i 0))).length ≤ _
      rcases mulM_up (p := p) (f := (itpF p xs ys i).2) (g := linM p (xs.getD i 0)) with h | ⟨_, _, h⟩
      · omega
      · rw [h]; have : (linM p (xs.getD i 0)).length = 2 := rfl; omega
    exact ⟨mulM_are hpl.1, hlen, fun h => mulpI hp (ih.2.2 (by omega)) (linM_poly hpl.1) (by have := hlen; show (itpF p xs ys (i + 1)).2.length ≤ 25; omega)⟩
theorem itp_f {p : Int} (hp : primeB p = true) (xs ys : List Int) : ∀ i, i ≤ 25 → areB p (itpF p xs ys i).1 = true ∧ (itpF p xs ys i).1.length ≤ i := by
  have hpl := primeB_lo hp
  intro i
  induction i with
  | zero => intro _; exact ⟨rfl, by simp [itpF]⟩
  | succ i ih =>
    intro hi
    replace ih := ih (by omega)
    refine ⟨(polyB_rng (addM_poly hpl.1 (by have := ih.2; omega) (by have := (itp_q hp xs ys i).2.1; omega) ih.1)).2.1, ?_⟩
    show (addM p _ _ _).length ≤ _
    unfold addM
    refine Nat.le_trans (trimL_le _) ?_
    rw [tab_len]
    have := (itp_q hp xs ys i).2.1
    omega
theorem itp_trim {p : Int} (hp : primeB p = true) (xs ys : List Int) (i : Nat) (hi : i ≤ 24) : trimL (mulM p (itpF p xs ys i).2 (linM p (xs.getD i 0))) = mulM p (itpF p xs ys i).2 (linM p (xs.getD i 0)) :=
  mulM_trim hp ((itp_q hp xs ys i).2.2 hi) (linM_poly (primeB_lo hp).1)
def itpC (p : Int) (xs ys : List Int) : Int := if primeB p && decide (xs.length ≤ 25) && decide (ys.length = xs.length) && areB p xs && areB p ys && difB xs then 0 else 2
def itpV (p : Int) (xs ys : List Int) : List Int := if itpC p xs ys = 0 then (itpF p xs ys xs.length).1 else []
end Go.Proofs.Ytmdfgibpkfkceaa
/- Contracts: isListFor, l05Given, InverseSeries, SeriesOf (program and model). -/
namespace Go.Proofs.Ytmdfgibpkfkceaa
open Go.RowKit
set_option linter.unusedVariables false
set_option linter.unusedSimpArgs false

def lisB (p : Int) (xs : List Int) (lo hi : Int) : Bool := primeB p && (decide (lo ≤ xs.length) && decide ((xs.length : Int) ≤ hi)) && areB p xs
theorem lisB_rng {p : Int} {xs : List Int} {lo hi : Int} (h : lisB p xs lo hi = true) : primeB p = true ∧ lo ≤ xs.length ∧ (xs.length : Int) ≤ hi ∧ areB p xs = true := by
  unfold lisB at h
  simp only [Bool.and_eq_true, decide_eq_true_eq] at h
  exact ⟨h.1.1, h.1.2.1, h.1.2.2, h.2⟩
def invsC (p : Int) (xs : List Int) : Int := if lisB p xs 1 24 = true then (if xs.getD 0 0 = 0 then 5 else 0) else 2
def invsV (p : Int) (xs : List Int) : List Int := if invsC p xs = 0 then serL p [1] xs xs.length else []
theorem areB_one {p : Int} (hp : 2 ≤ p) : areB p [1] = true := by simp [areB, okN]; omega
end Go.Proofs.Ytmdfgibpkfkceaa
