/- Contracts: slices.Clone at lists, slices.IndexFunc with the pivot's closure, eliminate (program). -/
import Derived.Test.YtagheoddbikdgaaHr
namespace Go.Proofs.Ytagheoddbikdgaa
open Go.RowKit
set_option linter.unusedVariables false
set_option linter.unusedSimpArgs false

set_option maxRecDepth 100000 in
set_option maxHeartbeats 800000 in
theorem cloneV_any (g0 n m cap0 : Nat) (X : Nat → List Int) (w : World) (hc : ∀ i, i < m → ∃ a c, w.cell? ⟨g0, i, none⟩ = some (.slice a n c) ∧ SL w a n c (X i)) (hm : m ≤ 1000) (hn : 1 ≤ n) :
    Calls Try.prog 141 #[.slice (some ⟨g0, 0, none⟩) m cap0] w fun e w' => ∃ ad cap vs, e = .returned (.slice ad m cap) ∧ OwnV w.heap.size w' ad cap vs ∧ vs.length = m ∧ (∀ i, i < m → ∃ a c, vs[i]? = some (.slice a n c) ∧ SL w' a n c (X i) ∧ ∀ b, blk a = some b → b < w.heap.size) ∧ Below w.heap.size w w' := by
  have hq := fun w => Lib.run_eql_slice_nil (P := Try.prog) w 62 22 (some ⟨g0, 0, none⟩) m cap0 0 0 Try.underlying62
  have hvs : ∃ vs : List Value, vs.length = m ∧ (∀ i, i < m → ∃ a c, vs[i]? = some (.slice a n c) ∧ w.cell? ⟨g0, i, none⟩ = some (.slice a n c) ∧ SL w a n c (X i)) := by
    refine ⟨(List.range m).map (fun i => (w.cell? ⟨g0, i, none⟩).getD undef), by simp, fun i hi => ?_⟩
    obtain ⟨a, c, h1, h2⟩ := hc i hi
    exact ⟨a, c, by simp [hi, h1], h1, h2⟩
  obtain ⟨vs, hl, hv⟩ := hvs
  have Hv := hide hv
  have Hl := hide hl
  have hb1 := bl1 w (.cells #[] 22)
  have ho : OwnV w.heap.size (w.alloc (.cells #[] 22)) (some ⟨w.heap.size, 0, none⟩) 0 [] := World.ownsRow_lit w (base := w.heap.size) (e := 22) (size := 1) #[] 0 (Nat.le_refl _) (by simp) rfl
  have hz : ∀ j u, vs[j]? = some u → (w.alloc (.cells #[] 22)).cell? ((⟨g0, 0, none⟩ : Addr).add j) = some u := fun j u hj => by
    have hj' : j < m := by have := (List.getElem?_eq_some_iff.1 hj).1; omega
    obtain ⟨a, c, h1, h2, _⟩ := hv j hj'
    rw [h1] at hj
    cases hj
    rw [Addr.add_lit, Nat.zero_add]
    exact cell_be hb1 h2
  have h1 : ∀ u ∈ vs, u.oneCell' = true := fun u hu => by
    obtain ⟨i, hi, rfl⟩ := List.mem_iff_getElem.1 hu
    obtain ⟨a, c, h1, _⟩ := hv i (by omega)
    rw [List.getElem?_eq_getElem hi] at h1
    rw [Option.some.inj h1]
    rfl
  have Hz := hide hz
  have H1 := hide h1
  clear hv hl hz h1 hc
  go_enter Try.func141, Try.ntmps141
  go_wp2_with (at_builtin; refine wp_appendV rfl _ _ rfl w.heap.size _ _ _ [] rfl rfl ho _ m cap0 vs rfl Hl.out Hz.out H1.out (by omega) (by simp) ?_; intro ad' cap' w1 hown hb; simp only [List.nil_append] at hown)
  refine bodyPost_ret (v := .slice ad' vs.length cap') (by simp [results, Try.results141]) rfl ?_
  have hB := hb1.trans hb
  exact ⟨ad', ⟨cap', ⟨vs, by rw [Hl.out], hown, Hl.out, (fun i hi => by
    obtain ⟨a, c, h1, h2, h3⟩ := Hv.out i hi
    refine ⟨a, c, h1, h3.below hB, fun b hb' => ?_⟩
    obtain ⟨bb, oo, rfl, hw, _⟩ := h3.at (by omega)
    simp [blk] at hb'
    omega), hB⟩⟩⟩
set_option maxRecDepth 100000 in
set_option maxHeartbeats 800000 in
theorem pivot_any (a : Option Addr) (n c k : Nat) (xs : List Int) (x : Int) (kb : Nat) (w : World) (hs : SL w a n c xs) (hk : w.cell? ⟨kb, 0, none⟩ = some (.int .i64 k)) (hkn : k < n) (hn : n ≤ 1000) (hx : xs.getD k 0 = x) :
    Calls Try.prog 143 #[.slice a n c, .pointer (some ⟨kb, 0, none⟩)] w fun e w' => e = .returned (.bool (x != 0)) ∧ w = w' := by
  obtain ⟨b, off, rfl, hbw, hcell⟩ := hs.at (by omega)
  have e1 := hcell k hkn
  rw [hx] at e1
  have hlt : (k : Int) < (n : Int) := by omega
  clear hcell hs hx
  go_enter Try.func143, Try.ntmps143
  go_wp2
  go_ret
  exact ⟨rfl, rfl⟩
set_option maxRecDepth 100000 in
set_option maxHeartbeats 1600000 in
theorem indexFunc_any (B g n cap : Nat) (vs : List Value) (X : Nat → List Int) (k kb : Nat) (w : World) (h : RowsX B g n cap w vs X n) (hk : w.cell? ⟨kb, 0, none⟩ = some (.int .i64 k)) (hkn : k < n) (hn : n ≤ 1000) :
    Calls Try.prog 142 #[.slice (some ⟨g, k, none⟩) (n - k) (cap - k), .func (.func 143) #[] #[.pointer (some ⟨kb, 0, none⟩)]] w
      fun e w' => ∃ r : Int, e = .returned (.int .i64 r) ∧ ((pivF X k (n - k) k = n ∧ r = -1) ∨ (∃ j : Nat, pivF X k (n - k) k = k + j ∧ r = j ∧ k + j < n)) ∧ w = w' := by
  have H := hide h
  obtain ⟨m, hm⟩ : ∃ m, m = n - k := ⟨_, rfl⟩
  rw [← hm]
  have Hm := hide (show k + m = n by omega)
  have hm9 : m ≤ 1000 := by omega
  have hz0 : Hid (∀ i, k ≤ i → i < k + 0 → (X i).getD k 0 = 0) := hide (fun i h1 h2 => by omega)
  clear h hm
  go_enter Try.func142, Try.ntmps142
  go_wp2
  go_loop [8] (fun iv => ∃ j : Nat, j ≤ m ∧ iv = .int .i64 j ∧ Hid (∀ i, k ≤ i → i < k + j → (X i).getD k 0 = 0)) (fun iv => m - (intOf iv).toNat)
  case atStart => exact ⟨0, by omega, rfl, hz0⟩
  case round =>
    obtain ⟨j, hj, rfl, hZ⟩ := hrel
    clear hz0
    by_cases hlt : j < m
    · obtain ⟨a, c, e1, s1, _, _⟩ := H.out.get (k + j) (by have := Hm.out; omega)
      obtain ⟨x, hx⟩ : ∃ x, (X (k + j)).getD k 0 = x := ⟨_, rfl⟩
      have HX := hide hx
      clear hx
      have hlt' : (j : Int) < (m : Int) := by omega
      by_cases hz : x = 0
      · subst hz
        go_wp2_with fail
        refine (pivot_any _ _ _ k _ 0 kb _ s1 hk hkn hn HX.out).mono ?_
        rintro e w2 ⟨rfl, rfl⟩
        go_wp2
        go_round
        case rel => exact ⟨j + 1, by omega, by go_num, hide (fun i h1 h2 => by
          by_cases e : i = k + j
          · rw [e]; exact HX.out
          · exact hZ.out i h1 (by omega))⟩
        case measure => simp [intOf]; omega
      · have ob : (x != 0) = true := by simpa using hz
        have hp : Hid (pivF X k m k = k + j) := hide (pivF_stop X k m k j hlt hZ.out (by rw [HX.out]; exact hz))
        clear hz
        go_wp2_with fail
        refine (pivot_any _ _ _ k _ x kb _ s1 hk hkn hn HX.out).mono ?_
        rintro e w2 ⟨rfl, rfl⟩
        go_wp2
        refine bodyPost_ret (v := .int .i64 (j : Int)) (by simp [results, Try.results142]) rfl ?_
        exact ⟨_, rfl, .inr ⟨j, hp.out, rfl, by have := Hm.out; omega⟩, rfl⟩
    · have hjm : j = m := by omega
      have hp : Hid (pivF X k m k = n) := hide (by rw [pivF_skip X k m k (fun i h1 h2 => hZ.out i h1 (by omega))]; exact Hm.out)
      have hge : ¬ (j : Int) < (m : Int) := by omega
      clear hjm
      go_wp2
      refine bodyPost_ret (v := .int .i64 (-1)) (by simp [results, Try.results142]) rfl ?_
      exact ⟨_, rfl, .inl ⟨hp.out, rfl⟩, rfl⟩
end Go.Proofs.Ytagheoddbikdgaa
