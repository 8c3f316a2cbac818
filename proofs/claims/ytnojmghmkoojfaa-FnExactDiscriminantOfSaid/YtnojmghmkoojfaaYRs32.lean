/- Merged texts. -/
import Derived.Test.YtnojmghmkoojfaaYRs31
import Derived.Test.YtnojmghmkoojfaaYRs30
/- Contracts: l02Hankel, l02Order (model). -/
namespace Go.Proofs.Ytnojmghmkoojfaa
open Go.RowKit
set_option linter.unusedVariables false
set_option linter.unusedSimpArgs false

theorem SL.grown {w w' : World} {row : Option Nat} {a : Option Addr} {n c : Nat} {xs : List Int} (h : SL w a n c xs) (hg : w.grownBy w' row) (hne : ∀ b, blk a = some b → row ≠ some b) : SL w' a n c xs := by
  obtain ⟨h1, h2, h3⟩ := h
  refine ⟨h1, h2, ?_⟩
  rcases h3 with h3 | ⟨b, off, rfl, hc⟩
  · exact .inl h3
  · exact .inr ⟨b, off, rfl, fun i hi => cell_ne hg (hc i hi) (hne b rfl)⟩
theorem OwnV.blkLt {B : Nat} {w : World} {a : Option Addr} {c : Nat} {ys : List Value} (h : OwnV B w a c ys) : ∀ g, blk a = some g → g < w.heap.size := fun g hg => by
  rcases h.2 with ⟨h1, _⟩ | ⟨g', c', cur, h1, _, h3, _⟩
  · simp only [Value.slice.injEq] at h1
    rw [h1.1] at hg; cases hg
  · simp only [Value.slice.injEq] at h1
    rw [h1.1] at hg; cases hg; exact lt_of_block h3
/-- Rows that have been collected: slices of n numbers each, in blocks other than that of the rows. -/
def Coll (w : World) (r : Option Addr) (n : Nat) (vs : List Value) (X : Nat → List Int) (i : Nat) : Prop :=
  ∀ j, j < i → ∃ a c, vs[j]? = some (.slice a n c) ∧ SL w a n c (X j) ∧ (∀ b, blk a = some b → blk r ≠ some b ∧ b < w.heap.size)
set_option maxRecDepth 100000 in
set_option maxHeartbeats 800000 in
theorem l02Det_zero (p : Int) (a : Option Addr) (c : Nat) (w : World) :
    Calls Try.prog 113 #[.int .i64 p, .slice a 0 c] w fun e w' => e = .returned (.int .i64 1) ∧ w = w' := by
  go_enter Try.func113, Try.ntmps113
  go_wp2
  refine wp_loop_rounds 1 ?_
  rw [rounds_succ]
  go_wp2
  go_ret
  exact ⟨rfl, rfl⟩
end Go.Proofs.Ytnojmghmkoojfaa
/- The determinant of the rows of two lists (model): l06Sylvester. -/
namespace Go.Proofs.Ytnojmghmkoojfaa
open Go.RowKit
set_option linter.unusedVariables false
set_option linter.unusedSimpArgs false

/-- A row in which the first k numbers of A are laid from o on. -/
def rowT (A : List Int) (o k : Nat) : Nat → Int := fun j => if o ≤ j ∧ j < o + k then A.getD (j - o) 0 else 0
theorem rowT_zero (A : List Int) (o N : Nat) : tab N (fun _ => 0) = tab N (rowT A o 0) := tab_congr fun j _ => by
  unfold rowT
  rw [if_neg (by omega)]
theorem rowT_set (A : List Int) (o k N : Nat) : (tab N (rowT A o k)).set (o + k) (A.getD k 0) = tab N (rowT A o (k + 1)) := by
  rw [tab_set]
  apply tab_congr
  intro j _
  unfold rowT
  by_cases e : j = o + k
  · subst e
    rw [if_pos rfl, if_pos (by omega), Nat.add_sub_cancel_left]
  · rw [if_neg e]
    by_cases h : o ≤ j ∧ j < o + k
    · rw [if_pos h, if_pos (by omega)]
    · rw [if_neg h, if_neg (by omega)]
theorem rowT_first (n m : Nat) (A B : List Int) (i : Nat) (hi : i < m) : tab (n + m) (rowT A i (n + 1)) = sylX n m A B i := tab_congr fun j _ => by
  unfold sylR rowT
  rw [if_pos hi]
theorem rowT_second (n m : Nat) (A B : List Int) (k : Nat) : tab (n + m) (rowT B k (m + 1)) = sylX n m A B (m + k) := tab_congr fun j _ => by
  unfold sylR
  rw [if_neg (show ¬ m + k < m by omega), Nat.add_sub_cancel_left]
  rfl
theorem revL_at2 (f : List Int) (k : Nat) (h : k < f.length) : (revL f).getD k 0 = f.getD (f.length - 1 - k) 0 := by
  unfold revL
  rw [tab_at _ _ _ h]
theorem Coll.push {w3 wl w' : World} {a' ad' : Option Addr} {N i G : Nat} {vs : List Value} {X : Nat → List Int} (hC : Coll w3 a' N vs X i) (hvl : vs.length = i) (hG : G < w3.heap.size)
    (hs : SL w3 (some ⟨G, 0, none⟩) N N (X i)) (hne : ∀ b, blk a' = some b → b < w3.heap.size ∧ b ≠ G) (hba : Below w3.heap.size w3 wl) (hzl : w3.heap.size ≤ wl.heap.size) (hgr : wl.grownBy w' (blk a')) (hloc : blk ad' = blk a' ∨ blk ad' = some wl.heap.size) :
    Coll w' ad' N (vs ++ [Value.slice (some ⟨G, 0, none⟩) N N]) X (i + 1) := fun j hj => by
  have hsz := hgr.size
  by_cases e : j = i
  · subst e
    refine ⟨_, _, by rw [List.getElem?_append_right (by omega), hvl]; simp, (hs.below hba).grown hgr (fun b' hb' hr => ?_), fun b' hb' => ⟨fun hr => ?_, ?_⟩⟩
    · simp [blk] at hb'
      subst hb'
      exact (hne _ hr).2 rfl
    · simp [blk] at hb'
      subst hb'
      rcases hloc with h | h
      · rw [h] at hr
        exact (hne _ hr).2 rfl
      · rw [h] at hr
        simp at hr
        omega
    · simp [blk] at hb'
      omega
  · obtain ⟨a0, c0, h1, h2, h3⟩ := hC j (by omega)
    refine ⟨a0, c0, by rw [List.getElem?_append_left (by omega)]; exact h1, (h2.below hba).grown hgr (fun b' hb' => (h3 b' hb').1), fun b' hb' => ⟨fun hr => ?_, by have := (h3 b' hb').2; omega⟩⟩
    rcases hloc with h | h
    · rw [h] at hr
      exact (h3 b' hb').1 hr
    · rw [h] at hr
      simp at hr
      have := (h3 b' hb').2
      omega
theorem Coll.below {w w' : World} {r : Option Addr} {n i : Nat} {vs : List Value} {X : Nat → List Int} (h : Coll w r n vs X i) (hb : Below w.heap.size w w') : Coll w' r n vs X i := fun j hj => by
  obtain ⟨a0, c0, h1, h2, h3⟩ := h j hj
  exact ⟨a0, c0, h1, h2.below hb, fun b hbb => ⟨(h3 b hbb).1, Nat.lt_of_lt_of_le (h3 b hbb).2 hb.size⟩⟩
set_option maxRecDepth 100000 in
set_option maxHeartbeats 6400000 in
theorem l06Sylvester_any (p : Int) (a1 : Option Addr) (n1 c1 : Nat) (f : List Int) (a2 : Option Addr) (n2 c2 : Nat) (g : List Int) (w : World) (h1 : SL w a1 n1 c1 f) (h2 : SL w a2 n2 c2 g)
    (k1 : 1 ≤ n1) (k2 : 1 ≤ n2) (b1 : n1 ≤ 100) (b2 : n2 ≤ 100) (hp : 2 ≤ p) (hp2 : p ≤ 10007) (hf : areB p f = true) (hg : areB p g = true) :
    Calls Try.prog 80 #[.int .i64 p, .slice a1 n1 c1, .slice a2 n2 c2] w
      fun e w' => e = .returned (.int .i64 (sylM p (n1 - 1) (n2 - 1) (revL f) (revL g))) ∧ Below w.heap.size w w' := by
  have hl1 := hide h1.len
  have hl2 := hide h2.len
  obtain ⟨n, hn⟩ : ∃ n, n1 - 1 = n := ⟨_, rfl⟩
  obtain ⟨m, hm⟩ : ∃ m, n2 - 1 = m := ⟨_, rfl⟩
  rw [hn, hm]
  have Hn := hide (show n1 = n + 1 by omega)
  have Hm := hide (show n2 = m + 1 by omega)
  obtain ⟨N, hN⟩ : ∃ N, n + m = N := ⟨_, rfl⟩
  have HN := hide hN
  have hNb : N ≤ 1000 := by omega
  have hnb : n ≤ 1000 := by omega
  have hmb : m ≤ 1000 := by omega
  have v1 : IntKind.i64.wrap ((n1 : Int) - 1) = (n : Int) := by rw [show (n1 : Int) - 1 = (n : Int) by omega]; exact IntWalk.i64_in _ (by omega)
  have v2 : IntKind.i64.wrap ((n2 : Int) - 1) = (m : Int) := by rw [show (n2 : Int) - 1 = (m : Int) by omega]; exact IntWalk.i64_in _ (by omega)
  have v3 : IntKind.i64.wrap ((n : Int) + (m : Int)) = (N : Int) := by rw [show (n : Int) + (m : Int) = (N : Int) by omega]; exact IntWalk.i64_in _ (by omega)
  have hmk := run_mk N (by omega)
  have hA := hide (revL_are hf)
  have hB := hide (revL_are hg)
  obtain ⟨A, hAd⟩ : ∃ A, revL f = A := ⟨_, rfl⟩
  obtain ⟨B, hBd⟩ : ∃ B, revL g = B := ⟨_, rfl⟩
  rw [hAd] at hA ⊢
  rw [hBd] at hB ⊢
  have HA := hide (fun j (hj : j ≤ n) => show f.getD (n - j) 0 = A.getD j 0 by rw [← hAd, revL_at2 f j (by rw [hl1.out]; omega), hl1.out, hn])
  have HB := hide (fun j (hj : j ≤ m) => show g.getD (m - j) 0 = B.getD j 0 by rw [← hBd, revL_at2 g j (by rw [hl2.out]; omega), hl2.out, hm])
  obtain ⟨bf, of, rfl, hbf, hcf⟩ := h1.at (by omega)
  obtain ⟨bg, og, rfl, hbg, hcg⟩ := h2.at (by omega)
  have Hcf := hide (fun j (hj : j ≤ n) => hcf (n - j) (by omega))
  have Hcg := hide (fun j (hj : j ≤ m) => hcg (m - j) (by omega))
  obtain ⟨X, hX⟩ : ∃ X, sylX n m A B = X := ⟨_, rfl⟩
  have HX1 := hide (fun i (hi : i < m) => show tab N (rowT A i (n + 1)) = X i by rw [← hX, ← rowT_first n m A B i hi, hN])
  have HX2 := hide (fun k => show tab N (rowT B k (m + 1)) = X (m + k) by rw [← hX, ← rowT_second n m A B k, hN])
  have HXa := hide (fun i => show areB p (X i) = true by rw [← hX]; exact sylX_are hp hA.out hB.out n m i)
  have HV := hide (show sylM p n m A B = detM p N X by unfold sylM; rw [hN, hX])
  have HZ := hide (fun A o => rowT_zero A o N)
  have hb0 := bl1 w (.cells #[] 22)
  have hO0 : Hid (OwnV w.heap.size (w.alloc (.cells #[] 22)) (some ⟨w.heap.size, 0, none⟩) 0 []) := hide (by
    have t := World.ownsRow_lit w (base := w.heap.size) (e := 22) (size := 1) #[] 0 (Nat.le_refl _) (by simp) rfl
    simp at t
    exact t)
  have hC0 : Hid (Coll (w.alloc (.cells #[] 22)) (some ⟨w.heap.size, 0, none⟩) N [] X 0) := hide (fun j hj => by omega)
  clear hn hm hN hf hg hAd hBd hcf hcg hX hA hB h1 h2
  go_enter Try.func80, Try.ntmps80
  go_wp2
  clear v1 v2
  go_loopw [9, 10] (fun ov iv wr => ∃ (i r : Nat) (a' : Option Addr) (c' : Nat) (vs : List Value), i ≤ m ∧ Hid (r = i) ∧ iv = .int .i64 i ∧ ov = .slice a' r c' ∧ Hid (vs.length = r) ∧ Hid (OwnV w.heap.size wr a' c' vs) ∧ Hid (Coll wr a' N vs X r) ∧ Below w.heap.size w wr) (fun _ iv _ => m - (intOf iv).toNat)
  case atStart => exact ⟨0, 0, _, 0, [], by omega, hide rfl, rfl, rfl, hide rfl, hO0, hC0, hb0⟩
  case round =>
    obtain ⟨i, r, a', c', vs, hi, hr, rfl, rfl, hvl, hO, hC, hBr⟩ := hrel
    obtain ⟨wo, hwo⟩ : ∃ wo : World, wo = wr := ⟨_, rfl⟩
    subst hwo
    clear hO0 hC0 hb0
    by_cases hlt : i < m
    · have hlt' : (i : Int) < (m : Int) := by omega
      have hbs := hBr.size
      have hrN : Hid (r < N) := hide (by have := hr.out; have := HN.out; omega)
      have hR0 := hide ((zrow_row wo N))
      have hR1 : Hid (RowI (wo.alloc (.cells (zrow N) 2)) wo.heap.size (tab N (rowT A i 0))) := hide (by have := hR0.out; rwa [HZ.out A i] at this)
      have hba := bl1 wo (.cells (zrow N) 2)
      have hlz : wo.heap.size < (wo.alloc (.cells (zrow N) 2)).heap.size := by simp
      clear hR0
      go_wp2
      go_loopw [12] (fun kv wr => ∃ k : Nat, k ≤ n + 1 ∧ kv = .int .i64 k ∧ Hid (RowI wr wo.heap.size (tab N (rowT A i k))) ∧ Below wo.heap.size wo wr ∧ wo.heap.size < wr.heap.size) (fun kv _ => n + 1 - (intOf kv).toNat)
      case atStart => exact ⟨0, by omega, rfl, hR1, hba, hlz⟩
      case round =>
        obtain ⟨k, hk, rfl, hR, hBx, hsx⟩ := hrel
        clear hR1 hba hlz
        by_cases hgo : k ≤ n
        · have hgo' : (k : Int) ≤ (n : Int) := by omega
          obtain ⟨s, hs⟩ : ∃ s, i + k = s := ⟨_, rfl⟩
          obtain ⟨d, hd⟩ : ∃ d, n - k = d := ⟨_, rfl⟩
          have e1 := cell_be (hBr.trans (hBx.mono hbs)) (Hcf.out k hgo)
          rw [HA.out k hgo, hd] at e1
          have hsN : s < N := by have := HN.out; omega
          have hfr := hR.out.free s
          have hcw := hR.out.cell s (by rw [tab_len]; exact hsN)
          have hset := hR.out.set s (A.getD k 0)
          rw [← hs, rowT_set, hs] at hset
          obtain ⟨old, hold⟩ : ∃ old, (tab N (rowT A i k)).getD s 0 = old := ⟨_, rfl⟩
          rw [hold] at hcw
          obtain ⟨x, hx⟩ : ∃ x, A.getD k 0 = x := ⟨_, rfl⟩
          rw [hx] at e1 hset
          have Hset := hide hset
          have v4 : IntKind.i64.wrap ((i : Int) + (k : Int)) = (s : Int) := by rw [show (i : Int) + (k : Int) = (s : Int) by omega]; exact IntWalk.i64_in _ (by omega)
          have v5 : IntKind.i64.wrap ((n : Int) - (k : Int)) = (d : Int) := by rw [show (n : Int) - (k : Int) = (d : Int) by omega]; exact IntWalk.i64_in _ (by omega)
          have v6 : IntKind.i64.wrap ((k : Int) + 1) = (k : Int) + 1 := IntWalk.i64_in _ (by omega)
          have q1 : (s : Int) < (N : Int) := by omega
          have q2 : (0 : Int) ≤ (s : Int) := by omega
          have q3 : (d : Int) < (n1 : Int) := by have := Hn.out; omega
          have q4 : (0 : Int) ≤ (d : Int) := by omega
          have hBn := hBx.setCell (p := ⟨wo.heap.size, s, none⟩) (by simp) (.int .i64 x)
          have hsn : wo.heap.size < (wr.setCell ⟨wo.heap.size, s, none⟩ (.int .i64 x)).heap.size := by simpa using hsx
          clear hset hs hd hold hx hR
          go_wp2
          go_roundw
          case rel => exact ⟨k + 1, by omega, by go_num, Hset, hBn, hsn⟩
          case measure => simp [intOf]; omega
        · have hk1 : k = n + 1 := by omega
          have hgo' : ¬ (k : Int) ≤ (n : Int) := by omega
          have hsl : SL wr (some ⟨wo.heap.size, 0, none⟩) N N (X r) := by
            have t := hR.out.slN (n := N) (tab_len _ _)
            rw [hk1, HX1.out i hlt] at t
            rw [show r = i from hr.out]
            exact t
          have Hsl := hide hsl
          have hO2 := hO.out.below hBx
          have hC2 := hC.out.below hBx
          have hne : ∀ b, blk a' = some b → b < wr.heap.size ∧ b ≠ wo.heap.size := fun b hb => by
            have := OwnV.blkLt hO.out b hb
            exact ⟨by omega, by omega⟩
          have Hne := hide hne
          have HC2 := hide hC2
          have hba := bl1 wr (.cells #[.slice (some ⟨wo.heap.size, 0, none⟩) N N] 22)
          have hOa := hide (hO2.below hba)
          have hcl : (wr.alloc (.cells #[.slice (some ⟨wo.heap.size, 0, none⟩) N N] 22)).cell? ⟨wr.heap.size, 0, none⟩ = some (.slice (some ⟨wo.heap.size, 0, none⟩) N N) := by simp [go_sem]
          have hBw := hBr.trans (hBx.mono hbs)
          have hbw := hBw.size
          have v6 : IntKind.i64.wrap ((i : Int) + 1) = (i : Int) + 1 := IntWalk.i64_in _ (by omega)
          have hrb : r ≤ 1000 := by have := hrN.out; omega
          clear hsl hne hO hC hO2 hC2 hk1 hR
          go_wp2_with (at_builtin; with_reducible refine wp_appV rfl _ _ rfl w.heap.size _ _ _ vs rfl hvl.out.symm hOa.out _ _ _ rfl hcl rfl (by omega) (by simp; omega) ?_; intro ad' cap' w' hown' hgr hloc)
          have hvl2 := hide (show (vs ++ [Value.slice (some ⟨wo.heap.size, 0, none⟩) N N]).length = r + 1 by rw [List.length_append, hvl.out]; rfl)
          have hW2 : Below w.heap.size w w' := (hBw.trans (hba.mono hbw)).grown hgr (by simp; omega) (OwnV.blkG hOa.out)
          have hC3 := hide (HC2.out.push hvl.out hsx Hsl.out Hne.out hba (by simp) hgr hloc)
          have hN3 := hide hown'
          have hr3 := hide (show r + 1 = i + 1 by rw [hr.out])
          clear hown' hgr hloc hOa hcl hba HC2 Hsl Hne
          go_wp2
          go_roundw
          case rel => exact ⟨i + 1, r + 1, ad', cap', _, by omega, hr3, by go_num, by rw [hvl.out], hvl2, hN3, hC3, hW2⟩
          case measure => simp [intOf]; omega
    · have him : i = m := by omega
      have Him := hide him
      have hlt' : ¬ (i : Int) < (m : Int) := by omega
      clear him
      go_wp2
      go_loopw [9, 13] (fun ov iv wr => ∃ (i r : Nat) (a' : Option Addr) (c' : Nat) (vs : List Value), i ≤ n ∧ Hid (r = m + i) ∧ iv = .int .i64 i ∧ ov = .slice a' r c' ∧ Hid (vs.length = r) ∧ Hid (OwnV w.heap.size wr a' c' vs) ∧ Hid (Coll wr a' N vs X r) ∧ Below w.heap.size w wr) (fun _ iv _ => n - (intOf iv).toNat)
      case atStart => exact ⟨0, r, a', c', vs, by omega, hide (by have := hr.out; have := Him.out; omega), rfl, rfl, hvl, hO, hC, hBr⟩
      case round =>
        clear hO hC hBr hvl hr hi Him
        obtain ⟨i, r, a', c', vs, hi, hr, rfl, rfl, hvl, hO, hC, hBr⟩ := hrel
        obtain ⟨wo, hwo⟩ : ∃ wo : World, wo = wr := ⟨_, rfl⟩
        subst hwo
        by_cases hlt : i < n
        · have hlt' : (i : Int) < (n : Int) := by omega
          have hbs := hBr.size
          have hrN : Hid (r < N) := hide (by have := hr.out; have := HN.out; omega)
          have hR0 := hide ((zrow_row wo N))
          have hR1 : Hid (RowI (wo.alloc (.cells (zrow N) 2)) wo.heap.size (tab N (rowT B i 0))) := hide (by have := hR0.out; rwa [HZ.out B i] at this)
          have hba := bl1 wo (.cells (zrow N) 2)
          have hlz : wo.heap.size < (wo.alloc (.cells (zrow N) 2)).heap.size := by simp
          clear hR0
          go_wp2
          go_loopw [15] (fun kv wr => ∃ k : Nat, k ≤ m + 1 ∧ kv = .int .i64 k ∧ Hid (RowI wr wo.heap.size (tab N (rowT B i k))) ∧ Below wo.heap.size wo wr ∧ wo.heap.size < wr.heap.size) (fun kv _ => m + 1 - (intOf kv).toNat)
          case atStart => exact ⟨0, by omega, rfl, hR1, hba, hlz⟩
          case round =>
            obtain ⟨k, hk, rfl, hR, hBx, hsx⟩ := hrel
            clear hR1 hba hlz
            by_cases hgo : k ≤ m
            · have hgo' : (k : Int) ≤ (m : Int) := by omega
              obtain ⟨s, hs⟩ : ∃ s, i + k = s := ⟨_, rfl⟩
              obtain ⟨d, hd⟩ : ∃ d, m - k = d := ⟨_, rfl⟩
              have e1 := cell_be (hBr.trans (hBx.mono hbs)) (Hcg.out k hgo)
              rw [HB.out k hgo, hd] at e1
              have hsN : s < N := by have := HN.out; omega
              have hfr := hR.out.free s
              have hcw := hR.out.cell s (by rw [tab_len]; exact hsN)
              have hset := hR.out.set s (B.getD k 0)
              rw [← hs, rowT_set, hs] at hset
              obtain ⟨old, hold⟩ : ∃ old, (tab N (rowT B i k)).getD s 0 = old := ⟨_, rfl⟩
              rw [hold] at hcw
              obtain ⟨x, hx⟩ : ∃ x, B.getD k 0 = x := ⟨_, rfl⟩
              rw [hx] at e1 hset
              have Hset := hide hset
              have v4 : IntKind.i64.wrap ((i : Int) + (k : Int)) = (s : Int) := by rw [show (i : Int) + (k : Int) = (s : Int) by omega]; exact IntWalk.i64_in _ (by omega)
              have v5 : IntKind.i64.wrap ((m : Int) - (k : Int)) = (d : Int) := by rw [show (m : Int) - (k : Int) = (d : Int) by omega]; exact IntWalk.i64_in _ (by omega)
              have v6 : IntKind.i64.wrap ((k : Int) + 1) = (k : Int) + 1 := IntWalk.i64_in _ (by omega)
              have q1 : (s : Int) < (N : Int) := by omega
              have q2 : (0 : Int) ≤ (s : Int) := by omega
              have q3 : (d : Int) < (n2 : Int) := by have := Hm.out; omega
              have q4 : (0 : Int) ≤ (d : Int) := by omega
              have hBn := hBx.setCell (p := ⟨wo.heap.size, s, none⟩) (by simp) (.int .i64 x)
              have hsn : wo.heap.size < (wr.setCell ⟨wo.heap.size, s, none⟩ (.int .i64 x)).heap.size := by simpa using hsx
              clear hset hs hd hold hx hR
              go_wp2
              go_roundw
              case rel => exact ⟨k + 1, by omega, by go_num, Hset, hBn, hsn⟩
              case measure => simp [intOf]; omega
            · have hk1 : k = m + 1 := by omega
              have hgo' : ¬ (k : Int) ≤ (m : Int) := by omega
              have hsl : SL wr (some ⟨wo.heap.size, 0, none⟩) N N (X r) := by
                have t := hR.out.slN (n := N) (tab_len _ _)
                rw [hk1, HX2.out i] at t
                rw [show r = m + i from hr.out]
                exact t
              have Hsl := hide hsl
              have hO2 := hO.out.below hBx
              have hC2 := hC.out.below hBx
              have hne : ∀ b, blk a' = some b → b < wr.heap.size ∧ b ≠ wo.heap.size := fun b hb => by
                have := OwnV.blkLt hO.out b hb
                exact ⟨by omega, by omega⟩
              have Hne := hide hne
              have HC2 := hide hC2
              have hba := bl1 wr (.cells #[.slice (some ⟨wo.heap.size, 0, none⟩) N N] 22)
              have hOa := hide (hO2.below hba)
              have hcl : (wr.alloc (.cells #[.slice (some ⟨wo.heap.size, 0, none⟩) N N] 22)).cell? ⟨wr.heap.size, 0, none⟩ = some (.slice (some ⟨wo.heap.size, 0, none⟩) N N) := by simp [go_sem]
              have hBw := hBr.trans (hBx.mono hbs)
              have hbw := hBw.size
              have v6 : IntKind.i64.wrap ((i : Int) + 1) = (i : Int) + 1 := IntWalk.i64_in _ (by omega)
              have hrb : r ≤ 1000 := by have := hrN.out; omega
              clear hsl hne hO hC hO2 hC2 hk1 hR
              go_wp2_with (at_builtin; with_reducible refine wp_appV rfl _ _ rfl w.heap.size _ _ _ vs rfl hvl.out.symm hOa.out _ _ _ rfl hcl rfl (by omega) (by simp; omega) ?_; intro ad' cap' w' hown' hgr hloc)
              have hvl2 := hide (show (vs ++ [Value.slice (some ⟨wo.heap.size, 0, none⟩) N N]).length = r + 1 by rw [List.length_append, hvl.out]; rfl)
              have hW2 : Below w.heap.size w w' := (hBw.trans (hba.mono hbw)).grown hgr (by simp; omega) (OwnV.blkG hOa.out)
              have hC3 := hide (HC2.out.push hvl.out hsx Hsl.out Hne.out hba (by simp) hgr hloc)
              have hN3 := hide hown'
              have hr3 := hide (show r + 1 = m + (i + 1) by rw [hr.out]; omega)
              clear hown' hgr hloc hOa hcl hba HC2 Hsl Hne
              go_wp2
              go_roundw
              case rel => exact ⟨i + 1, r + 1, ad', cap', _, by omega, hr3, by go_num, by rw [hvl.out], hvl2, hN3, hC3, hW2⟩
              case measure => simp [intOf]; omega
        · have hin : i = n := by omega
          have hlt' : ¬ (i : Int) < (n : Int) := by omega
          have hrN : r = N := by have := hr.out; have := HN.out; omega
          subst hrN
          by_cases h0 : r = 0
          · have hv := hide (show sylM p n m A B = 1 by rw [HV.out, h0]; rfl)
            subst h0
            clear hin
            go_wp2_with fail
            refine (l02Det_zero p _ _ _).mono ?_
            rintro e w5 ⟨rfl, rfl⟩
            go_wp2
            go_ret
            exact ⟨ret_int hv.out.symm, hBr⟩
          · obtain ⟨G, rfl, _⟩ := OwnV.at hO.out (by rw [hvl.out]; omega)
            have hR : RowsX w.heap.size G r c' wo vs X r := ⟨hO.out, hvl.out, by have := OwnV.le hO.out (by rw [hvl.out]; omega); rw [hvl.out] at this; omega, fun j hj => by
              obtain ⟨a0, c0, h1, h2, h3⟩ := hC.out j hj
              exact ⟨a0, c0, h1, h2, fun e => (h3 G e).1 rfl⟩⟩
            have HR := hide hR
            have hg := hR.own.lt (by rw [hR.len]; omega)
            have hbs := hBr.size
            clear hR hO hC hvl hin
            go_wp2_with fail
            refine (l02Det_any p w.heap.size G r c' vs X _ HR.out (by omega) hNb hp hp2 (fun i _ => HXa.out i)).mono ?_
            rintro e w9 ⟨rfl, t9⟩
            have hB9 := below_touch hBr t9 hg.1 hbs
            go_wp2
            go_ret
            exact ⟨ret_int HV.out.symm, hB9⟩
end Go.Proofs.Ytnojmghmkoojfaa
