/- Merged texts. -/
import Derived.Test.YthahcnmfaghohaaYTC25
import Derived.Test.YthahcnmfaghohaaYTC20
import Derived.Deep.QuietTactic
import Derived.Test.YthahcnmfaghohaaYTC11
/- Paths as texts: mathematics (heights, weights), l09Heights (model). -/
namespace Go.Proofs.Ythahcnmfaghohaa
open Go.RowKit
set_option linter.unusedVariables false
set_option linter.unusedSimpArgs false

/-- the byte at a place -/
def bt (s : ByteArray) (k : Nat) : Int := if h : k < s.size then ((s[k]'h).toNat : Int) else 0
theorem bt_at {s : ByteArray} {k : Nat} (h : k < s.size) : ((s[k]'h).toNat : Int) = bt s k := by unfold bt; rw [dif_pos h]
def dl (c : Int) : Int := if c = 85 then 1 else if c = 68 then -1 else 0
def lvB (c : Int) : Bool := c == 85 || c == 68 || c == 76
def hg (s : ByteArray) (i : Int) : Nat → Int
  | 0 => i
  | k + 1 => hg s i k + dl (bt s k)
def okS (s : ByteArray) (i : Int) : Nat → Bool
  | 0 => true
  | k + 1 => okS s i k && lvB (bt s k) && decide (0 ≤ hg s i (k + 1))
def loS (s : ByteArray) (i m : Int) : Nat → Bool
  | 0 => true
  | k + 1 => loS s i m k && decide (hg s i k < m)
def fcW (A B : List Int) (c h : Int) : Int := if c = 85 then 1 else if c = 68 then B.getD h.toNat 0 else A.getD h.toNat 0
def wg (p : Int) (A B : List Int) (s : ByteArray) (i : Int) : Nat → Int
  | 0 => 1
  | k + 1 => wg p A B s i k * fcW A B (bt s k) (hg s i k) % p
theorem okS_false {s : ByteArray} {i : Int} {k n : Nat} (hk : k < n) (h : (lvB (bt s k) && decide (0 ≤ hg s i (k + 1))) = false) : okS s i n = false := by
  induction n with
  | zero => omega
  | succ n ih =>
    rw [okS]
    by_cases e : k = n
    · subst e
      rw [Bool.and_assoc, h, Bool.and_false]
    · rw [ih (by omega)]; rfl
theorem okS_lo {s : ByteArray} {i : Int} (hi : 0 ≤ i) : ∀ k, okS s i k = true → 0 ≤ hg s i k
  | 0, _ => hi
  | k + 1, h => by
    rw [okS, Bool.and_eq_true] at h
    exact of_decide_eq_true h.2
theorem dl_rng (c : Int) : -1 ≤ dl c ∧ dl c ≤ 1 := by
  unfold dl
  split
  · omega
  · split <;> omega
theorem hg_rng (s : ByteArray) (i : Int) : ∀ k : Nat, i - k ≤ hg s i k ∧ hg s i k ≤ i + k
  | 0 => by simp [hg]
  | k + 1 => by
    have := hg_rng s i k
    have := dl_rng (bt s k)
    rw [hg]
    omega
def hgL (s : ByteArray) (i : Int) (n : Nat) : List Int := tab n (hg s i)
set_option maxRecDepth 100000 in
set_option maxHeartbeats 3200000 in
theorem l09Heights_any (s : ByteArray) (i : Int) (w : World) (hs : s.size ≤ 1048576) (h0 : 0 ≤ i) (h1 : i ≤ 1000) :
    Calls Try.prog 26 #[.string s, .int .i64 i] w fun e w' =>
      (okS s i s.size = false ∧ e = .returned (.tuple #[.slice none 0 0, .bool false]) ∧ Below w.heap.size w w') ∨
      (okS s i s.size = true ∧ ∃ a c, e = .returned (.tuple #[.slice a (s.size + 1) c, .bool (decide (s.size ≤ 24))]) ∧ Own w.heap.size w' a c (hgL s i (s.size + 1)) ∧ Below w.heap.size w w') := by
  have ba := bl1 w (.cells #[.int .i64 i] 2)
  have Z0 := hide (show Own w.heap.size (w.alloc (.cells #[.int .i64 i] 2)) (some ⟨w.heap.size, 0, none⟩) 1 (hgL s i 1) from litOwn w w.heap.size (Nat.le_refl _) i)
  have ZK := hide (show okS s i 0 = true from rfl)
  have ZH := hide (show hg s i 0 = i from rfl)
  go_enter Try.func26, Try.ntmps26
  go_wp2
  go_loopw [1, 6, 7] (fun iv sv kv wr => ∃ (k : Nat) (a : Option Addr) (c : Nat) (H : Int), k ≤ s.size ∧ kv = .int .i64 k ∧ iv = .int .i64 H ∧ Hid (hg s i k = H) ∧ sv = .slice a (k + 1) c ∧ Hid (okS s i k = true) ∧ Hid (Own w.heap.size wr a c (hgL s i (k + 1))) ∧ Below w.heap.size w wr) (fun _ _ kv _ => s.size - (intOf kv).toNat)
  case atStart => exact ⟨0, _, 1, i, by omega, rfl, rfl, ZH, rfl, ZK, Z0, ba⟩
  case round =>
    obtain ⟨k, a, c, H, hk, rfl, rfl, hH, rfl, hK, hO, hB⟩ := hrel
    clear Z0 ZK ZH ba
    by_cases hlt : k < s.size
    · have hlt' : (k : Int) < (s.size : Int) := by omega
      have q0 : (0 : Int) ≤ (k : Int) := by omega
      have hbt := bt_at hlt
      have r1 := hg_rng s i k
      rw [hH.out] at r1
      have Hst := hide (show okS s i (k + 1) = (lvB (bt s k) && decide (0 ≤ hg s i (k + 1))) by rw [okS, hK.out]; rfl)
      have Hsh := hide (show hg s i (k + 1) = H + dl (bt s k) by rw [hg, hH.out])
      have Hfa := hide (okS_false (s := s) (i := i) hlt)
      --CASES
      by_cases h85 : bt s k = 85
      · have hc := h85
        clear h85
        rw [hc] at hbt Hst Hsh Hfa
        have Hn := hide (show hg s i (k + 1) = H + 1 by rw [Hsh.out]; simp [dl])
        have v1 : IntKind.i64.wrap (H + 1) = H + 1 := IntWalk.i64_in _ (by omega)
        clear hc
        by_cases hneg : H + 1 < 0
        · have HF := hide (show okS s i s.size = false from Hfa.out (by rw [Hn.out]; simp; omega))
          go_wp2
          refine bodyPost_ret (v := .tuple #[.slice none 0 0, .bool false]) (by simp [results, Try.results26, go_sem]) rfl ?_
          exact .inl ⟨HF.out, rfl, hB⟩
        · have HK := hide (show okS s i (k + 1) = true by rw [Hst.out, Hn.out]; simp [lvB]; omega)
          have hba := bl1 wr (.cells #[.int .i64 (H + 1)] 2)
          have hOa := hide (hO.out.below hba)
          have zb := hB.size
          go_wp2_with (at_builtin; refine wp_append rfl _ _ rfl w.heap.size _ (k + 1) _ (hgL s i (k + 1)) rfl (by unfold hgL; exact (tab_len _ _).symm) hOa.out _ 1 1 [H + 1] rfl (litSL wr (H + 1)) (by omega) (by simp; omega) ?_; intro ad' cap' w7 hown hb7)
          have Hown := hide (show Own w.heap.size w7 ad' cap' (hgL s i (k + 1 + 1)) by have q := hown; unfold hgL at q ⊢; rwa [← Hn.out, tab_snoc] at q)
          have hW7 := (hB.trans (hba.mono zb)).trans (hb7.mono (Nat.le_refl _))
          clear hown hb7 hOa hO hba hbt
          go_roundw
          case rel => exact ⟨k + 1, ad', cap', H + 1, by omega, by go_num, rfl, Hn, by unfold hgL; rw [tab_len], HK, Hown, hW7⟩
          case measure => simp [intOf]; omega
      by_cases h68 : bt s k = 68
      · have hc := h68
        clear h68 h85
        rw [hc] at hbt Hst Hsh Hfa
        have Hn := hide (show hg s i (k + 1) = H - 1 by rw [Hsh.out]; simp [dl]; omega)
        have v1 : IntKind.i64.wrap (H - 1) = H - 1 := IntWalk.i64_in _ (by omega)
        clear hc
        by_cases hneg : H - 1 < 0
        · have HF := hide (show okS s i s.size = false from Hfa.out (by rw [Hn.out]; simp; omega))
          go_wp2
          refine bodyPost_ret (v := .tuple #[.slice none 0 0, .bool false]) (by simp [results, Try.results26, go_sem]) rfl ?_
          exact .inl ⟨HF.out, rfl, hB⟩
        · have HK := hide (show okS s i (k + 1) = true by rw [Hst.out, Hn.out]; simp [lvB]; omega)
          have hba := bl1 wr (.cells #[.int .i64 (H - 1)] 2)
          have hOa := hide (hO.out.below hba)
          have zb := hB.size
          go_wp2_with (at_builtin; refine wp_append rfl _ _ rfl w.heap.size _ (k + 1) _ (hgL s i (k + 1)) rfl (by unfold hgL; exact (tab_len _ _).symm) hOa.out _ 1 1 [H - 1] rfl (litSL wr (H - 1)) (by omega) (by simp; omega) ?_; intro ad' cap' w7 hown hb7)
          have Hown := hide (show Own w.heap.size w7 ad' cap' (hgL s i (k + 1 + 1)) by have q := hown; unfold hgL at q ⊢; rwa [← Hn.out, tab_snoc] at q)
          have hW7 := (hB.trans (hba.mono zb)).trans (hb7.mono (Nat.le_refl _))
          clear hown hb7 hOa hO hba hbt
          go_roundw
          case rel => exact ⟨k + 1, ad', cap', H - 1, by omega, by go_num, rfl, Hn, by unfold hgL; rw [tab_len], HK, Hown, hW7⟩
          case measure => simp [intOf]; omega
      by_cases h76 : bt s k = 76
      · have hc := h76
        clear h76 h68 h85
        rw [hc] at hbt Hst Hsh Hfa
        have Hn := hide (show hg s i (k + 1) = H by rw [Hsh.out]; simp [dl])
        clear hc
        by_cases hneg : H < 0
        · have HF := hide (show okS s i s.size = false from Hfa.out (by rw [Hn.out]; simp; omega))
          go_wp2
          refine bodyPost_ret (v := .tuple #[.slice none 0 0, .bool false]) (by simp [results, Try.results26, go_sem]) rfl ?_
          exact .inl ⟨HF.out, rfl, hB⟩
        · have HK := hide (show okS s i (k + 1) = true by rw [Hst.out, Hn.out]; simp [lvB]; omega)
          have hba := bl1 wr (.cells #[.int .i64 (H)] 2)
          have hOa := hide (hO.out.below hba)
          have zb := hB.size
          go_wp2_with (at_builtin; refine wp_append rfl _ _ rfl w.heap.size _ (k + 1) _ (hgL s i (k + 1)) rfl (by unfold hgL; exact (tab_len _ _).symm) hOa.out _ 1 1 [H] rfl (litSL wr (H)) (by omega) (by simp; omega) ?_; intro ad' cap' w7 hown hb7)
          have Hown := hide (show Own w.heap.size w7 ad' cap' (hgL s i (k + 1 + 1)) by have q := hown; unfold hgL at q ⊢; rwa [← Hn.out, tab_snoc] at q)
          have hW7 := (hB.trans (hba.mono zb)).trans (hb7.mono (Nat.le_refl _))
          clear hown hb7 hOa hO hba hbt
          go_roundw
          case rel => exact ⟨k + 1, ad', cap', H, by omega, by go_num, rfl, Hn, by unfold hgL; rw [tab_len], HK, Hown, hW7⟩
          case measure => simp [intOf]; omega
      have HF := hide (show okS s i s.size = false from Hfa.out (by simp [lvB, h85, h68, h76]))
      obtain ⟨C, hC⟩ : ∃ C, bt s k = C := ⟨_, rfl⟩
      rw [hC] at hbt h85 h68 h76
      clear hC
      go_wp2
      refine bodyPost_ret (v := .tuple #[.slice none 0 0, .bool false]) (by simp [results, Try.results26, go_sem]) rfl ?_
      exact .inl ⟨HF.out, rfl, hB⟩
    · have hk2 : Hid (k = s.size) := hide (by omega)
      have hge : ¬ (k : Int) < (s.size : Int) := by omega
      by_cases h24 : s.size ≤ 24
      · have h24' : (s.size : Int) ≤ 24 := by omega
        have HD := hide (show decide (s.size ≤ 24) = true by simp [h24])
        clear h24
        go_wp2
        refine bodyPost_ret (v := .tuple #[.slice a (k + 1) c, .bool true]) (by simp [results, Try.results26, go_sem]) rfl ?_
        refine .inr ⟨by have := hK.out; rwa [hk2.out] at this, a, c, by rw [HD.out, hk2.out], by have := hO.out; rwa [hk2.out] at this, hB⟩
      · have h24' : ¬ (s.size : Int) ≤ 24 := by omega
        have HD := hide (show decide (s.size ≤ 24) = false by simp [h24])
        clear h24
        go_wp2
        refine bodyPost_ret (v := .tuple #[.slice a (k + 1) c, .bool false]) (by simp [results, Try.results26, go_sem]) rfl ?_
        refine .inr ⟨by have := hK.out; rwa [hk2.out] at this, a, c, by rw [HD.out, hk2.out], by have := hO.out; rwa [hk2.out] at this, hB⟩
end Go.Proofs.Ythahcnmfaghohaa
/- Contracts: l09Sums (model). -/
namespace Go.Proofs.Ythahcnmfaghohaa
open Go.RowKit
set_option linter.unusedVariables false
set_option linter.unusedSimpArgs false

end Go.Proofs.Ythahcnmfaghohaa
