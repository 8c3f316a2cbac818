/- Merged texts. -/
import Derived.Test.YtkpmonopjkjflaaYC16
import Derived.Test.YtkpmonopjkjflaaYC10
import Derived.Test.YtkpmonopjkjflaaYC11
import Derived.Laws.EntriesVeiled
import Derived.WalkLawsBesides
/- Lists of lists in a law: rows that lie apart, marked and held. -/
namespace Go.Proofs.Ytkpmonopjkjflaa
open Go.RowKit
set_option linter.unusedVariables false
set_option linter.unusedSimpArgs false

/-- n rows X whose slices lie in block g; all of it in blocks from lo to hi, no row over another. -/
structure ZR (lo hi g n : Nat) (w : World) (A : Nat → Option Addr) (C : Nat → Nat) (X : Nat → List Int) : Prop where
  cell : ∀ i, i < n → w.cell? ⟨g, i, none⟩ = some (.slice (A i) (X i).length (C i))
  row : ∀ i, i < n → SL w (A i) (X i).length (C i) (X i)
  free : ∀ i, i < n → ∀ b o, A i = some ⟨b, o, none⟩ → ∀ j, j < (X i).length → w.frozen? ⟨b, o + j, none⟩ = false
  zone : ∀ i, i < n → ∀ b, blk (A i) = some b → lo ≤ b ∧ b < hi ∧ b ≠ g
  apart : ∀ i j, i < n → j < n → i ≠ j → ∀ b o o', A i = some ⟨b, o, none⟩ → A j = some ⟨b, o', none⟩ → o + (X i).length ≤ o' ∨ o' + (X j).length ≤ o
  gl : lo ≤ g
  gh : g < hi
def ZL (lo hi : Nat) (w : World) (a : Option Addr) (n cap : Nat) (X : Nat → List Int) : Prop :=
  n = 0 ∨ ∃ g A C, a = some ⟨g, 0, none⟩ ∧ ZR lo hi g n w A C X
theorem ZR.mono {lo hi lo' hi' g n : Nat} {w : World} {A : Nat → Option Addr} {C : Nat → Nat} {X : Nat → List Int} (h : ZR lo hi g n w A C X) (h1 : lo' ≤ lo) (h2 : hi ≤ hi') : ZR lo' hi' g n w A C X :=
  ⟨h.cell, h.row, h.free, fun i hi b hb => by obtain ⟨x, y, z⟩ := h.zone i hi b hb; exact ⟨by omega, by omega, z⟩, h.apart, by have := h.gl; omega, by have := h.gh; omega⟩
theorem ZL.mono {lo hi lo' hi' n cap : Nat} {w : World} {a : Option Addr} {X : Nat → List Int} (h : ZL lo hi w a n cap X) (h1 : lo' ≤ lo) (h2 : hi ≤ hi') : ZL lo' hi' w a n cap X := by
  rcases h with h | ⟨g, A, C, ha, h⟩
  · exact .inl h
  · exact .inr ⟨g, A, C, ha, h.mono h1 h2⟩
theorem ZR.at {lo hi g n : Nat} {w : World} {A : Nat → Option Addr} {C : Nat → Nat} {X : Nat → List Int} (h : ZR lo hi g n w A C X) (i : Nat) (hi' : i < n) (h0 : (X i).length ≠ 0) :
    ∃ b o, A i = some ⟨b, o, none⟩ ∧ ∀ j, j < (X i).length → w.cell? ⟨b, o + j, none⟩ = some (.int .i64 ((X i).getD j 0)) := by
  obtain ⟨_, _, h3⟩ := h.row i hi'
  rcases h3 with h3 | ⟨b, o, h4, h5⟩
  · exact absurd h3 h0
  · exact ⟨b, o, h4, h5⟩
theorem ZR.below {lo hi g n : Nat} {w w' : World} {A : Nat → Option Addr} {C : Nat → Nat} {X : Nat → List Int} (h : ZR lo hi g n w A C X) (hb : Below w.heap.size w w') : ZR lo hi g n w' A C X :=
  ⟨fun i hi => cell_be hb (h.cell i hi), fun i hi => (h.row i hi).below hb, fun i hi b o hA j hj => by
    obtain ⟨b', o', hA', hc⟩ := h.at i hi (by omega)
    rw [hA] at hA'
    simp only [Option.some.injEq, Addr.mk.injEq, and_true] at hA'
    obtain ⟨rfl, rfl⟩ := hA'
    exact (hb.frozen (World.block_lt_of_cell? _ _ (hc j hj))).trans (h.free i hi b o hA j hj), h.zone, h.apart, h.gl, h.gh⟩
theorem ZL.below {lo hi n cap : Nat} {w w' : World} {a : Option Addr} {X : Nat → List Int} (h : ZL lo hi w a n cap X) (hb : Below w.heap.size w w') : ZL lo hi w' a n cap X := by
  rcases h with h | ⟨g, A, C, ha, h⟩
  · exact .inl h
  · exact .inr ⟨g, A, C, ha, h.below hb⟩
theorem SL.touchZ {lo hi lo' hi' : Nat} {w w' : World} {a : Option Addr} {n c : Nat} {xs : List Int} (h : SL w a n c xs) (t : Touch lo' hi' w w') (hz : ∀ b, blk a = some b → lo ≤ b ∧ b < hi) (hd : hi ≤ lo' ∨ hi' ≤ lo) : SL w' a n c xs := by
  obtain ⟨h1, h2, h3⟩ := h
  refine ⟨h1, h2, ?_⟩
  rcases h3 with h3 | ⟨b, off, rfl, hc⟩
  · exact .inl h3
  · have := hz b rfl
    exact .inr ⟨b, off, rfl, fun j hj => t.cell (hc j hj) (by omega)⟩
theorem ZR.touch {lo hi lo' hi' g n : Nat} {w w' : World} {A : Nat → Option Addr} {C : Nat → Nat} {X : Nat → List Int} (h : ZR lo hi g n w A C X) (t : Touch lo' hi' w w') (hd : hi ≤ lo' ∨ hi' ≤ lo) : ZR lo hi g n w' A C X :=
  ⟨fun i hi => t.cell (h.cell i hi) (by have := h.gl; have := h.gh; omega), fun i hi => (h.row i hi).touchZ t (fun b hb => ⟨(h.zone i hi b hb).1, (h.zone i hi b hb).2.1⟩) hd, fun i hi b o hA j hj => by
    obtain ⟨b', o', hA', hc⟩ := h.at i hi (by omega)
    rw [hA] at hA'
    simp only [Option.some.injEq, Addr.mk.injEq, and_true] at hA'
    obtain ⟨rfl, rfl⟩ := hA'
    have hz := h.zone i hi b (by rw [hA]; rfl)
    have hcj := hc j hj
    exact (World.frozen?_of_block (w := w) (t.block b (World.block_lt_of_cell? w _ hcj) (by omega))).trans (h.free i hi b o hA j hj), h.zone, h.apart, h.gl, h.gh⟩
theorem ZL.touch {lo hi lo' hi' n cap : Nat} {w w' : World} {a : Option Addr} {X : Nat → List Int} (h : ZL lo hi w a n cap X) (t : Touch lo' hi' w w') (hd : hi ≤ lo' ∨ hi' ≤ lo) : ZL lo hi w' a n cap X := by
  rcases h with h | ⟨g, A, C, ha, h⟩
  · exact .inl h
  · exact .inr ⟨g, A, C, ha, h.touch t hd⟩
theorem ZR.congr {lo hi g n : Nat} {w : World} {A : Nat → Option Addr} {C : Nat → Nat} {X Y : Nat → List Int} (h : ZR lo hi g n w A C X) (e : ∀ i, i < n → Y i = X i) : ZR lo hi g n w A C Y :=
  ⟨fun i hi => by rw [e i hi]; exact h.cell i hi, fun i hi => by rw [e i hi]; exact h.row i hi, fun i hi => by rw [e i hi]; exact h.free i hi, h.zone, fun i j hi hj => by rw [e i hi, e j hj]; exact h.apart i j hi hj, h.gl, h.gh⟩
/-- How many numbers the first k rows hold. -/
def tot (X : Nat → List Int) : Nat → Nat
  | 0 => 0
  | k + 1 => tot X k + (X k).length
theorem tot_le {X : Nat → List Int} {n : Nat} (h : ∀ i, i < n → (X i).length ≤ 1000) : ∀ k, k ≤ n → tot X k ≤ k * 1000 := by
  intro k
  induction k with
  | zero => intro _; simp [tot]
  | succ k ih => intro hk; have := ih (by omega); have := h k (by omega); unfold tot; omega
/-- The rows when the first k are marked. -/
def mixX (k0 : Int) (X : Nat → List Int) (k : Nat) : Nat → List Int := fun i => if i < k then marks (k0 + tot X i) (X i).length else X i
theorem mixX_len (k0 : Int) (X : Nat → List Int) (k i : Nat) : (mixX k0 X k i).length = (X i).length := by
  unfold mixX
  split
  · exact marks_len _ _
  · rfl
theorem ZR.mark {lo hi g n : Nat} {w w' : World} {A : Nat → Option Addr} {C : Nat → Nat} {X : Nat → List Int} {k0 : Int} {k b o : Nat} (h : ZR lo hi g n w A C (mixX k0 X k)) (hk : k < n) (hA : A k = some ⟨b, o, none⟩)
    (m : MkP w w' b o (X k).length (X k).length (k0 + tot X k)) : ZR lo hi g n w' A C (mixX k0 X (k + 1)) := by
  have hl : ∀ i, (mixX k0 X (k + 1) i).length = (mixX k0 X k i).length := fun i => by rw [mixX_len, mixX_len]
  have hz := h.zone k hk b (by rw [hA]; rfl)
  have hne : ∀ i, i ≠ k → mixX k0 X (k + 1) i = mixX k0 X k i := fun i hi => by
    unfold mixX
    by_cases h1 : i < k
    · rw [if_pos h1, if_pos (by omega)]
    · rw [if_neg h1, if_neg (by omega)]
  have hoth : ∀ i, i < n → i ≠ k → ∀ b' o', A i = some ⟨b', o', none⟩ → ∀ j, j < (mixX k0 X k i).length → ∀ j', j' < (X k).length → (⟨b', o' + j, none⟩ : Addr) ≠ ⟨b, o + j', none⟩ := fun i hi hik b' o' hA' j hj j' hj' e => by
    simp only [Addr.mk.injEq, and_true] at e
    obtain ⟨rfl, e⟩ := e
    have := h.apart i k hi hk hik b' o' o hA' hA
    rw [mixX_len] at this hj
    rw [mixX_len] at this
    omega
  refine ⟨fun i hi => ?_, fun i hi => ?_, fun i hi b' o' hA' j hj => ?_, h.zone, fun i j hi hj => by rw [hl, hl]; exact h.apart i j hi hj, h.gl, h.gh⟩
  · rw [(m.other ⟨g, i, none⟩ (fun j _ e => by simp only [Addr.mk.injEq] at e; exact hz.2.2 e.1.symm)).1, h.cell i hi, hl]
  · by_cases e : i = k
    · subst e
      obtain ⟨_, h2, _⟩ := h.row i hk
      have e1 : mixX k0 X (i + 1) i = marks (k0 + tot X i) (X i).length := by unfold mixX; rw [if_pos (by omega)]
      refine ⟨rfl, by rw [hl]; exact h2, .inr ⟨b, o, hA, fun j hj => ?_⟩⟩
      rw [mixX_len] at hj
      rw [m.done j hj, e1, marks_at _ _ _ hj]
    · obtain ⟨_, h2, h3⟩ := h.row i hi
      rw [hne i e]
      refine ⟨rfl, h2, ?_⟩
      rcases h3 with h3 | ⟨b', o', hA', hc⟩
      · exact .inl h3
      · exact .inr ⟨b', o', hA', fun j hj => by rw [(m.other _ (fun j' hj' => hoth i hi e b' o' hA' j hj j' hj')).1]; exact hc j hj⟩
  · rw [hl] at hj
    by_cases e : i = k
    · subst e
      rw [hA] at hA'
      simp only [Option.some.injEq, Addr.mk.injEq, and_true] at hA'
      obtain ⟨rfl, rfl⟩ := hA'
      rw [mixX_len] at hj
      exact m.free j hj
    · rw [(m.other _ (fun j' hj' => hoth i hi e b' o' hA' j hj j' hj')).2]
      exact h.free i hi b' o' hA' j hj
set_option maxHeartbeats 800000 in
theorem mark0 (a : Option Addr) (c : Nat) (k0 : Int) (w : World) :
    Calls Try.prog 29 #[.slice a 0 c, .int .i64 k0] w fun e w' => e = .returned (.int .i64 k0) ∧ w = w' := by
  go_enter Try.func29, Try.ntmps29
  go_wp2
  refine wp_loop_rounds 1 ?_
  rw [rounds_succ]
  go_wp2
  go_ret
  exact ⟨rfl, rfl⟩
set_option maxHeartbeats 800000 in
theorem markSS0 (a : Option Addr) (c : Nat) (k0 : Int) (w : World) :
    Calls Try.prog 28 #[.slice a 0 c, .int .i64 k0] w fun e w' => e = .returned (.int .i64 k0) ∧ w = w' := by
  go_enter Try.func28, Try.ntmps28
  go_wp2
  refine wp_loop_rounds 1 ?_
  rw [rounds_succ]
  go_wp2
  go_ret
  exact ⟨rfl, rfl⟩
set_option maxRecDepth 100000 in
set_option maxHeartbeats 1600000 in
theorem markSS (lo hi : Nat) (a : Option Addr) (n c : Nat) (X : Nat → List Int) (k0 : Int) (w : World) (h : ZL lo hi w a n c X) (hn : n ≤ 1000) (hX : ∀ i, i < n → (X i).length ≤ 1000) (hk0 : 0 ≤ k0) (hk1 : k0 ≤ 1000000) :
    Calls Try.prog 28 #[.slice a n c, .int .i64 k0] w fun e w' => e = .returned (.int .i64 (k0 + tot X n)) ∧ ZL lo hi w' a n c (fun i => marks (k0 + tot X i) (X i).length) ∧ Touch lo hi w w' := by
  rcases h with h | ⟨g, A, C, rfl, h⟩
  · subst h
    refine (markSS0 a c k0 w).mono ?_
    rintro e w' ⟨rfl, rfl⟩
    exact ⟨by simp [tot], .inl rfl, ⟨rfl, rfl, rfl, Nat.le_refl _, fun _ _ _ => rfl⟩⟩
  have H0 : Hid (ZR lo hi g n w A C (mixX k0 X 0)) := hide (h.congr fun i _ => by unfold mixX; rw [if_neg (by omega)])
  have hT0 : Hid (Touch lo hi w w) := hide ⟨rfl, rfl, rfl, Nat.le_refl _, fun _ _ _ => rfl⟩
  have ht := tot_le hX
  clear h
  go_enter Try.func28, Try.ntmps28
  go_wp2
  go_loopw [1, 5] (fun q i wr => ∃ k : Nat, k ≤ n ∧ i = .int .i64 k ∧ q = .int .i64 (k0 + tot X k) ∧ Hid (ZR lo hi g n wr A C (mixX k0 X k)) ∧ Hid (Touch lo hi w wr)) (fun _ i _ => n - (intOf i).toNat)
  case atStart => exact ⟨0, by omega, rfl, by simp [tot], H0, hT0⟩
  case round =>
    obtain ⟨k, hk, rfl, rfl, hR, hT⟩ := hrel
    clear H0 hT0
    by_cases hlt : k < n
    · have e1 := hR.out.cell k hlt
      rw [mixX_len] at e1
      have htk := ht k hk
      have hlk := hX k hlt
      obtain ⟨L, hL⟩ : ∃ L, (X k).length = L := ⟨_, rfl⟩
      obtain ⟨t, htt⟩ : ∃ t, tot X k = t := ⟨_, rfl⟩
      have hst : Hid (k0 + (tot X (k + 1) : Int) = k0 + (t : Int) + (L : Int)) := hide (by unfold tot; rw [hL, htt]; omega)
      have HL := hide hL
      have Htt := hide htt
      rw [hL] at e1 hlk
      rw [htt] at htk ⊢
      have hlt' : (k : Int) < (n : Int) := by omega
      clear hL htt
      by_cases h0 : L = 0
      · have hR2 : Hid (ZR lo hi g n wr A C (mixX k0 X (k + 1))) := hide (hR.out.congr fun i hi => by
          unfold mixX
          by_cases h1 : i < k
          · rw [if_pos h1, if_pos (by omega)]
          · rw [if_neg h1]
            by_cases h2 : i = k
            · subst h2
              rw [if_pos (by omega), HL.out, h0]
              have : X i = [] := List.eq_nil_of_length_eq_zero (by rw [HL.out, h0])
              rw [this]
              rfl
            · rw [if_neg (by omega)])
        have hst2 : Hid (k0 + (tot X (k + 1) : Int) = k0 + (t : Int)) := hide (by rw [hst.out, h0]; simp)
        subst h0
        clear hR hst
        go_wp2_with fail
        refine (mark0 _ _ _ _).mono ?_
        rintro e w2 ⟨rfl, rfl⟩
        go_wp2
        go_roundw
        case rel => exact ⟨k + 1, by omega, by go_num, by rw [hst2.out], hR2, hT⟩
        case measure => simp [intOf]; omega
      · obtain ⟨b, o, hA, hc⟩ := hR.out.at k hlt (by rw [mixX_len, HL.out]; exact h0)
        rw [hA] at e1
        have hz := hR.out.zone k hlt b (by rw [hA]; rfl)
        have Hf := hide (hR.out.free k hlt b o hA)
        have HA := hide hA
        have Hc := hide hc
        clear hA hc
        go_wp2_with fail
        refine (markPart b o L (C k) (k0 + t) _ (fun j hj => ⟨_, Hc.out j (by rw [mixX_len, HL.out]; exact hj)⟩) (fun j hj => Hf.out j (by rw [mixX_len, HL.out]; exact hj)) (by omega) (by omega) (by omega)).mono ?_
        rintro e w2 ⟨rfl, hm⟩
        have hR2 : Hid (ZR lo hi g n w2 A C (mixX k0 X (k + 1))) := hide (hR.out.mark hlt HA.out (by rw [HL.out, Htt.out]; exact hm))
        have hT2 : Hid (Touch lo hi w w2) := hide (hT.out.trans (Touch.of hm.gr (fun x e => by cases e; exact ⟨hz.1, hz.2.1⟩)))
        clear hR hT hm Hc Hf
        go_wp2
        go_roundw
        case rel => exact ⟨k + 1, by omega, by go_num, by rw [hst.out], hR2, hT2⟩
        case measure => simp [intOf]; omega
    · obtain rfl : k = n := by omega
      have hfin : ZR lo hi g k wr A C (fun i => marks (k0 + tot X i) (X i).length) := hR.out.congr fun i hi => by unfold mixX; rw [if_pos hi]
      have Hfin := hide hfin
      obtain ⟨t, htt⟩ : ∃ t, tot X k = t := ⟨_, rfl⟩
      have Htt := hide htt
      rw [htt]
      clear hfin htt hR
      go_wp2
      refine bodyPost_ret (v := .int .i64 (k0 + t)) (by simp [results, Try.results28]) rfl ?_
      exact ⟨by rw [Htt.out], .inr ⟨g, A, C, rfl, Hfin.out⟩, hT.out⟩
set_option maxRecDepth 100000 in
set_option maxHeartbeats 1600000 in
theorem heldSS (lo hi : Nat) (a : Option Addr) (n c : Nat) (X : Nat → List Int) (k0 : Int) (w : World) (h : ZL lo hi w a n c (fun i => marks (k0 + tot X i) (X i).length)) (hn : n ≤ 1000) (hX : ∀ i, i < n → (X i).length ≤ 1000) (hk0 : 0 ≤ k0) (hk1 : k0 ≤ 1000000) :
    Calls Try.prog 33 #[.slice a n c, .int .i64 k0] w fun e w' => e = .returned (.int .i64 (k0 + tot X n)) ∧ w = w' := by
  rcases h with h | ⟨g, A, C, rfl, h⟩
  · subst h
    go_enter Try.func33, Try.ntmps33
    go_wp2
    refine wp_loop_rounds 1 ?_
    rw [rounds_succ]
    go_wp2
    go_ret
    exact ⟨by simp [tot], rfl⟩
  have H := hide h
  have ht := tot_le hX
  clear h
  go_enter Try.func33, Try.ntmps33
  go_wp2
  go_loop [1, 5] (fun q i => ∃ k : Nat, k ≤ n ∧ i = .int .i64 k ∧ q = .int .i64 (k0 + tot X k)) (fun _ i => n - (intOf i).toNat)
  case atStart => exact ⟨0, by omega, rfl, by simp [tot]⟩
  case round =>
    obtain ⟨k, hk, rfl, rfl⟩ := hrel
    by_cases hlt : k < n
    · have e1 := H.out.cell k hlt
      have s1 := H.out.row k hlt
      rw [marks_len] at e1 s1
      have htk := ht k hk
      have hlk := hX k hlt
      obtain ⟨L, hL⟩ : ∃ L, (X k).length = L := ⟨_, rfl⟩
      obtain ⟨t, htt⟩ : ∃ t, tot X k = t := ⟨_, rfl⟩
      have hst : Hid (k0 + (tot X (k + 1) : Int) = k0 + (t : Int) + (L : Int)) := hide (by unfold tot; rw [hL, htt]; omega)
      rw [hL] at e1 hlk s1
      rw [htt] at htk s1 ⊢
      have hlt' : (k : Int) < (n : Int) := by omega
      have hneg : ¬ k0 + (t : Int) + (L : Int) < 0 := by omega
      have S1 := hide s1
      clear hL htt s1
      go_wp2_with fail
      refine (heldI _ _ _ _ _ S1.out (by omega) (by omega) (by omega)).mono ?_
      rintro e w' ⟨rfl, rfl⟩
      go_wp2
      go_round
      case rel => exact ⟨k + 1, by omega, by go_num, by rw [hst.out]⟩
      case measure => simp [intOf]; omega
    · obtain rfl : k = n := by omega
      obtain ⟨t, htt⟩ : ∃ t, tot X k = t := ⟨_, rfl⟩
      have Htt := hide htt
      rw [htt]
      clear htt
      go_wp2
      refine bodyPost_ret (v := .int .i64 (k0 + t)) (by simp [results, Try.results33]) rfl ?_
      exact ⟨by rw [Htt.out], rfl⟩
theorem ZR.lists {lo hi g n : Nat} {w : World} {A : Nat → Option Addr} {C : Nat → Nat} {X : Nat → List Int} (h : ZR lo hi g n w A C X) (hX : ∀ i, i < n → (X i).length ≤ 1000) : Lists w g n A (fun i => (X i).length) C X :=
  fun i hi => ⟨h.cell i hi, h.row i hi, Nat.le_trans (hX i hi) (by omega)⟩
theorem eqZ {lo hi lo' hi' : Nat} {a b : Option Addr} {n c d : Nat} {X : Nat → List Int} (w : World) (h1 : ZL lo hi w a n c X) (h2 : ZL lo' hi' w b n d X) (hn : n ≤ 1000) (hX : ∀ i, i < n → (X i).length ≤ 1000) :
    Calls Try.prog 27 #[.slice a n c, .slice b n d] w fun e w' => e = .returned (.bool true) ∧ Below w.heap.size w w' := by
  rcases h1 with h1 | ⟨g, A, C, rfl, h1⟩
  · subst h1
    exact eqSS_none a b c d w
  · rcases h2 with h2 | ⟨g', A', C', rfl, h2⟩
    · subst h2
      exact eqSS_none _ b c d w
    · exact eqSS g g' n c d A A' _ C C' X w (h1.lists hX) (h2.lists hX) (by omega)
/-- A list of lists and a code. -/
def ResL (w : World) (X : Nat → List Int) (n : Nat) (c : Int) (e : Ending) (w' : World) : Prop :=
  ∃ a cap, e = .returned (.tuple #[.slice a n cap, .int .i64 c]) ∧ ZL w.heap.size w'.heap.size w' a n cap X ∧ (n ≤ 1000 ∧ ∀ i, i < n → (X i).length ≤ 1000) ∧ Below w.heap.size w w'
theorem ResL.nil {w w' : World} {X : Nat → List Int} {n : Nat} {c c' : Int} (hn : n = 0) (hc : c = c') (hb : Below w.heap.size w w') : ResL w X n c (.returned (.tuple #[.slice none 0 0, .int .i64 c'])) w' := by
  subst hn; subst hc
  exact ⟨none, 0, rfl, .inl rfl, ⟨by omega, fun i hi => by omega⟩, hb⟩
end Go.Proofs.Ytkpmonopjkjflaa
/- Contracts: powers and inverses of numbers (the program's closures, the model's loop). -/
namespace Go.Proofs.Ytkpmonopjkjflaa
open Go.RowKit
set_option linter.unusedVariables false
set_option linter.unusedSimpArgs false


/-- What a number is as a value. -/
abbrev num (x : Int) : Value := .agg #[.int .i64 x]
abbrev clo (k : Nat) (b : Nat) : Value := .func (.func k) #[] #[.pointer (some ⟨b, 0, none⟩)]



set_option maxHeartbeats 400000 in
theorem numConst (x : Int) (w : World) :
    Calls Try.prog 154 #[num x] w fun e w' => e = .returned (num x) ∧ Below w.heap.size w w' := by
  go_enter Try.func154, Try.ntmps154
  go_wp2
  refine bodyPost_ret (v := num x) (by simp [results, Try.results154, go_sem]) rfl ⟨rfl, ?_⟩
  exact bl2 _ _ _
set_option maxHeartbeats 400000 in
theorem numMul (p x y : Int) (b : Nat) (w : World) (hc : w.cell? ⟨b, 0, none⟩ = some (.int .i64 p)) (hx : 0 ≤ x * y) (hy : x * y ≤ 100140049) (hp : 2 ≤ p) :
    Calls Try.prog 156 #[num x, num y, .pointer (some ⟨b, 0, none⟩)] w fun e w' => e = .returned (num (x * y % p)) ∧ Below w.heap.size w w' := by
  have hc3 := cell_al3 hc
  go_enter Try.func156, Try.ntmps156
  go_wp2
  refine bodyPost_ret (v := num (x * y % p)) (by simp [results, Try.results156, go_sem]) rfl ⟨rfl, ?_⟩
  exact bl3 _ _ _ _
set_option maxHeartbeats 400000 in
theorem numbersModulo_any (p : Int) (w : World) :
    Calls Try.prog 139 #[.int .i64 p] w fun e w' => e = .returned (.agg #[.func (.func 154) #[] #[], clo 155 w.heap.size, clo 156 w.heap.size]) ∧
      w'.cell? ⟨w.heap.size, 0, none⟩ = some (.int .i64 p) ∧ Below w.heap.size w w' ∧ w.heap.size < w'.heap.size := by
  go_enter Try.func139, Try.ntmps139
  go_wp2
  refine bodyPost_ret (v := .agg #[.func (.func 154) #[] #[], clo 155 w.heap.size, clo 156 w.heap.size]) (by simp [results, Try.results139, go_sem]) rfl ⟨rfl, by simp [go_sem], bl2 _ _ _, by simp; omega⟩
/-- What the loop of 'power' keeps of memory: the closure for products, the base, the result, the modulus. -/
structure PInv (w : World) (B g b : Nat) (p bb r : Int) : Prop where
  hA : w.cell? ⟨B, 2, none⟩ = some (clo 156 b)
  hX : w.cell? ⟨B + 1, 0, none⟩ = some (.int .i64 bb)
  hR : w.cell? ⟨g, 0, none⟩ = some (.int .i64 r)
  hP : w.cell? ⟨b, 0, none⟩ = some (.int .i64 p)
  hS : ∃ v, w.cell? ⟨B + 1 + 1, 0, none⟩ = some v
  fX : w.frozen? ⟨B + 1, 0, none⟩ = false
  fR : w.frozen? ⟨g, 0, none⟩ = false
  fS : w.frozen? ⟨B + 1 + 1, 0, none⟩ = false
theorem PInv.below {w w' : World} {B g b : Nat} {p bb r : Int} (h : PInv w B g b p bb r) (hb : Below w.heap.size w w') : PInv w' B g b p bb r := by
  have k : ∀ {a : Addr} {v : Value}, w.cell? a = some v → w'.cell? a = some v := fun hh => (hb.cell (World.block_lt_of_cell? w _ hh)).trans hh
  have f : ∀ {a : Addr} {v : Value}, w.cell? a = some v → w.frozen? a = false → w'.frozen? a = false := fun hh hf => (hb.frozen (World.block_lt_of_cell? w _ hh)).trans hf
  obtain ⟨v, hv⟩ := h.hS
  exact ⟨k h.hA, k h.hX, k h.hR, k h.hP, ⟨v, k hv⟩, f h.hX h.fX, f h.hR h.fR, f hv h.fS⟩
theorem PInv.setR {w : World} {B g b : Nat} {p bb r : Int} (h : PInv w B g b p bb r) (hg : B + 2 < g) (hbB : b < B) (u : Int) : PInv (w.setCell ⟨g, 0, none⟩ (.int .i64 u)) B g b p bb u := by
  obtain ⟨v, hv⟩ := h.hS
  have o : ∀ {c : Addr} {v : Value}, c.block ≠ g → w.cell? c = some v → (w.setCell ⟨g, 0, none⟩ (.int .i64 u)).cell? c = some v := fun hne hh =>
    (World.cell?_setCell_other _ _ _ _ (fun e => hne (by rw [← e]))).trans hh
  exact ⟨o (by simp; omega) h.hA, o (by simp; omega) h.hX, World.cell?_setCell_same _ _ _ h.hR, o (by simp; omega) h.hP, ⟨v, o (by simp; omega) hv⟩, by simpa using h.fX, by simpa using h.fR, by simpa using h.fS⟩
theorem PInv.setX {w : World} {B g b : Nat} {p bb r : Int} (h : PInv w B g b p bb r) (hg : B + 2 < g) (hbB : b < B) (u : Int) : PInv (w.setCell ⟨B + 1, 0, none⟩ (.int .i64 u)) B g b p u r := by
  obtain ⟨v, hv⟩ := h.hS
  have o : ∀ {c : Addr} {v : Value}, c.block ≠ B + 1 → w.cell? c = some v → (w.setCell ⟨B + 1, 0, none⟩ (.int .i64 u)).cell? c = some v := fun hne hh =>
    (World.cell?_setCell_other _ _ _ _ (fun e => hne (by rw [← e]))).trans hh
  exact ⟨o (by simp) h.hA, World.cell?_setCell_same _ _ _ h.hX, o (by simp; omega) h.hR, o (by simp; omega) h.hP, ⟨v, o (by simp) hv⟩, by simpa using h.fX, by simpa using h.fR, by simpa using h.fS⟩

set_option maxHeartbeats 1600000 in
theorem power_num (p x k : Int) (b : Nat) (w : World) (hc : w.cell? ⟨b, 0, none⟩ = some (.int .i64 p)) (hp : 2 ≤ p) (hp2 : p ≤ 10007) (hx : 0 ≤ x) (hx2 : x < p) (hk : 0 ≤ k) (hk2 : k ≤ 1000000000) :
    Calls Try.prog 141 #[.agg #[.func (.func 154) #[] #[], clo 155 b, clo 156 b], num x, .int .i64 k] w
      fun e w' => e = .returned (num (powM p x k)) ∧ Below w.heap.size w w' := by
  have hbw : b < w.heap.size := World.block_lt_of_cell? w _ hc
  go_enter Try.func141, Try.ntmps141
  go_wp2_with fail
  refine (numConst _ _).mono ?_
  rintro e w1 ⟨rfl, hb1⟩
  have hs1 : w.heap.size + 2 < w1.heap.size := by have := hb1.size; simp at this; omega
  have hc1 := fun {a : Addr} {v : Value} hh => (hb1.cell (p := a) (World.block_lt_of_cell? _ _ hh)).trans (hh : _ = some v)
  have hB1 : Below w.heap.size w w1 := (bl3 _ _ _ _).trans (hb1.mono (by simp; omega))
  have inv1 : PInv (w1.alloc (.cells #[.int .i64 1] 97)) w.heap.size w1.heap.size b p x 1 := by
    have fr : ∀ j, (hj : j ≤ w.heap.size + 2) → w.heap.size ≤ j → w1.frozen? ⟨j, 0, none⟩ = false := by
      intro j h1 h2
      rw [hb1.frozen (p := ⟨j, 0, none⟩) (by simp; omega)]
      rcases (show j = w.heap.size ∨ j = w.heap.size + 1 ∨ j = w.heap.size + 2 by omega) with rfl | rfl | rfl <;> simp [go_sem]
    refine ⟨cell_al (hc1 (by simp [go_sem])) _, cell_al (hc1 (by simp [go_sem])) _, by simp [go_sem], cell_al (hc1 (cell_al3 hc _ _ _)) _, ⟨_, cell_al (hc1 (by simp [go_sem]; rfl)) _⟩, ?_, by simp [go_sem], ?_⟩
    · rw [World.frozen?_alloc_past _ _ _ (by omega)]; exact fr _ (by omega) (by omega)
    · rw [World.frozen?_alloc_past _ _ _ (by omega)]; exact fr _ (by omega) (by omega)
  go_wp2
  have hB2 : Below w.heap.size w (w1.alloc (.cells #[.int .i64 1] 97)) := hB1.alloc (by omega) _
  go_loopw [2] (fun kv wr => ∃ (f : Nat) (kk bb r : Int), kv = .int .i64 kk ∧ PInv wr w.heap.size w1.heap.size b p bb r ∧ Below w.heap.size w wr ∧ w1.heap.size < wr.heap.size ∧ 0 ≤ kk ∧ kk ≤ 1000000000 ∧ 0 ≤ bb ∧ bb < p ∧ 0 ≤ r ∧ r < p ∧ Few f kk ∧ Hid (powM p x k = powLoop f p r bb kk)) (fun kv _ => (intOf kv).toNat)
  case atStart => exact ⟨64, k, x, 1, rfl, inv1, hB2, by simp, hk, hk2, hx, hx2, by omega, by omega, few64 hk2, rfl⟩
  case round =>
    obtain ⟨f, kk, bb, r, rfl, inv, hBr, hsz, hk0, hk1, hb0, hbp, hr0, hrp, hf, hval⟩ := hrel
    clear hc1 inv1 hB1 hB2 hb1
    by_cases hpos : 0 < kk
    · obtain ⟨f, rfl⟩ : ∃ g, f = g + 1 := by
        cases f with
        | zero => exact absurd hpos hf.zero
        | succ g => exact ⟨g, rfl⟩
      have m1 := mulb hr0 hrp hb0 hbp hp2
      have m2 := mulb hb0 hbp hb0 hbp hp2
      have n1 : 0 ≤ r * bb % p ∧ r * bb % p < p := modb hp
      have n2 : 0 ≤ bb * bb % p ∧ bb * bb % p < p := modb hp
      by_cases hodd : kk % 2 = 1
      · have hv2 : Hid (powM p x k = powLoop f p (r * bb % p) (bb * bb % p) (kk / 2)) := hide (hval.out.trans (by rw [powLoop, if_pos hpos, if_pos hodd]))
        have ob : (kk % 2 == 1) = true := by simpa using hodd
        clear hodd
        obtain ⟨hA, hX, hR, hP, hS, fX, fR, fS⟩ := inv
        go_wp2_with fail
        refine (numMul p r bb b _ hP m1.1 m1.2 hp).mono ?_
        rintro e w2 ⟨rfl, hb2⟩
        have inv2 := (PInv.below ⟨hA, hX, hR, hP, hS, fX, fR, fS⟩ hb2)
        have hs2 : w1.heap.size < w2.heap.size := Nat.lt_of_lt_of_le hsz hb2.size
        have hB2 := hBr.trans (hb2.mono (by omega))
        have inv3 := inv2.setR (by omega) hbw (r * bb % p)
        clear hA hX hR hP hS fX fR fS hb2
        obtain ⟨hA, hX, hR, hP, hS, fX, fR, fS⟩ := inv2
        obtain ⟨hA', hX', hR', hP', hS', fX', fR', fS'⟩ := inv3
        go_wp2_with fail
        refine (numMul p bb bb b _ hP' m2.1 m2.2 hp).mono ?_
        rintro e w3 ⟨rfl, hb3⟩
        have inv4 := (PInv.below ⟨hA', hX', hR', hP', hS', fX', fR', fS'⟩ hb3)
        have hs3 : w1.heap.size < w3.heap.size := by have := hb3.size; simp at this; omega
        have hB3 := (hB2.setCell (p := ⟨w1.heap.size, 0, none⟩) (by simp; omega) (.int .i64 (r * bb % p))).trans (hb3.mono (by simp; omega))
        have inv5 := inv4.setX (by omega) hbw (bb * bb % p)
        clear hA hX hR hP hS fX fR fS hA' hX' hR' hP' hS' fX' fR' fS' hb3
        obtain ⟨hA, hX, hR, hP, hS, fX, fR, fS⟩ := inv4
        go_wp2
        go_roundw
        case rel => exact ⟨f, kk / 2, _, _, rfl, inv5, hB3.setCell (by simp) _, by simpa using hs3, by omega, by omega, n2.1, n2.2, n1.1, n1.2, hf.half, hv2⟩
        case measure => simp [intOf]; omega
      · have hv2 : Hid (powM p x k = powLoop f p r (bb * bb % p) (kk / 2)) := hide (hval.out.trans (by rw [powLoop, if_pos hpos, if_neg hodd]))
        have ob : (kk % 2 == 1) = false := by simpa using hodd
        clear hodd
        obtain ⟨hA, hX, hR, hP, hS, fX, fR, fS⟩ := inv
        go_wp2_with fail
        refine (numMul p bb bb b _ hP m2.1 m2.2 hp).mono ?_
        rintro e w3 ⟨rfl, hb3⟩
        have inv4 := (PInv.below ⟨hA, hX, hR, hP, hS, fX, fR, fS⟩ hb3)
        have hs3 : w1.heap.size < w3.heap.size := Nat.lt_of_lt_of_le hsz hb3.size
        have hB3 := hBr.trans (hb3.mono (by omega))
        have inv5 := inv4.setX (by omega) hbw (bb * bb % p)
        clear hA hX hR hP hS fX fR fS hb3
        obtain ⟨hA, hX, hR, hP, hS, fX, fR, fS⟩ := inv4
        go_wp2
        go_roundw
        case rel => exact ⟨f, kk / 2, _, _, rfl, inv5, hB3.setCell (by simp) _, by simpa using hs3, by omega, by omega, n2.1, n2.2, hr0, hrp, hf.half, hv2⟩
        case measure => simp [intOf]; omega
    · have hv : powM p x k = r := hval.out.trans (powLoop_zero _ _ _ _ _ hpos)
      have Hv := Lib.hid hv
      clear hv hval
      obtain ⟨hA, hX, hR, hP, ⟨vs, hS⟩, fX, fR, fS⟩ := inv
      have hS2 : ∀ u, (wr.setCell ⟨w.heap.size + 1 + 1, 0, none⟩ u).cell? ⟨w.heap.size + 1 + 1, 0, none⟩ = some u := fun u => World.cell?_setCell_same _ _ _ hS
      go_wp2
      refine bodyPost_ret (v := num r) (by simp [results, Try.results141, go_sem, hS2]) rfl ⟨by rw [Hv.out], hBr.setCell (by simp; omega) _⟩
end Go.Proofs.Ytkpmonopjkjflaa
