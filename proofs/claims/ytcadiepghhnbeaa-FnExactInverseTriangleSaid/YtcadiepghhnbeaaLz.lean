/- Lists of lists in a law: rows that lie apart, marked and held. -/
import Derived.Test.YtcadiepghhnbeaaLr
import Derived.Test.YtcadiepghhnbeaaJa
namespace Go.Proofs.Ytcadiepghhnbeaa
open Go.RowKit
set_option linter.unusedVariables false
set_option linter.unusedSimpArgs false

/-- n rows X whose slices lie in block g; all of it in blocks from lo to hi, no row over another. -/
structure ZR (lo hi g n : Nat) (w : World) (A : Nat → Option Addr) (C : Nat → Nat) (X : Nat → List Int) : Prop where
  cell : ∀ i, i < n → w.cell? ⟨g, i, none⟩ = some (.slice (A i) (X i).length (C i))
  row : ∀ i, i < n → SL w (A i) (X i).length (C i) (X i)
  free : ∀ i, i < n → ∀ b o, A i = some ⟨b, o, none⟩ → ∀ j, j < (X i).length → w.frozen? ⟨b, o + j, none⟩ = false
  zone : ∀ i, i < n → ∀ b, blk (A i) = some b → lo ≤ b ∧ b < hi ∧ b ≠ g
  apart : ∀ i j, i < n → j < n → i ≠ j → ∀ b o o', A i = some ⟨b, o, none⟩ → A j = some ⟨b, o', none⟩ → o + (X i).length ≤ o' ∨ o' + (X j).length ≤ o
  gl : lo ≤ g
  gh : g < hi
def ZL (lo hi : Nat) (w : World) (a : Option Addr) (n cap : Nat) (X : Nat → List Int) : Prop :=
  n = 0 ∨ ∃ g A C, a = some ⟨g, 0, none⟩ ∧ ZR lo hi g n w A C X
theorem ZR.mono {lo hi lo' hi' g n : Nat} {w : World} {A : Nat → Option Addr} {C : Nat → Nat} {X : Nat → List Int} (h : ZR lo hi g n w A C X) (h1 : lo' ≤ lo) (h2 : hi ≤ hi') : ZR lo' hi' g n w A C X :=
  ⟨h.cell, h.row, h.free, fun i hi b hb => by obtain ⟨x, y, z⟩ := h.zone i hi b hb; exact ⟨by omega, by omega, z⟩, h.apart, by have := h.gl; omega, by have := h.gh; omega⟩
theorem ZL.mono {lo hi lo' hi' n cap : Nat} {w : World} {a : Option Addr} {X : Nat → List Int} (h : ZL lo hi w a n cap X) (h1 : lo' ≤ lo) (h2 : hi ≤ hi') : ZL lo' hi' w a n cap X := by
  rcases h with h | ⟨g, A, C, ha, h⟩
  · exact .inl h
  · exact .inr ⟨g, A, C, ha, h.mono h1 h2⟩
theorem ZR.at {lo hi g n : Nat} {w : World} {A : Nat → Option Addr} {C : Nat → Nat} {X : Nat → List Int} (h : ZR lo hi g n w A C X) (i : Nat) (hi' : i < n) (h0 : (X i).length ≠ 0) :
    ∃ b o, A i = some ⟨b, o, none⟩ ∧ ∀ j, j < (X i).length → w.cell? ⟨b, o + j, none⟩ = some (.int .i64 ((X i).getD j 0)) := by
  obtain ⟨_, _, h3⟩ := h.row i hi'
  rcases h3 with h3 | ⟨b, o, h4, h5⟩
  · exact absurd h3 h0
  · exact ⟨b, o, h4, h5⟩
theorem ZR.below {lo hi g n : Nat} {w w' : World} {A : Nat → Option Addr} {C : Nat → Nat} {X : Nat → List Int} (h : ZR lo hi g n w A C X) (hb : Below w.heap.size w w') : ZR lo hi g n w' A C X :=
  ⟨fun i hi => cell_be hb (h.cell i hi), fun i hi => (h.row i hi).below hb, fun i hi b o hA j hj => by
    obtain ⟨b', o', hA', hc⟩ := h.at i hi (by omega)
    rw [hA] at hA'
    simp only [Option.some.injEq, Addr.mk.injEq, and_true] at hA'
    obtain ⟨rfl, rfl⟩ := hA'
    exact (hb.frozen (World.block_lt_of_cell? _ _ (hc j hj))).trans (h.free i hi b o hA j hj), h.zone, h.apart, h.gl, h.gh⟩
theorem ZL.below {lo hi n cap : Nat} {w w' : World} {a : Option Addr} {X : Nat → List Int} (h : ZL lo hi w a n cap X) (hb : Below w.heap.size w w') : ZL lo hi w' a n cap X := by
  rcases h with h | ⟨g, A, C, ha, h⟩
  · exact .inl h
  · exact .inr ⟨g, A, C, ha, h.below hb⟩
theorem SL.touchZ {lo hi lo' hi' : Nat} {w w' : World} {a : Option Addr} {n c : Nat} {xs : List Int} (h : SL w a n c xs) (t : Touch lo' hi' w w') (hz : ∀ b, blk a = some b → lo ≤ b ∧ b < hi) (hd : hi ≤ lo' ∨ hi' ≤ lo) : SL w' a n c xs := by
  obtain ⟨h1, h2, h3⟩ := h
  refine ⟨h1, h2, ?_⟩
  rcases h3 with h3 | ⟨b, off, rfl, hc⟩
  · exact .inl h3
  · have := hz b rfl
    exact .inr ⟨b, off, rfl, fun j hj => t.cell (hc j hj) (by omega)⟩
theorem ZR.touch {lo hi lo' hi' g n : Nat} {w w' : World} {A : Nat → Option Addr} {C : Nat → Nat} {X : Nat → List Int} (h : ZR lo hi g n w A C X) (t : Touch lo' hi' w w') (hd : hi ≤ lo' ∨ hi' ≤ lo) : ZR lo hi g n w' A C X :=
  ⟨fun i hi => t.cell (h.cell i hi) (by have := h.gl; have := h.gh; omega), fun i hi => (h.row i hi).touchZ t (fun b hb => ⟨(h.zone i hi b hb).1, (h.zone i hi b hb).2.1⟩) hd, fun i hi b o hA j hj => by
    obtain ⟨b', o', hA', hc⟩ := h.at i hi (by omega)
    rw [hA] at hA'
    simp only [Option.some.injEq, Addr.mk.injEq, and_true] at hA'
    obtain ⟨rfl, rfl⟩ := hA'
    have hz := h.zone i hi b (by rw [hA]; rfl)
    have hcj := hc j hj
    exact (World.frozen?_of_block (w := w) (t.block b (World.block_lt_of_cell? w _ hcj) (by omega))).trans (h.free i hi b o hA j hj), h.zone, h.apart, h.gl, h.gh⟩
theorem ZL.touch {lo hi lo' hi' n cap : Nat} {w w' : World} {a : Option Addr} {X : Nat → List Int} (h : ZL lo hi w a n cap X) (t : Touch lo' hi' w w') (hd : hi ≤ lo' ∨ hi' ≤ lo) : ZL lo hi w' a n cap X := by
  rcases h with h | ⟨g, A, C, ha, h⟩
  · exact .inl h
  · exact .inr ⟨g, A, C, ha, h.touch t hd⟩
theorem ZR.congr {lo hi g n : Nat} {w : World} {A : Nat → Option Addr} {C : Nat → Nat} {X Y : Nat → List Int} (h : ZR lo hi g n w A C X) (e : ∀ i, i < n → Y i = X i) : ZR lo hi g n w A C Y :=
  ⟨fun i hi => by rw [e i hi]; exact h.cell i hi, fun i hi => by rw [e i hi]; exact h.row i hi, fun i hi => by rw [e i hi]; exact h.free i hi, h.zone, fun i j hi hj => by rw [e i hi, e j hj]; exact h.apart i j hi hj, h.gl, h.gh⟩
/-- How many numbers the first k rows hold. -/
def tot (X : Nat → List Int) : Nat → Nat
  | 0 => 0
  | k + 1 => tot X k + (X k).length
theorem tot_le {X : Nat → List Int} {n : Nat} (h : ∀ i, i < n → (X i).length ≤ 1000) : ∀ k, k ≤ n → tot X k ≤ k * 1000 := by
  intro k
  induction k with
  | zero => intro _; simp [tot]
  | succ k ih => intro hk; have := ih (by omega); have := h k (by omega); unfold tot; omega
/-- The rows when the first k are marked. -/
def mixX (k0 : Int) (X : Nat → List Int) (k : Nat) : Nat → List Int := fun i => if i < k then marks (k0 + tot X i) (X i).length else X i
theorem mixX_len (k0 : Int) (X : Nat → List Int) (k i : Nat) : (mixX k0 X k i).length = (X i).length := by
  unfold mixX
  split
  · exact marks_len _ _
  · rfl
theorem ZR.mark {lo hi g n : Nat} {w w' : World} {A : Nat → Option Addr} {C : Nat → Nat} {X : Nat → List Int} {k0 : Int} {k b o : Nat} (h : ZR lo hi g n w A C (mixX k0 X k)) (hk : k < n) (hA : A k = some ⟨b, o, none⟩)
    (m : MkP w w' b o (X k).length (X k).length (k0 + tot X k)) : ZR lo hi g n w' A C (mixX k0 X (k + 1)) := by
  have hl : ∀ i, (mixX k0 X (k + 1) i).length = (mixX k0 X k i).length := fun i => by rw [mixX_len, mixX_len]
  have hz := h.zone k hk b (by rw [hA]; rfl)
  have hne : ∀ i, i ≠ k → mixX k0 X (k + 1) i = mixX k0 X k i := fun i hi => by
    unfold mixX
    by_cases h1 : i < k
    · rw [if_pos h1, if_pos (by omega)]
    · rw [if_neg h1, if_neg (by omega)]
  have hoth : ∀ i, i < n → i ≠ k → ∀ b' o', A i = some ⟨b', o', none⟩ → ∀ j, j < (mixX k0 X k i).length → ∀ j', j' < (X k).length → (⟨b', o' + j, none⟩ : Addr) ≠ ⟨b, o + j', none⟩ := fun i hi hik b' o' hA' j hj j' hj' e => by
    simp only [Addr.mk.injEq, and_true] at e
    obtain ⟨rfl, e⟩ := e
    have := h.apart i k hi hk hik b' o' o hA' hA
    rw [mixX_len] at this hj
    rw [mixX_len] at this
    omega
  refine ⟨fun i hi => ?_, fun i hi => ?_, fun i hi b' o' hA' j hj => ?_, h.zone, fun i j hi hj => by rw [hl, hl]; exact h.apart i j hi hj, h.gl, h.gh⟩
  · rw [(m.other ⟨g, i, none⟩ (fun j _ e => by simp only [Addr.mk.injEq] at e; exact hz.2.2 e.1.symm)).1, h.cell i hi, hl]
  · by_cases e : i = k
    · subst e
      obtain ⟨_, h2, _⟩ := h.row i hk
      have e1 : mixX k0 X (i + 1) i = marks (k0 + tot X i) (X i).length := by unfold mixX; rw [if_pos (by omega)]
      refine ⟨rfl, by rw [hl]; exact h2, .inr ⟨b, o, hA, fun j hj => ?_⟩⟩
      rw [mixX_len] at hj
      rw [m.done j hj, e1, marks_at _ _ _ hj]
    · obtain ⟨_, h2, h3⟩ := h.row i hi
      rw [hne i e]
      refine ⟨rfl, h2, ?_⟩
      rcases h3 with h3 | ⟨b', o', hA', hc⟩
      · exact .inl h3
      · exact .inr ⟨b', o', hA', fun j hj => by rw [(m.other _ (fun j' hj' => hoth i hi e b' o' hA' j hj j' hj')).1]; exact hc j hj⟩
  · rw [hl] at hj
    by_cases e : i = k
    · subst e
      rw [hA] at hA'
      simp only [Option.some.injEq, Addr.mk.injEq, and_true] at hA'
      obtain ⟨rfl, rfl⟩ := hA'
      rw [mixX_len] at hj
      exact m.free j hj
    · rw [(m.other _ (fun j' hj' => hoth i hi e b' o' hA' j hj j' hj')).2]
      exact h.free i hi b' o' hA' j hj
set_option maxHeartbeats 800000 in
theorem mark0 (a : Option Addr) (c : Nat) (k0 : Int) (w : World) :
    Calls Try.prog 20 #[.slice a 0 c, .int .i64 k0] w fun e w' => e = .returned (.int .i64 k0) ∧ w = w' := by
  go_enter Try.func20, Try.ntmps20
  go_wp2
  refine wp_loop_rounds 1 ?_
  rw [rounds_succ]
  go_wp2
  go_ret
  exact ⟨rfl, rfl⟩
set_option maxHeartbeats 800000 in
theorem markSS0 (a : Option Addr) (c : Nat) (k0 : Int) (w : World) :
    Calls Try.prog 32 #[.slice a 0 c, .int .i64 k0] w fun e w' => e = .returned (.int .i64 k0) ∧ w = w' := by
  go_enter Try.func32, Try.ntmps32
  go_wp2
  refine wp_loop_rounds 1 ?_
  rw [rounds_succ]
  go_wp2
  go_ret
  exact ⟨rfl, rfl⟩
set_option maxRecDepth 100000 in
set_option maxHeartbeats 1600000 in
theorem markSS (lo hi : Nat) (a : Option Addr) (n c : Nat) (X : Nat → List Int) (k0 : Int) (w : World) (h : ZL lo hi w a n c X) (hn : n ≤ 1000) (hX : ∀ i, i < n → (X i).length ≤ 1000) (hk0 : 0 ≤ k0) (hk1 : k0 ≤ 1000000) :
    Calls Try.prog 32 #[.slice a n c, .int .i64 k0] w fun e w' => e = .returned (.int .i64 (k0 + tot X n)) ∧ ZL lo hi w' a n c (fun i => marks (k0 + tot X i) (X i).length) ∧ Touch lo hi w w' := by
  rcases h with h | ⟨g, A, C, rfl, h⟩
  · subst h
    refine (markSS0 a c k0 w).mono ?_
    rintro e w' ⟨rfl, rfl⟩
    exact ⟨by simp [tot], .inl rfl, ⟨rfl, rfl, rfl, Nat.le_refl _, fun _ _ _ => rfl⟩⟩
  have H0 : Hid (ZR lo hi g n w A C (mixX k0 X 0)) := hide (h.congr fun i _ => by unfold mixX; rw [if_neg (by omega)])
  have hT0 : Hid (Touch lo hi w w) := hide ⟨rfl, rfl, rfl, Nat.le_refl _, fun _ _ _ => rfl⟩
  have ht := tot_le hX
  clear h
  go_enter Try.func32, Try.ntmps32
  go_wp2
  go_loopw [1, 5] (fun q i wr => ∃ k : Nat, k ≤ n ∧ i = .int .i64 k ∧ q = .int .i64 (k0 + tot X k) ∧ Hid (ZR lo hi g n wr A C (mixX k0 X k)) ∧ Hid (Touch lo hi w wr)) (fun _ i _ => n - (intOf i).toNat)
  case atStart => exact ⟨0, by omega, rfl, by simp [tot], H0, hT0⟩
  case round =>
    obtain ⟨k, hk, rfl, rfl, hR, hT⟩ := hrel
    clear H0 hT0
    by_cases hlt : k < n
    · have e1 := hR.out.cell k hlt
      rw [mixX_len] at e1
      have htk := ht k hk
      have hlk := hX k hlt
      obtain ⟨L, hL⟩ : ∃ L, (X k).length = L := ⟨_, rfl⟩
      obtain ⟨t, htt⟩ : ∃ t, tot X k = t := ⟨_, rfl⟩
      have hst : Hid (k0 + (tot X (k + 1) : Int) = k0 + (t : Int) + (L : Int)) := hide (by unfold tot; rw [hL, htt]; omega)
      have HL := hide hL
      have Htt := hide htt
      rw [hL] at e1 hlk
      rw [htt] at htk ⊢
      have hlt' : (k : Int) < (n : Int) := by omega
      clear hL htt
      by_cases h0 : L = 0
      · have hR2 : Hid (ZR lo hi g n wr A C (mixX k0 X (k + 1))) := hide (hR.out.congr fun i hi => by
          unfold mixX
          by_cases h1 : i < k
          · rw [if_pos h1, if_pos (by omega)]
          · rw [if_neg h1]
            by_cases h2 : i = k
            · subst h2
              rw [if_pos (by omega), HL.out, h0]
              have : X i = [] := List.eq_nil_of_length_eq_zero (by rw [HL.out, h0])
              rw [this]
              rfl
            · rw [if_neg (by omega)])
        have hst2 : Hid (k0 + (tot X (k + 1) : Int) = k0 + (t : Int)) := hide (by rw [hst.out, h0]; simp)
        subst h0
        clear hR hst
        go_wp2_with fail
        refine (mark0 _ _ _ _).mono ?_
        rintro e w2 ⟨rfl, rfl⟩
        go_wp2
        go_roundw
        case rel => exact ⟨k + 1, by omega, by go_num, by rw [hst2.out], hR2, hT⟩
        case measure => simp [intOf]; omega
      · obtain ⟨b, o, hA, hc⟩ := hR.out.at k hlt (by rw [mixX_len, HL.out]; exact h0)
        rw [hA] at e1
        have hz := hR.out.zone k hlt b (by rw [hA]; rfl)
        have Hf := hide (hR.out.free k hlt b o hA)
        have HA := hide hA
        have Hc := hide hc
        clear hA hc
        go_wp2_with fail
        refine (markPart b o L (C k) (k0 + t) _ (fun j hj => ⟨_, Hc.out j (by rw [mixX_len, HL.out]; exact hj)⟩) (fun j hj => Hf.out j (by rw [mixX_len, HL.out]; exact hj)) (by omega) (by omega) (by omega)).mono ?_
        rintro e w2 ⟨rfl, hm⟩
        have hR2 : Hid (ZR lo hi g n w2 A C (mixX k0 X (k + 1))) := hide (hR.out.mark hlt HA.out (by rw [HL.out, Htt.out]; exact hm))
        have hT2 : Hid (Touch lo hi w w2) := hide (hT.out.trans (Touch.of hm.gr (fun x e => by cases e; exact ⟨hz.1, hz.2.1⟩)))
        clear hR hT hm Hc Hf
        go_wp2
        go_roundw
        case rel => exact ⟨k + 1, by omega, by go_num, by rw [hst.out], hR2, hT2⟩
        case measure => simp [intOf]; omega
    · obtain rfl : k = n := by omega
      have hfin : ZR lo hi g k wr A C (fun i => marks (k0 + tot X i) (X i).length) := hR.out.congr fun i hi => by unfold mixX; rw [if_pos hi]
      have Hfin := hide hfin
      obtain ⟨t, htt⟩ : ∃ t, tot X k = t := ⟨_, rfl⟩
      have Htt := hide htt
      rw [htt]
      clear hfin htt hR
      go_wp2
      refine bodyPost_ret (v := .int .i64 (k0 + t)) (by simp [results, Try.results32]) rfl ?_
      exact ⟨by rw [Htt.out], .inr ⟨g, A, C, rfl, Hfin.out⟩, hT.out⟩
set_option maxRecDepth 100000 in
set_option maxHeartbeats 1600000 in
theorem heldSS (lo hi : Nat) (a : Option Addr) (n c : Nat) (X : Nat → List Int) (k0 : Int) (w : World) (h : ZL lo hi w a n c (fun i => marks (k0 + tot X i) (X i).length)) (hn : n ≤ 1000) (hX : ∀ i, i < n → (X i).length ≤ 1000) (hk0 : 0 ≤ k0) (hk1 : k0 ≤ 1000000) :
    Calls Try.prog 33 #[.slice a n c, .int .i64 k0] w fun e w' => e = .returned (.int .i64 (k0 + tot X n)) ∧ w = w' := by
  rcases h with h | ⟨g, A, C, rfl, h⟩
  · subst h
    go_enter Try.func33, Try.ntmps33
    go_wp2
    refine wp_loop_rounds 1 ?_
    rw [rounds_succ]
    go_wp2
    go_ret
    exact ⟨by simp [tot], rfl⟩
  have H := hide h
  have ht := tot_le hX
  clear h
  go_enter Try.func33, Try.ntmps33
  go_wp2
  go_loop [1, 5] (fun q i => ∃ k : Nat, k ≤ n ∧ i = .int .i64 k ∧ q = .int .i64 (k0 + tot X k)) (fun _ i => n - (intOf i).toNat)
  case atStart => exact ⟨0, by omega, rfl, by simp [tot]⟩
  case round =>
    obtain ⟨k, hk, rfl, rfl⟩ := hrel
    by_cases hlt : k < n
    · have e1 := H.out.cell k hlt
      have s1 := H.out.row k hlt
      rw [marks_len] at e1 s1
      have htk := ht k hk
      have hlk := hX k hlt
      obtain ⟨L, hL⟩ : ∃ L, (X k).length = L := ⟨_, rfl⟩
      obtain ⟨t, htt⟩ : ∃ t, tot X k = t := ⟨_, rfl⟩
      have hst : Hid (k0 + (tot X (k + 1) : Int) = k0 + (t : Int) + (L : Int)) := hide (by unfold tot; rw [hL, htt]; omega)
      rw [hL] at e1 hlk s1
      rw [htt] at htk s1 ⊢
      have hlt' : (k : Int) < (n : Int) := by omega
      have hneg : ¬ k0 + (t : Int) + (L : Int) < 0 := by omega
      have S1 := hide s1
      clear hL htt s1
      go_wp2_with fail
      refine (heldI _ _ _ _ _ S1.out (by omega) (by omega) (by omega)).mono ?_
      rintro e w' ⟨rfl, rfl⟩
      go_wp2
      go_round
      case rel => exact ⟨k + 1, by omega, by go_num, by rw [hst.out]⟩
      case measure => simp [intOf]; omega
    · obtain rfl : k = n := by omega
      obtain ⟨t, htt⟩ : ∃ t, tot X k = t := ⟨_, rfl⟩
      have Htt := hide htt
      rw [htt]
      clear htt
      go_wp2
      refine bodyPost_ret (v := .int .i64 (k0 + t)) (by simp [results, Try.results33]) rfl ?_
      exact ⟨by rw [Htt.out], rfl⟩
theorem ZR.lists {lo hi g n : Nat} {w : World} {A : Nat → Option Addr} {C : Nat → Nat} {X : Nat → List Int} (h : ZR lo hi g n w A C X) (hX : ∀ i, i < n → (X i).length ≤ 1000) : Lists w g n A (fun i => (X i).length) C X :=
  fun i hi => ⟨h.cell i hi, h.row i hi, Nat.le_trans (hX i hi) (by omega)⟩
theorem eqZ {lo hi lo' hi' : Nat} {a b : Option Addr} {n c d : Nat} {X : Nat → List Int} (w : World) (h1 : ZL lo hi w a n c X) (h2 : ZL lo' hi' w b n d X) (hn : n ≤ 1000) (hX : ∀ i, i < n → (X i).length ≤ 1000) :
    Calls Try.prog 30 #[.slice a n c, .slice b n d] w fun e w' => e = .returned (.bool true) ∧ Below w.heap.size w w' := by
  rcases h1 with h1 | ⟨g, A, C, rfl, h1⟩
  · subst h1
    exact eqSS_none a b c d w
  · rcases h2 with h2 | ⟨g', A', C', rfl, h2⟩
    · subst h2
      exact eqSS_none _ b c d w
    · exact eqSS g g' n c d A A' _ C C' X w (h1.lists hX) (h2.lists hX) (by omega)
/-- A list of lists and a code. -/
def ResL (w : World) (X : Nat → List Int) (n : Nat) (c : Int) (e : Ending) (w' : World) : Prop :=
  ∃ a cap, e = .returned (.tuple #[.slice a n cap, .int .i64 c]) ∧ ZL w.heap.size w'.heap.size w' a n cap X ∧ (n ≤ 1000 ∧ ∀ i, i < n → (X i).length ≤ 1000) ∧ Below w.heap.size w w'
theorem ResL.nil {w w' : World} {X : Nat → List Int} {n : Nat} {c c' : Int} (hn : n = 0) (hc : c = c') (hb : Below w.heap.size w w') : ResL w X n c (.returned (.tuple #[.slice none 0 0, .int .i64 c'])) w' := by
  subst hn; subst hc
  exact ⟨none, 0, rfl, .inl rfl, ⟨by omega, fun i hi => by omega⟩, hb⟩
end Go.Proofs.Ytcadiepghhnbeaa
