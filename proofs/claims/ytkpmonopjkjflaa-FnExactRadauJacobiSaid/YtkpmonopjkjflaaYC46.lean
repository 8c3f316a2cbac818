/- Merged texts. -/
import Derived.Test.YtkpmonopjkjflaaYC45
import Derived.Test.YtkpmonopjkjflaaYC44
import Derived.Deep.RegionWith
import Derived.Deep.DeepCutAuto
import Derived.Deep.CutBlock
import Derived.Deep.RegionHeld3
import Derived.Test.YtkpmonopjkjflaaYC42
/- Contracts: values of polynomials: evaluate (numbers), evaluateAt, ValueAt (program); l01At, ValueAt (model). -/
namespace Go.Proofs.Ytkpmonopjkjflaa
open Go.RowKit
set_option linter.unusedVariables false
set_option linter.unusedSimpArgs false

/-- Horner's rule, k numbers taken in from the last one on. -/
def hor (p : Int) (f : List Int) (x : Int) : Nat → Int
  | 0 => 0
  | k + 1 => (hor p f x k * x + f.getD (f.length - 1 - k) 0) % p
def evM (p : Int) (f : List Int) (x : Int) : Int := hor p f x f.length
theorem hor_rng {p : Int} (hp : 2 ≤ p) (f : List Int) (x : Int) (k : Nat) : 0 ≤ hor p f x k ∧ hor p f x k < p := by
  cases k with
  | zero => simp [hor]; omega
  | succ k => exact modb hp
theorem evM_rng {p : Int} (hp : 2 ≤ p) (f : List Int) (x : Int) : 0 ≤ evM p f x ∧ evM p f x < p := hor_rng hp f x _
set_option maxRecDepth 100000 in
set_option maxHeartbeats 1600000 in
theorem l01At_any (p x : Int) (a1 : Option Addr) (n1 c1 : Nat) (f : List Int) (w : World) (h1 : SL w a1 n1 c1 f) (b1 : n1 ≤ 1000) (hp : 2 ≤ p) (hp2 : p ≤ 10007) (hx0 : 0 ≤ x) (hx1 : x < p) (hf : areB p f = true) :
    Calls Try.prog 97 #[.int .i64 p, .slice a1 n1 c1, .int .i64 x] w fun e w' => e = .returned (.int .i64 (evM p f x)) ∧ w = w' := by
  have hl1 := hide h1.len
  have Hf := hide hf
  clear hf
  go_enter Try.func97, Try.ntmps97
  go_wp2
  go_loop [7, 8] (fun o i => ∃ k : Nat, k ≤ n1 ∧ i = .int .i64 ((n1 : Int) - 1 - (k : Int)) ∧ o = .int .i64 (hor p f x k)) (fun _ i => (intOf i + 1).toNat)
  case atStart => exact ⟨0, by omega, by simp, rfl⟩
  case round =>
    obtain ⟨k, hk, rfl, rfl⟩ := hrel
    by_cases hlt : k < n1
    · obtain ⟨b, off, ha, hbw, hcell⟩ := h1.at (by omega)
      subst ha
      have e1 := hcell (n1 - 1 - k) (by omega)
      have hr := getD_rng Hf.out hp (n1 - 1 - k)
      have hh : Hid (hor p f x (k + 1) = (hor p f x k * x + f.getD (n1 - 1 - k) 0) % p) := hide (by rw [hor, hl1.out])
      have hv := hor_rng hp f x k
      obtain ⟨y, hy⟩ : ∃ y, f.getD (n1 - 1 - k) 0 = y := ⟨_, rfl⟩
      obtain ⟨v, hvv⟩ : ∃ v, hor p f x k = v := ⟨_, rfl⟩
      rw [hy] at e1 hr hh
      rw [hvv] at hh hv ⊢
      obtain ⟨m1, m2⟩ := mulb hv.1 hv.2 hx0 hx1 hp2
      have hge : (0 : Int) ≤ (n1 : Int) - 1 - (k : Int) := by omega
      have hkt : ((n1 : Int) - 1 - (k : Int)).toNat = n1 - 1 - k := by omega
      obtain ⟨r1, r2⟩ := hr
      clear hcell hy hvv
      go_wp2
      go_round
      case rel => exact ⟨k + 1, by omega, by go_num, by rw [hh.out]⟩
      case measure => simp [intOf]; omega
    · obtain rfl : k = n1 := by omega
      have hneg : ¬ (0 : Int) ≤ (k : Int) - 1 - (k : Int) := by omega
      have hsz : (k : Int) - 1 - (k : Int) = -1 := by omega
      have hfin : Hid (hor p f x k = evM p f x) := hide (by unfold evM; rw [hl1.out])
      rw [hsz]
      clear hsz hneg
      go_wp2
      go_ret
      exact ⟨ret_int hfin.out, rfl⟩
set_option maxHeartbeats 400000 in
theorem numAdd (p x y : Int) (b : Nat) (w : World) (hc : w.cell? ⟨b, 0, none⟩ = some (.int .i64 p)) (hx : 0 ≤ x) (hx2 : x ≤ 100140049) (hy : 0 ≤ y) (hy2 : y ≤ 100140049) (hp : 2 ≤ p) :
    Calls Try.prog 155 #[num x, num y, .pointer (some ⟨b, 0, none⟩)] w fun e w' => e = .returned (num ((x + y) % p)) ∧ Below w.heap.size w w' := by
  have hc3 := cell_al3 hc
  go_enter Try.func155, Try.ntmps155
  go_wp2
  refine bodyPost_ret (v := num ((x + y) % p)) (by simp [results, Try.results155, go_sem]) rfl ⟨rfl, ?_⟩
  exact bl3 _ _ _ _
/-- What the loop of 'evaluate' keeps of memory. -/
structure EInv (w : World) (B g b : Nat) (p x v : Int) : Prop where
  h0 : w.cell? ⟨B, 0, none⟩ = some (.func (.func 154) #[] #[])
  h1 : w.cell? ⟨B, 1, none⟩ = some (clo 155 b)
  h2 : w.cell? ⟨B, 2, none⟩ = some (clo 156 b)
  hX : w.cell? ⟨B + 1, 0, none⟩ = some (.int .i64 x)
  hV : w.cell? ⟨g, 0, none⟩ = some (.int .i64 v)
  hP : w.cell? ⟨b, 0, none⟩ = some (.int .i64 p)
  hS : ∃ u, w.cell? ⟨B + 1 + 1, 0, none⟩ = some u
  fV : w.frozen? ⟨g, 0, none⟩ = false
  fS : w.frozen? ⟨B + 1 + 1, 0, none⟩ = false
theorem EInv.below {w w' : World} {B g b : Nat} {p x v : Int} (h : EInv w B g b p x v) (hb : Below w.heap.size w w') : EInv w' B g b p x v := by
  have k : ∀ {a : Addr} {v : Value}, w.cell? a = some v → w'.cell? a = some v := fun hh => (hb.cell (World.block_lt_of_cell? w _ hh)).trans hh
  have f : ∀ {a : Addr} {v : Value}, w.cell? a = some v → w.frozen? a = false → w'.frozen? a = false := fun hh hf => (hb.frozen (World.block_lt_of_cell? w _ hh)).trans hf
  obtain ⟨u, hu⟩ := h.hS
  exact ⟨k h.h0, k h.h1, k h.h2, k h.hX, k h.hV, k h.hP, ⟨u, k hu⟩, f h.hV h.fV, f hu h.fS⟩
theorem EInv.setV {w : World} {B g b : Nat} {p x v : Int} (h : EInv w B g b p x v) (hg : B + 2 < g) (hbB : b < B) (u : Int) : EInv (w.setCell ⟨g, 0, none⟩ (.int .i64 u)) B g b p x u := by
  obtain ⟨s, hs⟩ := h.hS
  have o : ∀ {c : Addr} {v : Value}, c.block ≠ g → w.cell? c = some v → (w.setCell ⟨g, 0, none⟩ (.int .i64 u)).cell? c = some v := fun hne hh =>
    (World.cell?_setCell_other _ _ _ _ (fun e => hne (by rw [← e]))).trans hh
  exact ⟨o (by simp; omega) h.h0, o (by simp; omega) h.h1, o (by simp; omega) h.h2, o (by simp; omega) h.hX, World.cell?_setCell_same _ _ _ h.hV, o (by simp; omega) h.hP, ⟨s, o (by simp; omega) hs⟩, by simpa using h.fV, by simpa using h.fS⟩
set_option maxRecDepth 100000 in
set_option maxHeartbeats 3200000 in
theorem evaluate_num (p x : Int) (a1 : Option Addr) (n1 c1 : Nat) (f : List Int) (b : Nat) (w : World) (hc : w.cell? ⟨b, 0, none⟩ = some (.int .i64 p)) (h1 : SL w a1 n1 c1 f) (b1 : n1 ≤ 1000) (hp : 2 ≤ p) (hp2 : p ≤ 10007) (hx0 : 0 ≤ x) (hx1 : x < p) (hf : areB p f = true) :
    Calls Try.prog 140 #[.agg #[.func (.func 154) #[] #[], clo 155 b, clo 156 b], .slice a1 n1 c1, num x] w
      fun e w' => e = .returned (num (evM p f x)) ∧ Below w.heap.size w w' := by
  have hl1 := hide h1.len
  have Hf := hide hf
  have hbw : b < w.heap.size := World.block_lt_of_cell? w _ hc
  clear hf
  go_enter Try.func140, Try.ntmps140
  go_wp2_with fail
  refine (numConst _ _).mono ?_
  rintro e w1 ⟨rfl, hb1⟩
  have hs1 : w.heap.size + 2 < w1.heap.size := by have := hb1.size; simp at this; omega
  have hc1 := fun {a : Addr} {v : Value} hh => (hb1.cell (p := a) (World.block_lt_of_cell? _ _ hh)).trans (hh : _ = some v)
  have hB1 : Below w.heap.size w w1 := (bl3 _ _ _ _).trans (hb1.mono (by simp; omega))
  have inv1 : EInv (w1.alloc (.cells #[.int .i64 0] 97)) w.heap.size w1.heap.size b p x 0 := by
    have fr : ∀ j, (hj : j ≤ w.heap.size + 2) → w.heap.size ≤ j → w1.frozen? ⟨j, 0, none⟩ = false := by
      intro j h1 h2
      rw [hb1.frozen (p := ⟨j, 0, none⟩) (by simp; omega)]
      rcases (show j = w.heap.size ∨ j = w.heap.size + 1 ∨ j = w.heap.size + 2 by omega) with rfl | rfl | rfl <;> simp [go_sem]
    refine ⟨cell_al (hc1 (by simp [go_sem])) _, cell_al (hc1 (by simp [go_sem])) _, cell_al (hc1 (by simp [go_sem])) _, cell_al (hc1 (by simp [go_sem])) _, by simp [go_sem], cell_al (hc1 (cell_al3 hc _ _ _)) _, ⟨_, cell_al (hc1 (by simp [go_sem]; rfl)) _⟩, by simp [go_sem], ?_⟩
    · rw [World.frozen?_alloc_past _ _ _ (by omega)]; exact fr _ (by omega) (by omega)
  have hB2 : Below w.heap.size w (w1.alloc (.cells #[.int .i64 0] 97)) := hB1.alloc (by omega) _
  clear hc1 hB1 hb1
  go_wp2
  go_loopw [8] (fun i wr => ∃ k : Nat, k ≤ n1 ∧ i = .int .i64 ((n1 : Int) - 1 - (k : Int)) ∧ EInv wr w.heap.size w1.heap.size b p x (hor p f x k) ∧ Below w.heap.size w wr ∧ w1.heap.size < wr.heap.size) (fun i _ => (intOf i + 1).toNat)
  case atStart => exact ⟨0, by omega, by simp, inv1, hB2, by simp⟩
  case round =>
    obtain ⟨k, hk, rfl, inv, hBr, hsr⟩ := hrel
    clear inv1 hB2
    by_cases hlt : k < n1
    · have hr := getD_rng Hf.out hp (n1 - 1 - k)
      have hh : Hid (hor p f x (k + 1) = (hor p f x k * x + f.getD (n1 - 1 - k) 0) % p) := hide (by rw [hor, hl1.out])
      have hv := hor_rng hp f x k
      obtain ⟨y, hy⟩ : ∃ y, f.getD (n1 - 1 - k) 0 = y := ⟨_, rfl⟩
      obtain ⟨v, hvv⟩ : ∃ v, hor p f x k = v := ⟨_, rfl⟩
      rw [hy] at hr hh
      rw [hvv] at hh hv inv
      obtain ⟨m1, m2⟩ := mulb hv.1 hv.2 hx0 hx1 hp2
      have hmr := modb (x := v * x) hp
      have hsum : Hid ((v * x % p + y) % p = hor p f x (k + 1)) := hide (by rw [hh.out, Int.emod_add_emod])
      have hge : (0 : Int) ≤ (n1 : Int) - 1 - (k : Int) := by omega
      have Hy := hide hy
      obtain ⟨r1, r2⟩ := hr
      have hb00 : Below wr.heap.size wr wr.drew := (Below.refl _ _).drew
      have F0 : ∀ w', Below wr.heap.size wr w' → w'.cell? ⟨w.heap.size, 0, none⟩ = some (.func (.func 154) #[] #[]) := fun w' hb => (inv.below hb).h0
      have F1 : ∀ w', Below wr.heap.size wr w' → w'.cell? ⟨w.heap.size, 1, none⟩ = some (clo 155 b) := fun w' hb => (inv.below hb).h1
      have F2 : ∀ w', Below wr.heap.size wr w' → w'.cell? ⟨w.heap.size, 2, none⟩ = some (clo 156 b) := fun w' hb => (inv.below hb).h2
      have F3 : ∀ w', Below wr.heap.size wr w' → w'.cell? ⟨w.heap.size + 1, 0, none⟩ = some (.int .i64 x) := fun w' hb => (inv.below hb).hX
      have F4 : ∀ w', Below wr.heap.size wr w' → w'.cell? ⟨w1.heap.size, 0, none⟩ = some (.int .i64 v) := fun w' hb => (inv.below hb).hV
      have F5 : ∀ w', Below wr.heap.size wr w' → w'.frozen? ⟨w1.heap.size, 0, none⟩ = false := fun w' hb => (inv.below hb).fV
      have hV := inv.hV
      have hg0 : ∀ {j k : Nat}, j ≤ w.heap.size + 1 → (⟨j, k, none⟩ : Addr) ≠ ⟨w1.heap.size, 0, none⟩ := by
        intro j k hj e
        have := congrArg Addr.block e
        simp at this
        omega
      have G : ∀ (w' : World) (u v : Value) (j k : Nat), j ≤ w.heap.size + 1 → w'.cell? ⟨j, k, none⟩ = some v → (w'.setCell ⟨w1.heap.size, 0, none⟩ u).cell? ⟨j, k, none⟩ = some v := fun w' u v j k hj hh => (World.cell?_setCell_other _ _ _ _ (hg0 hj).symm).trans hh
      have G0 : ∀ w' u, Below wr.heap.size wr w' → (w'.setCell ⟨w1.heap.size, 0, none⟩ u).cell? ⟨w.heap.size, 0, none⟩ = some (.func (.func 154) #[] #[]) := fun w' u hb => G _ _ _ _ _ (by omega) (F0 w' hb)
      have G1 : ∀ w' u, Below wr.heap.size wr w' → (w'.setCell ⟨w1.heap.size, 0, none⟩ u).cell? ⟨w.heap.size, 1, none⟩ = some (clo 155 b) := fun w' u hb => G _ _ _ _ _ (by omega) (F1 w' hb)
      have G2 : ∀ w' u, Below wr.heap.size wr w' → (w'.setCell ⟨w1.heap.size, 0, none⟩ u).cell? ⟨w.heap.size, 2, none⟩ = some (clo 156 b) := fun w' u hb => G _ _ _ _ _ (by omega) (F2 w' hb)
      have G3 : ∀ w' u, Below wr.heap.size wr w' → (w'.setCell ⟨w1.heap.size, 0, none⟩ u).cell? ⟨w.heap.size + 1, 0, none⟩ = some (.int .i64 x) := fun w' u hb => G _ _ _ _ _ (by omega) (F3 w' hb)
      clear G hg0 hy hvv
      go_upto_block 1 with fail
      go_cut [7] (fun s7 wx => s7 = .pointer (some ⟨w1.heap.size, 0, none⟩) ∧ EInv wx w.heap.size w1.heap.size b p x (hor p f x (k + 1)) ∧ Below w.heap.size w wx ∧ w1.heap.size < wx.heap.size)
      case first =>
        go_wp2
        refine wp_region_held_drew (S := fun w' => w'.cell? ⟨w.heap.size, 0, none⟩ = some (.func (.func 154) #[] #[]) ∧ w'.cell? ⟨w.heap.size, 1, none⟩ = some (clo 155 b) ∧ w'.cell? ⟨w.heap.size, 2, none⟩ = some (clo 156 b) ∧ w'.cell? ⟨w.heap.size + 1, 0, none⟩ = some (.int .i64 x)) (by kernel_rfl) ?_ (fun hHeld => ?_)
        · exact ⟨F0 _ hb00, F1 _ hb00, F2 _ hb00, F3 _ hb00⟩
        refine wpAnyH_take (i := 0) (v := ?_) rfl (by kernel_rfl) (by kernel_rfl) (by kernel_rfl) (fun _ _ _ h => h) (Or.inl ⟨by rfl, ?_⟩) (by assumption) ?_
        rotate_left 1
        · intro w hSw
          (try dsimp only at hSw)
          go_simp
          (try with_reducible rfl)
        (try simp only [Act.put, List.setIfInBounds_toArray, List.set_cons_zero, List.set_cons_succ])
        refine wpAnyH_take (i := 1) (v := ?_) rfl (by kernel_rfl) (by kernel_rfl) (by kernel_rfl) (fun _ _ _ h => h) (Or.inl ⟨by rfl, ?_⟩) (by assumption) ?_
        rotate_left 1
        · intro w hSw
          (try dsimp only at hSw)
          go_simp
          (try with_reducible rfl)
        (try simp only [Act.put, List.setIfInBounds_toArray, List.set_cons_zero, List.set_cons_succ])
        refine wpAnyH_take (i := 2) (v := ?_) rfl (by kernel_rfl) (by kernel_rfl) (by kernel_rfl) (fun _ _ _ h => h) (Or.inl ⟨by rfl, ?_⟩) (by assumption) ?_
        rotate_left 1
        · intro w hSw
          (try dsimp only at hSw)
          go_simp
          (try with_reducible rfl)
        (try simp only [Act.put, List.setIfInBounds_toArray, List.set_cons_zero, List.set_cons_succ])
        refine wpAnyH_take (i := 3) (v := ?_) rfl (by kernel_rfl) (by kernel_rfl) (by kernel_rfl) (fun _ _ _ h => h) (Or.inl ⟨by rfl, ?_⟩) (by assumption) ?_
        rotate_left 1
        · intro w hSw
          (try dsimp only at hSw)
          go_simp
          (try with_reducible rfl)
        (try simp only [Act.put, List.setIfInBounds_toArray, List.set_cons_zero, List.set_cons_succ])
        refine wpAnyH_take (i := 5) (v := ?_) rfl (by kernel_rfl) (by kernel_rfl) (by kernel_rfl) (fun _ _ _ h => h) (Or.inl ⟨by rfl, ?_⟩) (by assumption) ?_
        rotate_left 1
        · intro w hSw
          (try dsimp only at hSw)
          go_simp
          (try with_reducible rfl)
        (try simp only [Act.put, List.setIfInBounds_toArray, List.set_cons_zero, List.set_cons_succ])
        refine wpAnyH_take (i := 7) (v := ?_) rfl (by kernel_rfl) (by kernel_rfl) (by kernel_rfl) (fun _ _ _ h => h) (Or.inl ⟨by rfl, ?_⟩) (by assumption) ?_
        rotate_left 1
        · intro w hSw
          (try dsimp only at hSw)
          go_simp
          (try with_reducible rfl)
        (try simp only [Act.put, List.setIfInBounds_toArray, List.set_cons_zero, List.set_cons_succ])
        refine wpAnyH_take (i := 8) (v := ?_) rfl (by kernel_rfl) (by kernel_rfl) (by kernel_rfl) (fun _ _ _ h => h) (Or.inl ⟨by rfl, ?_⟩) (by assumption) ?_
        rotate_left 1
        · intro w hSw
          (try dsimp only at hSw)
          go_simp
          (try with_reducible rfl)
        (try simp only [Act.put, List.setIfInBounds_toArray, List.set_cons_zero, List.set_cons_succ])
        refine wpAnyH_take (i := 9) (v := ?_) rfl (by kernel_rfl) (by kernel_rfl) (by kernel_rfl) (fun _ _ _ h => h) (Or.inl ⟨by rfl, ?_⟩) (by assumption) ?_
        rotate_left 1
        · intro w hSw
          (try dsimp only at hSw)
          go_simp
          (try with_reducible rfl)
        (try simp only [Act.put, List.setIfInBounds_toArray, List.set_cons_zero, List.set_cons_succ])
        refine wpAnyH_take (i := 10) (v := ?_) rfl (by kernel_rfl) (by kernel_rfl) (by kernel_rfl) (fun _ _ _ h => h) (Or.inl ⟨by rfl, ?_⟩) (by assumption) ?_
        rotate_left 1
        · intro w hSw
          (try dsimp only at hSw)
          go_simp
          (try with_reducible rfl)
        (try simp only [Act.put, List.setIfInBounds_toArray, List.set_cons_zero, List.set_cons_succ])
        refine wpAnyH_ready (rs := [4]) (by kernel_rfl) (by simp) ?_
        refine AllReadyH.cons rfl (fun K hK => ?_) AllReadyH.nil
        go_simp
        refine hK.out _ _ ?_ (fun hHeld => ?_)
        · exact ⟨F0 _ (by assumption), F1 _ (by assumption), F2 _ (by assumption), F3 _ (by assumption)⟩
        clear hK K
        (try simp only [Act.put, List.setIfInBounds_toArray, List.set_cons_zero, List.set_cons_succ])
        refine wpAnyH_ready (rs := [6]) (by kernel_rfl) (by simp) ?_
        refine AllReadyH.cons rfl (fun K hK => ?_) AllReadyH.nil
        go_simp
        refine (numMul p v x b _ (EInv.hP (inv.below (by assumption))) m1 m2 hp).mono ?_
        rintro e wn ⟨rfl, hbn⟩
        have hbn2 := bnext (a := wr) (by assumption) hbn
        go_wp2_with fail
        refine hK.out _ _ ?_ (fun hHeld => ?_)
        · exact ⟨F0 _ (by assumption), F1 _ (by assumption), F2 _ (by assumption), F3 _ (by assumption)⟩
        clear hK K
        (try simp only [Act.put, List.setIfInBounds_toArray, List.set_cons_zero, List.set_cons_succ])
        refine wpAnyH_ready (rs := [11]) (by kernel_rfl) (by simp) ?_
        refine AllReadyH.cons rfl (fun K hK => ?_) AllReadyH.nil
        go_simp
        refine (numberAt_v _ n1 c1 (n1 - 1 - k) _ f y _ ((h1.below hBr).below (by assumption)) (by omega) (by omega) (by omega) Hy.out).mono ?_
        rintro e wn ⟨rfl, hbn⟩
        have hbn2 := bnext (a := wr) (by assumption) hbn
        go_wp2_with fail
        refine hK.out _ _ ?_ (fun hHeld => ?_)
        · exact ⟨F0 _ (by assumption), F1 _ (by assumption), F2 _ (by assumption), F3 _ (by assumption)⟩
        clear hK K
        (try simp only [Act.put, List.setIfInBounds_toArray, List.set_cons_zero, List.set_cons_succ])
        refine wpAnyH_ready (rs := [12]) (by kernel_rfl) (by simp) ?_
        refine AllReadyH.cons rfl (fun K hK => ?_) AllReadyH.nil
        go_simp
        refine (numConst y _).mono ?_
        rintro e wn ⟨rfl, hbn⟩
        have hbn2 := bnext (a := wr) (by assumption) hbn
        go_wp2_with fail
        refine hK.out _ _ ?_ (fun hHeld => ?_)
        · exact ⟨F0 _ (by assumption), F1 _ (by assumption), F2 _ (by assumption), F3 _ (by assumption)⟩
        clear hK K
        (try simp only [Act.put, List.setIfInBounds_toArray, List.set_cons_zero, List.set_cons_succ])
        refine wpAnyH_ready (rs := [13]) (by kernel_rfl) (by simp) ?_
        refine AllReadyH.cons rfl (fun K hK => ?_) AllReadyH.nil
        go_simp
        refine (numAdd p (v * x % p) y b _ (EInv.hP (inv.below (by assumption))) hmr.1 (by omega) r1 (by omega) hp).mono ?_
        rintro e wn ⟨rfl, hbn⟩
        have hbn2 := bnext (a := wr) (by assumption) hbn
        go_wp2_with fail
        refine hK.out _ _ ?_ (fun hHeld => ?_)
        · exact ⟨F0 _ (by assumption), F1 _ (by assumption), F2 _ (by assumption), F3 _ (by assumption)⟩
        clear hK K
        (try simp only [Act.put, List.setIfInBounds_toArray, List.set_cons_zero, List.set_cons_succ])
        have v4 := F4 _ hbn2
        have v5 := F5 _ hbn2
        refine wpAnyH_ready (rs := [14]) (by kernel_rfl) (by simp) ?_
        refine AllReadyH.cons rfl (fun K hK => ?_) AllReadyH.nil
        go_simp
        refine hK.out _ _ ?_ (fun hHeld => ?_)
        · exact ⟨G0 _ _ (by assumption), G1 _ _ (by assumption), G2 _ _ (by assumption), G3 _ _ (by assumption)⟩
        clear hK K
        (try simp only [Act.put, List.setIfInBounds_toArray, List.set_cons_zero, List.set_cons_succ])
        refine wpAnyH_done (by kernel_rfl) ?_ _
        go_wp2
        go_meet
        refine ⟨rfl, ?_, ?_, ?_⟩
        · rw [hh.out]
          exact (inv.below hbn2).setV (by omega) (by omega) ((v * x + y) % p)
        · exact (hBr.trans (hbn2.mono (by omega))).setCell (by simp; omega) _
        · have := hbn2.size
          simp
          omega
      case rest =>
        obtain ⟨rfl, inv', hB', hs'⟩ := hcut
        clear F0 F1 F2 F3 F4 F5 G0 G1 G2 G3 hV inv hb00 hsum hmr
        go_wp2
        go_roundw
        case rel => exact ⟨k + 1, by omega, by go_num, inv', hB', hs'⟩
        case measure => simp [intOf]; omega
    · obtain rfl : k = n1 := by omega
      have hsz : (k : Int) - 1 - (k : Int) = -1 := by omega
      have he : hor p f x k = evM p f x := by unfold evM; rw [hl1.out]
      rw [hsz]
      rw [he] at inv
      clear he hsz
      obtain ⟨hA, hA1, hA2, hX, hV, hP, ⟨vs, hS⟩, fV, fS⟩ := inv
      have hS2 : ∀ u, (wr.setCell ⟨w.heap.size + 1 + 1, 0, none⟩ u).cell? ⟨w.heap.size + 1 + 1, 0, none⟩ = some u := fun u => World.cell?_setCell_same _ _ _ hS
      go_wp2
      refine bodyPost_ret (v := num (evM p f x)) (by simp [results, Try.results140, go_sem, hS2]) rfl ⟨rfl, hBr.setCell (by simp; omega) _⟩
end Go.Proofs.Ytkpmonopjkjflaa
/- Plain mathematics: primes as the loop tests them; products of lists of numbers modulo p. No program. -/
namespace Go.Proofs.Ytkpmonopjkjflaa
open Go.RowKit
set_option linter.unusedVariables false
set_option linter.unusedSimpArgs false

theorem primeLoop_spec : ∀ (f : Nat) (d p : Int), 2 ≤ d → primeLoop f d p = true → ∀ e : Int, d ≤ e → e < d + f → e * e ≤ p → p % e ≠ 0 := by
  intro f
  induction f with
  | zero => intro d p _ _ e h1 h2 _; omega
  | succ f ih =>
    intro d p hd h e h1 h2 h3
    unfold primeLoop at h
    have hde : d * d ≤ e * e := Int.mul_le_mul h1 h1 (by omega) (by omega)
    rw [if_pos (by omega)] at h
    split at h
    · cases h
    · rename_i hne
      by_cases he : e = d
      · rw [he]; exact hne
      · exact ih (d + 1) p (by omega) h e (by omega) (by omega) h3
theorem primeB_small {p : Int} (h : primeB p = true) (e : Int) (h1 : 2 ≤ e) (h2 : e * e ≤ p) : p % e ≠ 0 := by
  have hp := primeB_lo h
  unfold primeB at h
  rw [if_neg (by omega), if_neg (by omega)] at h
  refine primeLoop_spec 101 2 p (by omega) h e h1 ?_ h2
  rcases Int.lt_or_le e 103 with hh | hh
  · omega
  · have : (103 : Int) * 103 ≤ e * e := Int.mul_le_mul hh hh (by omega) (by omega)
    omega
/-- No number between 1 and p divides p. -/
theorem primeB_dvd {p : Int} (h : primeB p = true) (e : Nat) (he : 2 ≤ e) (hd : e ∣ p.toNat) : e = p.toNat := by
  have hp := primeB_lo h
  obtain ⟨c, hc⟩ := hd
  have hpc : p = (e : Int) * (c : Int) := by
    have h1 : ((p.toNat : Nat) : Int) = p := Int.toNat_of_nonneg (by omega)
    rw [← h1, hc]
    simp
  have hcpos : c ≠ 0 := fun h0 => by subst h0; simp at hpc; omega
  by_cases hc1 : c = 1
  · subst hc1; simpa using hc.symm
  · exfalso
    rcases Nat.le_total e c with hle | hle
    · have h2 : (e : Int) * e ≤ p := by rw [hpc]; exact Int.mul_le_mul_of_nonneg_left (by omega) (by omega)
      exact primeB_small h e (by omega) h2 (by rw [hpc]; exact Int.mul_emod_right _ _)
    · have h2 : (c : Int) * c ≤ p := by rw [hpc]; exact Int.mul_le_mul_of_nonneg_right (by omega) (by omega)
      exact primeB_small h c (by omega) h2 (by rw [hpc]; exact Int.mul_emod_left _ _)
/-- A prime divides no product of numbers that it doesn't divide. -/
theorem prime_mul {p a b : Int} (h : primeB p = true) (ha0 : 0 < a) (ha1 : a < p) (hb0 : 0 < b) (hb1 : b < p) : a * b % p ≠ 0 := by
  intro hz
  have hp := primeB_lo h
  obtain ⟨P, rfl⟩ := Int.eq_ofNat_of_zero_le (show 0 ≤ p by omega)
  obtain ⟨A, rfl⟩ := Int.eq_ofNat_of_zero_le (show 0 ≤ a by omega)
  obtain ⟨B, rfl⟩ := Int.eq_ofNat_of_zero_le (show 0 ≤ b by omega)
  have hdv : P ∣ A * B := by
    have : (P : Int) ∣ (A : Int) * B := Int.dvd_of_emod_eq_zero hz
    exact_mod_cast this
  have hg : Nat.gcd P A ∣ P := Nat.gcd_dvd_left _ _
  have hg1 : Nat.gcd P A = 1 := by
    rcases Nat.lt_or_ge (Nat.gcd P A) 2 with hlt | hge
    · have : 0 < Nat.gcd P A := Nat.gcd_pos_of_pos_left _ (by omega)
      omega
    · have h1 := primeB_dvd h _ hge (by simpa using hg)
      have h2 : Nat.gcd P A ≤ A := Nat.gcd_le_right _ (by omega)
      simp at h1
      omega
  have : P ∣ B := Nat.Coprime.dvd_of_dvd_mul_left (Nat.coprime_iff_gcd_eq_one.2 hg1) hdv
  have := Nat.le_of_dvd (by omega) this
  omega

def mulIn (p a : Int) (g : List Int) (H : Nat → Int) (i k : Nat) : Nat → Int := fun j => if i ≤ j ∧ j < i + k then (H j + a * g.getD (j - i) 0) % p else H j
def mulH (p : Int) (f g : List Int) : Nat → Nat → Int
  | 0 => fun _ => 0
  | i + 1 => mulIn p (f.getD i 0) g (mulH p f g i) i g.length
def mulM (p : Int) (f g : List Int) : List Int := if f.isEmpty || g.isEmpty then [] else tab (f.length + g.length - 1) (mulH p f g f.length)
theorem mulIn_step (p a : Int) (g : List Int) (H : Nat → Int) (N i k : Nat) : (tab N (mulIn p a g H i k)).set (i + k) ((H (i + k) + a * g.getD k 0) % p) = tab N (mulIn p a g H i (k + 1)) := by
  rw [tab_set]
  apply tab_congr
  intro j _
  unfold mulIn
  by_cases e : j = i + k
  · subst e
    rw [if_pos rfl, if_pos (by omega), show i + k - i = k by omega]
  · rw [if_neg e]
    by_cases h : i ≤ j ∧ j < i + k
    · rw [if_pos h, if_pos (by omega)]
    · rw [if_neg h, if_neg (by omega)]
theorem mulIn_zero (p a : Int) (g : List Int) (H : Nat → Int) (i : Nat) : mulIn p a g H i 0 = H := by
  funext j
  unfold mulIn
  rw [if_neg (by omega)]
theorem mulIn_rng {p : Int} (hp : 2 ≤ p) {a : Int} {g : List Int} {H : Nat → Int} {i k : Nat} (hH : ∀ j, 0 ≤ H j ∧ H j < p) : ∀ j, 0 ≤ mulIn p a g H i k j ∧ mulIn p a g H i k j < p := by
  intro j
  unfold mulIn
  split
  · exact modb hp
  · exact hH j
theorem mulH_rng {p : Int} (hp : 2 ≤ p) (f g : List Int) (i : Nat) : ∀ j, 0 ≤ mulH p f g i j ∧ mulH p f g i j < p := by
  induction i with
  | zero => intro j; simp [mulH]; omega
  | succ i ih => exact mulIn_rng hp ih
theorem mulH_far (p : Int) (f g : List Int) (i : Nat) : ∀ j, i + g.length ≤ j + 1 → mulH p f g i j = 0 := by
  induction i with
  | zero => intro j _; rfl
  | succ i ih =>
    intro j hj
    unfold mulH mulIn
    rw [if_neg (by omega)]
    exact ih j (by omega)
theorem mulM_len {p : Int} {f g : List Int} (h1 : f ≠ []) (h2 : g ≠ []) : (mulM p f g).length = f.length + g.length - 1 := by
  unfold mulM
  cases f with
  | nil => exact absurd rfl h1
  | cons a f =>
    cases g with
    | nil => exact absurd rfl h2
    | cons b g => simp [tab_len]
theorem trimL_self {xs : List Int} (h : xs.getD (xs.length - 1) 0 ≠ 0) : trimL xs = xs := by
  unfold trimL
  by_cases h0 : xs.length = 0
  · have : xs = [] := List.eq_nil_of_length_eq_zero h0
    subst this; rfl
  · rw [trimN_stop h (by omega)]
    simp
theorem trimL_nil : trimL [] = [] := rfl
/-- The product of two polynomials has no zero at its end. -/
theorem mulM_trim {p : Int} {f g : List Int} (hp : primeB p = true) (hf : polyB p f = true) (hg : polyB p g = true) : trimL (mulM p f g) = mulM p f g := by
  by_cases h1 : f = []
  · subst h1; rfl
  by_cases h2 : g = []
  · subst h2; unfold mulM; simp; rfl
  have hpl := primeB_lo hp
  have lf : f.length ≠ 0 := fun h => h1 (List.eq_nil_of_length_eq_zero h)
  have lg : g.length ≠ 0 := fun h => h2 (List.eq_nil_of_length_eq_zero h)
  apply trimL_self
  rw [mulM_len h1 h2]
  have e : mulM p f g = tab (f.length + g.length - 1) (mulH p f g f.length) := by
    unfold mulM
    have e1 : f.isEmpty = false := by simpa using h1
    have e2 : g.isEmpty = false := by simpa using h2
    rw [e1, e2]; rfl
  rw [e, tab_at _ _ _ (by omega)]
  obtain ⟨n, hn⟩ : ∃ n, f.length = n + 1 := ⟨f.length - 1, by omega⟩
  rw [hn]
  unfold mulH mulIn
  rw [if_pos (by omega), mulH_far p f g n _ (by omega)]
  obtain ⟨f1, f2, f3⟩ := polyB_rng hf
  obtain ⟨g1, g2, g3⟩ := polyB_rng hg
  have a1 := areB_at f2 n (by omega)
  have b1 := areB_at g2 (g.length - 1) (by omega)
  have a0 : f.getD n 0 ≠ 0 := by
    rcases f3 with h | h
    · exact absurd h h1
    · rwa [hn, Nat.add_sub_cancel] at h
  have b0 : g.getD (g.length - 1) 0 ≠ 0 := by
    rcases g3 with h | h
    · exact absurd h h2
    · exact h
  have e2 : n + 1 + g.length - 1 - 1 - n = g.length - 1 := by omega
  rw [e2, Int.zero_add]
  exact prime_mul hp (by omega) (by omega) (by omega) (by omega)
end Go.Proofs.Ytkpmonopjkjflaa
